/-
  lcp.repeats: what tells whether it has been asked of a type already.
  lcp.holds: does it come to its end, or is something thrown?
  lcp.with: one option more.
-/
import Derived.Test.YtonbdcajepmgbaaLcOptions
import Derived.Maps.OwnOps
import Derived.Maps.Views
import Derived.Defers
import Derived.Recover
import Derived.Tactics2
namespace Go.Proofs.Ytonbdcajepmgbaa
open Go.RowKit Go.Maps
set_option maxRecDepth 100000
set_option maxHeartbeats 1000000
set_option linter.unusedSimpArgs false
set_option linter.unusedVariables false

theorem lawI : Keyed Try.prog 3 := int_keyed Try.underlying3
theorem zeroI (w : World) : (zeroValue 3).run Try.prog w = .ok (.int .i64 0) w := by kernel_rfl
/-- the map at block m tells how often each number stands in ks -/
def MetAt (w : World) (m : Nat) (ks : List Int) : Prop := ∃ D : DataW Unit, w.ownsMap Try.prog 3 (plainElem Try.prog 3) m ks.length D ∧ IsMap D ∧ ∀ k : Int, D.atKey (.int .i64 k) (.lit (.int .i64 0)) = .lit (.int .i64 (ks.count k))
/-- the variable at block g holds that map -/
def RepAt (w : World) (g m : Nat) (ks : List Int) : Prop := Blk w g 174 [.map (some m)] ∧ g ≠ m ∧ MetAt w m ks
theorem MetAt.kept {w w' : World} {m : Nat} {ks : List Int} {row : Option Nat} (h : MetAt w m ks) (hg : w.grownBy w' row) (hne : some m ≠ row) : MetAt w' m ks := by
  obtain ⟨D, h1, h2⟩ := h
  exact ⟨D, h1.kept hg hne, h2⟩
theorem MetAt.lt {w : World} {m : Nat} {ks : List Int} (h : MetAt w m ks) : m < w.heap.size := by
  obtain ⟨D, h1, h2⟩ := h
  exact h1.lt
theorem RepAt.later {w w' : World} {g m : Nat} {ks : List Int} (h : RepAt w g m ks) (hB : Below w.heap.size w w') : RepAt w' g m ks :=
  ⟨(hB.block g h.1.lt).trans h.1, h.2.1, h.2.2.kept (only_of_below hB none) (by simp)⟩
theorem repeats_any (w : World) : Calls Try.prog 103 #[] w fun e w' => ∃ g m, e = .returned (.func (.func 136) #[] #[.pointer (some ⟨g, 0, none⟩)]) ∧ RepAt w' g m [] ∧ w.heap.size ≤ g ∧ w.heap.size ≤ m ∧ Below w.heap.size w w' := by
  have hmm := @run_makeMap Try.prog
  have hmf : ∀ (fn : Fn) (first cap : Array Value) (w : World), (Instr.makeFunc fn first cap).run Try.prog w = .ok (.func fn first cap) w := fun _ _ _ _ => rfl
  have HE : Hid (RepAt ((w.alloc (.map #[] 0)).alloc (.cells #[.map (some w.heap.size)] 174)) (w.heap.size + 1) w.heap.size [] ∧ Below w.heap.size w ((w.alloc (.map #[] 0)).alloc (.cells #[.map (some w.heap.size)] 174))) := by
    have h := blk_new (w.alloc (.map #[] 0)) 174 [.map (some w.heap.size)]
    rw [World.size_alloc] at h
    refine ⟨⟨h, by omega, ⟨.map [], (World.ownsMap_made w _ _ _).kept (World.grownBy_alloc _ _ none) (by simp), isMap_empty, fun k => rfl⟩⟩, ((Below.refl _ _).alloc (Nat.le_refl _) _).alloc (by simp) _⟩
  go_enter Try.func103, Try.ntmps103
  go_wp2
  go_ret
  exact ⟨_, _, rfl, HE.out.1, by omega, by omega, HE.out.2⟩
theorem again_any (K : Int) (g m : Nat) (ks : List Int) (w : World) (h : RepAt w g m ks) (hK : -9223372036854775808 ≤ K ∧ K ≤ 9223372036854775807) (hn : ks.length ≤ 4611686018427387904) :
    Calls Try.prog 136 #[.int .i64 K, .pointer (some ⟨g, 0, none⟩)] w fun e w' => e = .returned (.bool (ks.contains K)) ∧ RepAt w' g m (ks ++ [K]) ∧ w.grownBy w' (some m) := by
  obtain ⟨hb, hgm, D, hown, hD, hat⟩ := h
  have c0 : w.cell? ⟨g, 0, none⟩ = some (.map (some m)) := hb.cell 0
  have hgl := hb.lt
  have hw : (Lit.int .i64 K).wf = true := WalkArith.wf_i64 (by omega)
  have hkey : keyOf Try.prog 3 (.int .i64 K) = some (.int .i64 K) := keyOf_int_mk Try.underlying3 hw
  have hcnt : ks.count K ≤ ks.length := List.count_le_length
  have hkl : WideAt.IsKeyLit (.int .i64 K) := by first | trivial | exact rfl | simp [WideAt.IsKeyLit]
  have HC := Lib.hid (hat K)
  obtain ⟨c, hc⟩ : ∃ c, ks.count K = c := ⟨_, rfl⟩
  rw [hc] at hcnt
  have FIN : Hid (∀ w1, w1.ownsMap Try.prog 3 (plainElem Try.prog 3) m (ks.length + 1) (D.put (.int .i64 K) (.lit (.int .i64 ((c : Int) + 1)))) → w.grownBy w1 (some m) → RepAt w1 g m (ks ++ [K]) ∧ w1.cell? ⟨g, 0, none⟩ = some (.map (some m)) ∧ (D.put (.int .i64 K) (.lit (.int .i64 ((c : Int) + 1)))).atKey (.int .i64 K) (.lit (.int .i64 0)) = .lit (.int .i64 ((c : Int) + 1))) := by
    intro w1 ho hg
    have hb1 : Blk w1 g 174 [.map (some m)] := (hg.block g hgl (fun e => hgm (by injection e))).trans hb
    refine ⟨⟨hb1, hgm, ⟨_, by rw [List.length_append]; exact ho, hD.put _ _, fun k => ?_⟩⟩, hb1.cell 0, atKey_put_same hD hkl _ _⟩
    by_cases hk : k = K
    · subst hk
      rw [atKey_put_same hD hkl, List.count_append, hc]
      simp
    · rw [atKey_put_other (fun e => hk (by injection e))]
      rw [hat k, List.count_append]
      have : [K].count k = 0 := by simp [List.count_cons, Ne.symm hk, hk]
      rw [this, Nat.add_zero]
  have HIN : Hid (ks.contains K = decide (1 ≤ c)) := by
    show _ = _
    rw [← hc]
    by_cases hin : K ∈ ks
    · have := List.count_pos_iff.2 hin
      rw [decide_eq_true (by omega)]
      simpa using hin
    · have := List.count_eq_zero_of_not_mem hin
      rw [decide_eq_false (by omega)]
      simpa using hin
  rw [hc] at HC
  have HO := Lib.hid hown
  have hle : (c : Int) + 1 ≤ 9223372036854775807 := by omega
  have HL : Hid (ks.length < maxLen) := by
    show _ < _
    unfold maxLen
    omega
  clear hb hat hD hown hc hcnt hn hgm hw
  go_enter Try.func136, Try.ntmps136
  go_wp2_with (first
    | (at_lookup; refine wpList_lookup_own_int _ rfl (.tmp 4) (.tmp 5) 174 rfl 3 3 .i64 lawI Try.underlying174 Try.underlying3 (zeroI _) m ks.length D rfl HO.out _ _ rfl hkey ?_; intro x hx hwx; (obtain rfl : x = (c : Int) := (by have h2 := hx.symm.trans HC.out; injection h2 with h2; injection h2)); clear hx hwx)
    | (at_mapUpdate; refine wpList_mapUpdate_own _ rfl _ _ _ 174 rfl 3 3 lawI Try.underlying174 _ m ks.length D rfl HO.out HL.out _ _ _ rfl rfl hkey _ [] (plainElem_int Try.underlying3 (WalkArith.wf_i64 (by omega))) ?_; intro w1 hown1 hg1; obtain ⟨f1, f2, f3⟩ := FIN.out w1 hown1 hg1; have F1 := Lib.hid (And.intro f1 hg1); have F3 := Lib.hid f3; have HO1 := Lib.hid hown1; clear f1 f3 hown1 hg1)
    | (at_lookup; refine wpList_lookup_own_int _ rfl (.tmp 8) (.tmp 9) 174 rfl 3 3 .i64 lawI Try.underlying174 Try.underlying3 (zeroI _) m (ks.length + 1) _ rfl HO1.out _ _ rfl hkey ?_; intro x hx hwx; (obtain rfl : x = (c : Int) + 1 := (by have h2 := hx.symm.trans F3.out; injection h2 with h2; injection h2)); clear hx hwx))
  go_ret
  exact ⟨by rw [HIN.out, show decide (1 ≤ c) = decide ((1 : Int) < (c : Int) + 1) by by_cases h : 1 ≤ c <;> simp [h] <;> omega]; rfl, F1.out⟩
end Go.Proofs.Ytonbdcajepmgbaa
namespace Go.Proofs.Ytonbdcajepmgbaa
open Go.RowKit
set_option maxRecDepth 100000
set_option maxHeartbeats 1000000
set_option linter.unusedSimpArgs false
set_option linter.unusedVariables false

theorem catch_panicking (p : Addr) (x : Bool) (u : TypeId) (pv : Value) (older : List PanicEntry) (w : World) (hc : w.cell? p = some (.bool x)) (hz : w.frozen? p = false) :
    CallsD Try.prog 137 #[.pointer (some p)] (.panicking ({ v := .iface u pv, recovered := false } :: older)) w fun e u' w' =>
      e = .returned (.tuple #[]) ∧ u' = .panicking ({ v := .iface u pv, recovered := true } :: older) ∧ w' = w.setCell p (.bool false) := by
  refine callsD_of_wpS Try.func137 rfl fun c₀ cs hu => ?_
  apply wpS_seq
  apply wpS_region
  simp [wpOpsS, go_sem, recoverD, hu, Try.ntmps137, Exit.thenS]
  refine wpS_cond (t := true) (by simp [Act.eval, Array.replicate]) ?_
  simp only [if_true]
  apply wpS_region
  simp [wpOpsS, go_sem, hc, hz, bodyPostS, results, Try.results137]
theorem catch_idle (p : Addr) (w : World) :
    CallsD Try.prog 137 #[.pointer (some p)] .returning w fun e u' w' => e = .returned (.tuple #[]) ∧ u' = .returning ∧ w' = w := by
  refine callsD_of_wpS Try.func137 rfl fun c₀ cs hu => ?_
  apply wpS_seq
  apply wpS_region
  simp [wpOpsS, go_sem, recoverD, hu, Try.ntmps137, Exit.thenS]
  refine wpS_cond (t := false) (by simp [Act.eval, Array.replicate]) ?_
  simp only [Bool.false_eq_true, if_false]
  refine wpS_of_wp (wp_skip ?_)
  cases c₀
  simp_all [bodyPostS, results, Try.results137]
theorem holds_any (f : Nat) (caps : Array Value) (w : World) (R : Bool → World → Prop) (hcf : ∀ W, (callFunc f caps).run Try.prog W = .ok (.enter f caps) W)
    (h : Calls Try.prog f caps (w.alloc (.cells #[.bool false] 4)) fun e w1 => Blk w1 w.heap.size 4 [.bool false] ∧ (e = .returned (.tuple #[]) ∧ R true w1 ∨ e = .panicked thrown ∧ R false w1)) :
    Calls Try.prog 104 #[.func (.func f) #[] caps] w fun e w' => ∃ b w1, e = .returned (.bool b) ∧ R b w1 ∧ w' = w1.setCell ⟨w.heap.size, 0, none⟩ (.bool b) := by
  have hmf : ∀ (fn : Fn) (first cap : Array Value) (w : World), (Instr.makeFunc fn first cap).run Try.prog w = .ok (.func fn first cap) w := fun _ _ _ _ => rfl
  go_enter_defers Try.func104, Try.ntmps104
  go_wp2_with fail
  refine h.mono ?_
  rintro e w1 ⟨hb, ⟨rfl, hr⟩ | ⟨rfl, hr⟩⟩
  · have c0 : w1.cell? ⟨w.heap.size, 0, none⟩ = some (.bool false) := hb.cell 0
    have f0 := hb.frozen 0
    have HR := Lib.hid hr
    clear hr hb h
    go_wp2
    refine leaves_cons (f := 137) (args := #[.pointer (some ⟨w.heap.size, 0, none⟩)]) (by simp) (by simp [go_sem]) ?_
    refine (catch_idle ⟨w.heap.size, 0, none⟩ _).mono ?_
    rintro e u' w'' ⟨rfl, rfl, rfl⟩
    simp [Leaves, settle, results, Try.results104, go_sem, c0, f0]
    exact ⟨_, HR.out, rfl⟩
  · have c0 : w1.cell? ⟨w.heap.size, 0, none⟩ = some (.bool false) := hb.cell 0
    have f0 := hb.frozen 0
    have HR := Lib.hid hr
    clear hr hb h
    unfold thrown
    go_wp2
    refine leaves_cons (f := 137) (args := #[.pointer (some ⟨w.heap.size, 0, none⟩)]) (by simp) (by simp [go_sem]) ?_
    refine (catch_panicking ⟨w.heap.size, 0, none⟩ false _ _ [] _ c0 f0).mono ?_
    rintro e u' w'' ⟨rfl, rfl, rfl⟩
    simp [Leaves, settle, results, Try.results104, go_sem, c0, f0]
    exact ⟨_, HR.out, rfl⟩
end Go.Proofs.Ytonbdcajepmgbaa
namespace Go.Proofs.Ytonbdcajepmgbaa
open Go.RowKit
set_option maxRecDepth 100000
set_option maxHeartbeats 2000000
set_option linter.unusedSimpArgs false
set_option linter.unusedVariables false

/-- what one option more says; none: it can not be -/
def withO (o : LOpts) (a : Opt) : Option LOpts :=
  if a.1 = 1 then (if a.2.length = 2 ∧ 64 ≤ num a.2 2 ∧ num a.2 2 ≤ 16384 then some { o with mru := num a.2 2 } else none)
  else if a.1 = 2 then (if a.2.length = 4 then some { o with accm := num a.2 4 } else none)
  else if a.1 = 3 then (if mth a.2 ≠ 0 then some { o with auth := mth a.2 } else none)
  else if a.1 = 5 then (if a.2.length = 4 ∧ num a.2 4 ≠ 0 then some { o with magic := num a.2 4 } else none)
  else if a.1 = 7 then (if a.2.length = 0 then some { o with pfc := true } else none)
  else if a.1 = 8 then (if a.2.length = 0 then some { o with acfc := true } else none)
  else none
def WithPost (w : World) (o : LOpts) (a : Opt) (e : Ending) (w' : World) : Prop := Below w.heap.size w w' ∧ ((∃ o', withO o a = some o' ∧ e = .returned o'.val) ∨ (withO o a = none ∧ e = .panicked thrown))
theorem num_4 (l : List UInt8) : 0 ≤ num l 4 ∧ num l 4 ≤ 4294967295 := by
  have h1 := num_lo l 4
  have h2 := num_hi l 4
  omega
theorem num_2 (l : List UInt8) : 0 ≤ num l 2 ∧ num l 2 ≤ 65535 := by
  have h1 := num_lo l 2
  have h2 := num_hi l 2
  omega
/-- the six cells set at last -/
def set6 (W : World) (g : Nat) (a b c d e f : Value) : World := (((((W.setCell ⟨g, 0, none⟩ a).setCell ⟨g, 1, none⟩ b).setCell ⟨g, 2, none⟩ c).setCell ⟨g, 3, none⟩ d).setCell ⟨g, 4, none⟩ e).setCell ⟨g, 5, none⟩ f
theorem set6_below {B : Nat} {a W : World} (h : Below B a W) (g : Nat) (hg : B ≤ g) (x y z u v t : Value) : Below B a (set6 W g x y z u v t) :=
  (((((h.setCell hg _).setCell hg _).setCell hg _).setCell hg _).setCell hg _).setCell hg _
theorem with_mru (o : LOpts) (D : Option Addr) (k c B : Nat) (l : List UInt8) (w : World) (hr : Rd w B D k l) (hB : B ≤ w.heap.size) (hkc : k ≤ c) (hk : k ≤ 140737488351232) :
    Calls Try.prog 107 #[o.val, .agg #[.int .i64 1, .slice D k c]] w fun e w' => WithPost w o (1, l) e w' := by
  have hl := hr.1
  have hzv : ∀ W, (zeroValue 76).run Try.prog W = .ok (.agg #[.int .i64 0, .int .i64 0, .int .i64 0, .int .u32 0, .bool false, .bool false]) W := fun W => by kernel_rfl
  have B3 : Below w.heap.size w (((w.alloc (.cells #[.int .i64 o.mru, .int .i64 o.accm, .int .i64 o.auth, .int .u32 o.magic, .bool o.pfc, .bool o.acfc] 76)).alloc (.cells #[.int .i64 1, .slice D k c] 70)).alloc (.cells #[.int .i64 0, .int .i64 0, .int .i64 0, .int .u32 0, .bool false, .bool false] 76)) := (((Below.refl _ _).alloc (Nat.le_refl _) _).alloc (by simp) _).alloc (by simp; omega) _
  have hb3 := hr.below (B3.mono hB)
  by_cases h2 : k = 2
  · subst h2
    have NY := Lib.hid (number2_yes D c B l _ hb3 hkc)
    have hb := num_2 l
    obtain ⟨x, hx⟩ : ∃ x, num l 2 = x := ⟨_, rfl⟩
    rw [hx] at NY hb
    obtain ⟨b1, b2⟩ := hb
    by_cases h64 : 64 ≤ x
    · by_cases h16 : x ≤ 16384
      · have WY : Hid (withO o (1, l) = some { o with mru := x }) := by show _ = _; simp [withO, hl, hx, h64, h16]
        clear hx
        unfold LOpts.val
        clear hb3 B3 hr
        go_enter Try.func107, Try.ntmps107
        go_wp2_with (first
          | (go_at_call 112; ((with_reducible refine NY.out.mono ?_); rintro e w2 ⟨rfl, rfl⟩))
          | (go_at_call 106; ((with_reducible refine (must_yes _).mono ?_); rintro e w' ⟨rfl, rfl⟩)))
        exact bodyPost_ret (v := .agg #[.int .i64 x, .int .i64 o.accm, .int .i64 o.auth, .int .u32 o.magic, .bool o.pfc, .bool o.acfc]) (by simp [results, Try.results107, go_sem]) rfl ⟨(((Below.refl _ _).alloc (Nat.le_refl _) _).alloc (by simp) _).alloc (by simp; omega) _, .inl ⟨_, WY.out, rfl⟩⟩
      · have WN : Hid (withO o (1, l) = none) := by show _ = _; simp [withO, hl, hx, h64, h16]
        have d16 : decide (x ≤ 16384) = false := by simp; omega
        clear hx
        unfold LOpts.val
        clear hb3 B3 hr
        go_enter Try.func107, Try.ntmps107
        go_wp2_with (first
          | (go_at_call 112; ((with_reducible refine NY.out.mono ?_); rintro e w2 ⟨rfl, rfl⟩))
          | (go_at_call 106; ((with_reducible refine (must_no _).mono ?_); rintro e w' ⟨rfl, rfl⟩)))
        exact ⟨rfl, (((Below.refl _ _).alloc (Nat.le_refl _) _).alloc (by simp) _).alloc (by simp; omega) _, .inr ⟨WN.out, rfl⟩⟩
    · have WN : Hid (withO o (1, l) = none) := by show _ = _; simp [withO, hl, hx, h64]
      clear hx
      unfold LOpts.val
      clear hb3 B3 hr
      go_enter Try.func107, Try.ntmps107
      go_wp2_with (first
        | (go_at_call 112; ((with_reducible refine NY.out.mono ?_); rintro e w2 ⟨rfl, rfl⟩))
        | (go_at_call 106; ((with_reducible refine (must_no _).mono ?_); rintro e w' ⟨rfl, rfl⟩)))
      exact ⟨rfl, (((Below.refl _ _).alloc (Nat.le_refl _) _).alloc (by simp) _).alloc (by simp; omega) _, .inr ⟨WN.out, rfl⟩⟩
  · have WN : Hid (withO o (1, l) = none) := by show _ = _; simp [withO, hl, h2]
    have NO := Lib.hid (number2_no D k c (((w.alloc (.cells #[.int .i64 o.mru, .int .i64 o.accm, .int .i64 o.auth, .int .u32 o.magic, .bool o.pfc, .bool o.acfc] 76)).alloc (.cells #[.int .i64 1, .slice D k c] 70)).alloc (.cells #[.int .i64 0, .int .i64 0, .int .i64 0, .int .u32 0, .bool false, .bool false] 76)) h2 (by unfold maxLen; omega))
    clear h2
    unfold LOpts.val
    clear hb3 B3 hr
    go_enter Try.func107, Try.ntmps107
    go_wp2_with (first
      | (go_at_call 112; ((with_reducible refine NO.out.mono ?_); rintro e w2 ⟨rfl, rfl⟩)))
    exact ⟨rfl, (((Below.refl _ _).alloc (Nat.le_refl _) _).alloc (by simp) _).alloc (by simp; omega) _, .inr ⟨WN.out, rfl⟩⟩
theorem with_accm (o : LOpts) (D : Option Addr) (k c B : Nat) (l : List UInt8) (w : World) (hr : Rd w B D k l) (hB : B ≤ w.heap.size) (hkc : k ≤ c) (hk : k ≤ 140737488351232) :
    Calls Try.prog 107 #[o.val, .agg #[.int .i64 2, .slice D k c]] w fun e w' => WithPost w o (2, l) e w' := by
  have hl := hr.1
  have hzv : ∀ W, (zeroValue 76).run Try.prog W = .ok (.agg #[.int .i64 0, .int .i64 0, .int .i64 0, .int .u32 0, .bool false, .bool false]) W := fun W => by kernel_rfl
  have B3 : Below w.heap.size w (((w.alloc (.cells #[.int .i64 o.mru, .int .i64 o.accm, .int .i64 o.auth, .int .u32 o.magic, .bool o.pfc, .bool o.acfc] 76)).alloc (.cells #[.int .i64 2, .slice D k c] 70)).alloc (.cells #[.int .i64 0, .int .i64 0, .int .i64 0, .int .u32 0, .bool false, .bool false] 76)) := (((Below.refl _ _).alloc (Nat.le_refl _) _).alloc (by simp) _).alloc (by simp; omega) _
  have hb3 := hr.below (B3.mono hB)
  by_cases h2 : k = 4
  · subst h2
    have NY := Lib.hid (number4_yes D c B l _ hb3 hkc)
    have hb := num_4 l
    obtain ⟨x, hx⟩ : ∃ x, num l 4 = x := ⟨_, rfl⟩
    rw [hx] at NY hb
    obtain ⟨b1, b2⟩ := hb
    have WY : Hid (withO o (2, l) = some { o with accm := x }) := by show _ = _; simp [withO, hl, hx]
    clear hx
    unfold LOpts.val
    clear hb3 B3 hr
    go_enter Try.func107, Try.ntmps107
    go_wp2_with (first
      | (go_at_call 112; ((with_reducible refine NY.out.mono ?_); rintro e w2 ⟨rfl, rfl⟩)))
    exact bodyPost_ret (v := .agg #[.int .i64 o.mru, .int .i64 x, .int .i64 o.auth, .int .u32 o.magic, .bool o.pfc, .bool o.acfc]) (by simp [results, Try.results107, go_sem]) rfl ⟨(((Below.refl _ _).alloc (Nat.le_refl _) _).alloc (by simp) _).alloc (by simp; omega) _, .inl ⟨_, WY.out, rfl⟩⟩
  · have WN : Hid (withO o (2, l) = none) := by show _ = _; simp [withO, hl, h2]
    have NO := Lib.hid (number4_no D k c (((w.alloc (.cells #[.int .i64 o.mru, .int .i64 o.accm, .int .i64 o.auth, .int .u32 o.magic, .bool o.pfc, .bool o.acfc] 76)).alloc (.cells #[.int .i64 2, .slice D k c] 70)).alloc (.cells #[.int .i64 0, .int .i64 0, .int .i64 0, .int .u32 0, .bool false, .bool false] 76)) h2 (by unfold maxLen; omega))
    clear h2
    unfold LOpts.val
    clear hb3 B3 hr
    go_enter Try.func107, Try.ntmps107
    go_wp2_with (first
      | (go_at_call 112; ((with_reducible refine NO.out.mono ?_); rintro e w2 ⟨rfl, rfl⟩)))
    exact ⟨rfl, (((Below.refl _ _).alloc (Nat.le_refl _) _).alloc (by simp) _).alloc (by simp; omega) _, .inr ⟨WN.out, rfl⟩⟩
theorem with_magic (o : LOpts) (D : Option Addr) (k c B : Nat) (l : List UInt8) (w : World) (hr : Rd w B D k l) (hB : B ≤ w.heap.size) (hkc : k ≤ c) (hk : k ≤ 140737488351232) :
    Calls Try.prog 107 #[o.val, .agg #[.int .i64 5, .slice D k c]] w fun e w' => WithPost w o (5, l) e w' := by
  have hl := hr.1
  have hzv : ∀ W, (zeroValue 76).run Try.prog W = .ok (.agg #[.int .i64 0, .int .i64 0, .int .i64 0, .int .u32 0, .bool false, .bool false]) W := fun W => by kernel_rfl
  have B3 : Below w.heap.size w (((w.alloc (.cells #[.int .i64 o.mru, .int .i64 o.accm, .int .i64 o.auth, .int .u32 o.magic, .bool o.pfc, .bool o.acfc] 76)).alloc (.cells #[.int .i64 5, .slice D k c] 70)).alloc (.cells #[.int .i64 0, .int .i64 0, .int .i64 0, .int .u32 0, .bool false, .bool false] 76)) := (((Below.refl _ _).alloc (Nat.le_refl _) _).alloc (by simp) _).alloc (by simp; omega) _
  have hb3 := hr.below (B3.mono hB)
  by_cases h2 : k = 4
  · subst h2
    have NY := Lib.hid (number4_yes D c B l _ hb3 hkc)
    have hb := num_4 l
    obtain ⟨x, hx⟩ : ∃ x, num l 4 = x := ⟨_, rfl⟩
    rw [hx] at NY hb
    obtain ⟨b1, b2⟩ := hb
    by_cases h0 : x = 0
    · have WN : Hid (withO o (5, l) = none) := by show _ = _; simp [withO, hl, hx, h0]
      have hx0 : (x != 0) = false := by simp [h0]
      clear hx h0
      unfold LOpts.val
      clear hb3 B3 hr
      go_enter Try.func107, Try.ntmps107
      go_wp2_with (first
        | (go_at_call 112; ((with_reducible refine NY.out.mono ?_); rintro e w2 ⟨rfl, rfl⟩))
        | (go_at_call 106; ((with_reducible refine (must_no _).mono ?_); rintro e w' ⟨rfl, rfl⟩)))
      exact ⟨rfl, (((Below.refl _ _).alloc (Nat.le_refl _) _).alloc (by simp) _).alloc (by simp; omega) _, .inr ⟨WN.out, rfl⟩⟩
    · have WY : Hid (withO o (5, l) = some { o with magic := x }) := by show _ = _; simp [withO, hl, hx, h0]
      have hx0 : (x != 0) = true := by simp [h0]
      clear hx h0
      unfold LOpts.val
      clear hb3 B3 hr
      go_enter Try.func107, Try.ntmps107
      go_wp2_with (first
        | (go_at_call 112; ((with_reducible refine NY.out.mono ?_); rintro e w2 ⟨rfl, rfl⟩))
        | (go_at_call 106; ((with_reducible refine (must_yes _).mono ?_); rintro e w' ⟨rfl, rfl⟩)))
      exact bodyPost_ret (v := .agg #[.int .i64 o.mru, .int .i64 o.accm, .int .i64 o.auth, .int .u32 x, .bool o.pfc, .bool o.acfc]) (by simp [results, Try.results107, go_sem]) rfl ⟨(((Below.refl _ _).alloc (Nat.le_refl _) _).alloc (by simp) _).alloc (by simp; omega) _, .inl ⟨_, WY.out, rfl⟩⟩
  · have WN : Hid (withO o (5, l) = none) := by show _ = _; simp [withO, hl, h2]
    have NO := Lib.hid (number4_no D k c (((w.alloc (.cells #[.int .i64 o.mru, .int .i64 o.accm, .int .i64 o.auth, .int .u32 o.magic, .bool o.pfc, .bool o.acfc] 76)).alloc (.cells #[.int .i64 5, .slice D k c] 70)).alloc (.cells #[.int .i64 0, .int .i64 0, .int .i64 0, .int .u32 0, .bool false, .bool false] 76)) h2 (by unfold maxLen; omega))
    clear h2
    unfold LOpts.val
    clear hb3 B3 hr
    go_enter Try.func107, Try.ntmps107
    go_wp2_with (first
      | (go_at_call 112; ((with_reducible refine NO.out.mono ?_); rintro e w2 ⟨rfl, rfl⟩)))
    exact ⟨rfl, (((Below.refl _ _).alloc (Nat.le_refl _) _).alloc (by simp) _).alloc (by simp; omega) _, .inr ⟨WN.out, rfl⟩⟩
theorem with_pfc (o : LOpts) (D : Option Addr) (k c B : Nat) (l : List UInt8) (w : World) (hr : Rd w B D k l) (hB : B ≤ w.heap.size) (hkc : k ≤ c) (hk : k ≤ 140737488351232) :
    Calls Try.prog 107 #[o.val, .agg #[.int .i64 7, .slice D k c]] w fun e w' => WithPost w o (7, l) e w' := by
  have hl := hr.1
  have hzv : ∀ W, (zeroValue 76).run Try.prog W = .ok (.agg #[.int .i64 0, .int .i64 0, .int .i64 0, .int .u32 0, .bool false, .bool false]) W := fun W => by kernel_rfl
  have B3 : Below w.heap.size w (((w.alloc (.cells #[.int .i64 o.mru, .int .i64 o.accm, .int .i64 o.auth, .int .u32 o.magic, .bool o.pfc, .bool o.acfc] 76)).alloc (.cells #[.int .i64 7, .slice D k c] 70)).alloc (.cells #[.int .i64 0, .int .i64 0, .int .i64 0, .int .u32 0, .bool false, .bool false] 76)) := (((Below.refl _ _).alloc (Nat.le_refl _) _).alloc (by simp) _).alloc (by simp; omega) _
  have hb3 := hr.below (B3.mono hB)
  by_cases h0 : k = 0
  · subst h0
    have WY : Hid (withO o (7, l) = some { o with pfc := true }) := by show _ = _; simp [withO, hl]
    unfold LOpts.val
    clear hb3 B3 hr
    go_enter Try.func107, Try.ntmps107
    go_wp2_with (first
      | (go_at_call 106; ((with_reducible refine (must_yes _).mono ?_); rintro e w' ⟨rfl, rfl⟩)))
    exact bodyPost_ret (v := .agg #[.int .i64 o.mru, .int .i64 o.accm, .int .i64 o.auth, .int .u32 o.magic, .bool true, .bool o.acfc]) (by simp [results, Try.results107, go_sem]) rfl ⟨(((Below.refl _ _).alloc (Nat.le_refl _) _).alloc (by simp) _).alloc (by simp; omega) _, .inl ⟨_, WY.out, rfl⟩⟩
  · have WN : Hid (withO o (7, l) = none) := by show _ = _; simp [withO, hl, h0]
    have ht : ((k : Int) == 0) = false := by simp; omega
    unfold LOpts.val
    clear hb3 B3 hr
    go_enter Try.func107, Try.ntmps107
    go_wp2_with (first
      | (go_at_call 106; ((with_reducible refine (must_no _).mono ?_); rintro e w' ⟨rfl, rfl⟩)))
    exact ⟨rfl, (((Below.refl _ _).alloc (Nat.le_refl _) _).alloc (by simp) _).alloc (by simp; omega) _, .inr ⟨WN.out, rfl⟩⟩
theorem with_acfc (o : LOpts) (D : Option Addr) (k c B : Nat) (l : List UInt8) (w : World) (hr : Rd w B D k l) (hB : B ≤ w.heap.size) (hkc : k ≤ c) (hk : k ≤ 140737488351232) :
    Calls Try.prog 107 #[o.val, .agg #[.int .i64 8, .slice D k c]] w fun e w' => WithPost w o (8, l) e w' := by
  have hl := hr.1
  have hzv : ∀ W, (zeroValue 76).run Try.prog W = .ok (.agg #[.int .i64 0, .int .i64 0, .int .i64 0, .int .u32 0, .bool false, .bool false]) W := fun W => by kernel_rfl
  have B3 : Below w.heap.size w (((w.alloc (.cells #[.int .i64 o.mru, .int .i64 o.accm, .int .i64 o.auth, .int .u32 o.magic, .bool o.pfc, .bool o.acfc] 76)).alloc (.cells #[.int .i64 8, .slice D k c] 70)).alloc (.cells #[.int .i64 0, .int .i64 0, .int .i64 0, .int .u32 0, .bool false, .bool false] 76)) := (((Below.refl _ _).alloc (Nat.le_refl _) _).alloc (by simp) _).alloc (by simp; omega) _
  have hb3 := hr.below (B3.mono hB)
  by_cases h0 : k = 0
  · subst h0
    have WY : Hid (withO o (8, l) = some { o with acfc := true }) := by show _ = _; simp [withO, hl]
    unfold LOpts.val
    clear hb3 B3 hr
    go_enter Try.func107, Try.ntmps107
    go_wp2_with (first
      | (go_at_call 106; ((with_reducible refine (must_yes _).mono ?_); rintro e w' ⟨rfl, rfl⟩)))
    exact bodyPost_ret (v := .agg #[.int .i64 o.mru, .int .i64 o.accm, .int .i64 o.auth, .int .u32 o.magic, .bool o.pfc, .bool true]) (by simp [results, Try.results107, go_sem]) rfl ⟨(((Below.refl _ _).alloc (Nat.le_refl _) _).alloc (by simp) _).alloc (by simp; omega) _, .inl ⟨_, WY.out, rfl⟩⟩
  · have WN : Hid (withO o (8, l) = none) := by show _ = _; simp [withO, hl, h0]
    have ht : ((k : Int) == 0) = false := by simp; omega
    unfold LOpts.val
    clear hb3 B3 hr
    go_enter Try.func107, Try.ntmps107
    go_wp2_with (first
      | (go_at_call 106; ((with_reducible refine (must_no _).mono ?_); rintro e w' ⟨rfl, rfl⟩)))
    exact ⟨rfl, (((Below.refl _ _).alloc (Nat.le_refl _) _).alloc (by simp) _).alloc (by simp; omega) _, .inr ⟨WN.out, rfl⟩⟩
theorem with_other (o : LOpts) (K : Int) (k1 : K ≠ 1) (k2 : K ≠ 2) (k3 : K ≠ 3) (k5 : K ≠ 5) (k7 : K ≠ 7) (k8 : K ≠ 8) (D : Option Addr) (k c B : Nat) (l : List UInt8) (w : World) (hr : Rd w B D k l) (hB : B ≤ w.heap.size) (hkc : k ≤ c) (hk : k ≤ 140737488351232) :
    Calls Try.prog 107 #[o.val, .agg #[.int .i64 K, .slice D k c]] w fun e w' => WithPost w o (K, l) e w' := by
  have hl := hr.1
  have hzv : ∀ W, (zeroValue 76).run Try.prog W = .ok (.agg #[.int .i64 0, .int .i64 0, .int .i64 0, .int .u32 0, .bool false, .bool false]) W := fun W => by kernel_rfl
  have B3 : Below w.heap.size w (((w.alloc (.cells #[.int .i64 o.mru, .int .i64 o.accm, .int .i64 o.auth, .int .u32 o.magic, .bool o.pfc, .bool o.acfc] 76)).alloc (.cells #[.int .i64 K, .slice D k c] 70)).alloc (.cells #[.int .i64 0, .int .i64 0, .int .i64 0, .int .u32 0, .bool false, .bool false] 76)) := (((Below.refl _ _).alloc (Nat.le_refl _) _).alloc (by simp) _).alloc (by simp; omega) _
  have hb3 := hr.below (B3.mono hB)
  have e1 : (K == 1) = false := by simp [k1]
  have e2 : (K == 2) = false := by simp [k2]
  have e3 : (K == 3) = false := by simp [k3]
  have e5 : (K == 5) = false := by simp [k5]
  have e7 : (K == 7) = false := by simp [k7]
  have e8 : (K == 8) = false := by simp [k8]
  have WN : Hid (withO o (K, l) = none) := by show _ = _; simp [withO, k1, k2, k3, k5, k7, k8]
  clear k1 k2 k3 k5 k7 k8
  unfold LOpts.val
  clear hb3 B3 hr
  go_enter Try.func107, Try.ntmps107
  go_wp2_with (first
    | (go_at_call 106; ((with_reducible refine (must_no _).mono ?_); rintro e w' ⟨rfl, rfl⟩)))
  exact ⟨rfl, (((Below.refl _ _).alloc (Nat.le_refl _) _).alloc (by simp) _).alloc (by simp; omega) _, .inr ⟨WN.out, rfl⟩⟩
theorem with_auth (o : LOpts) (D : Option Addr) (k c B : Nat) (l : List UInt8) (w : World) (hr : Rd w B D k l) (hB : B ≤ w.heap.size) (hkc : k ≤ c) (hk : k ≤ 140737488351232) :
    Calls Try.prog 107 #[o.val, .agg #[.int .i64 3, .slice D k c]] w fun e w' => WithPost w o (3, l) e w' := by
  have hl := hr.1
  have hzv : ∀ W, (zeroValue 76).run Try.prog W = .ok (.agg #[.int .i64 0, .int .i64 0, .int .i64 0, .int .u32 0, .bool false, .bool false]) W := fun W => by kernel_rfl
  have B3 : Below w.heap.size w (((w.alloc (.cells #[.int .i64 o.mru, .int .i64 o.accm, .int .i64 o.auth, .int .u32 o.magic, .bool o.pfc, .bool o.acfc] 76)).alloc (.cells #[.int .i64 3, .slice D k c] 70)).alloc (.cells #[.int .i64 0, .int .i64 0, .int .i64 0, .int .u32 0, .bool false, .bool false] 76)) := (((Below.refl _ _).alloc (Nat.le_refl _) _).alloc (by simp) _).alloc (by simp; omega) _
  have hb3 := hr.below (B3.mono hB)
  have hz3 : (((w.alloc (.cells #[.int .i64 o.mru, .int .i64 o.accm, .int .i64 o.auth, .int .u32 o.magic, .bool o.pfc, .bool o.acfc] 76)).alloc (.cells #[.int .i64 3, .slice D k c] 70)).alloc (.cells #[.int .i64 0, .int .i64 0, .int .i64 0, .int .u32 0, .bool false, .bool false] 76)).heap.size = w.heap.size + 1 + 1 + 1 := by simp
  have kb0 : Blk (((w.alloc (.cells #[.int .i64 o.mru, .int .i64 o.accm, .int .i64 o.auth, .int .u32 o.magic, .bool o.pfc, .bool o.acfc] 76)).alloc (.cells #[.int .i64 3, .slice D k c] 70)).alloc (.cells #[.int .i64 0, .int .i64 0, .int .i64 0, .int .u32 0, .bool false, .bool false] 76)) w.heap.size 76 o.cells := by
    refine (Below.heap_alloc _ _ _ (by simp; omega)).trans ((Below.heap_alloc _ _ _ (by simp)).trans (blk_new w _ o.cells))
  have kb2 : Blk (((w.alloc (.cells #[.int .i64 o.mru, .int .i64 o.accm, .int .i64 o.auth, .int .u32 o.magic, .bool o.pfc, .bool o.acfc] 76)).alloc (.cells #[.int .i64 3, .slice D k c] 70)).alloc (.cells #[.int .i64 0, .int .i64 0, .int .i64 0, .int .u32 0, .bool false, .bool false] 76)) (w.heap.size + 1 + 1) 76 [.int .i64 0, .int .i64 0, .int .i64 0, .int .u32 0, .bool false, .bool false] := by
    have h := blk_new ((w.alloc (.cells #[.int .i64 o.mru, .int .i64 o.accm, .int .i64 o.auth, .int .u32 o.magic, .bool o.pfc, .bool o.acfc] 76)).alloc (.cells #[.int .i64 3, .slice D k c] 70)) 76 [.int .i64 0, .int .i64 0, .int .i64 0, .int .u32 0, .bool false, .bool false]
    rw [World.size_alloc, World.size_alloc] at h
    exact h
  obtain ⟨x, hx⟩ : ∃ x, mth l = x := ⟨_, rfl⟩
  have ME : Hid (Calls Try.prog 49 #[.slice D k c] (((w.alloc (.cells #[.int .i64 o.mru, .int .i64 o.accm, .int .i64 o.auth, .int .u32 o.magic, .bool o.pfc, .bool o.acfc] 76)).alloc (.cells #[.int .i64 3, .slice D k c] 70)).alloc (.cells #[.int .i64 0, .int .i64 0, .int .i64 0, .int .u32 0, .bool false, .bool false] 76)) fun e w1 => e = .returned (.int .i64 x) ∧ Blk w1 w.heap.size 76 o.cells ∧ Blk w1 (w.heap.size + 1 + 1) 76 [.int .i64 0, .int .i64 0, .int .i64 0, .int .u32 0, .bool false, .bool false] ∧ Below w.heap.size w w1) := by
    refine (method_any D k c B l _ hb3 (by omega)).mono ?_
    rw [hx]
    rintro e w1 ⟨rfl, hb⟩
    rw [hz3] at hb
    exact ⟨rfl, (hb.block _ (by omega)).trans kb0, (hb.block _ (by omega)).trans kb2, B3.trans (hb.mono (by omega))⟩
  clear hz3 kb0 kb2
  by_cases h0 : x = 0
  · have WN : Hid (withO o (3, l) = none) := by show _ = _; simp [withO, hx, h0]
    have hx0 : (x != 0) = false := by simp [h0]
    clear hx h0
    unfold LOpts.val
    clear hb3 B3 hr
    go_enter Try.func107, Try.ntmps107
    go_wp2_with (first
      | (go_at_call 49; ((with_reducible refine ME.out.mono ?_); rintro e w1 ⟨rfl, hb1, hb2, hbw⟩; have p0 : w1.cell? ⟨w.heap.size, 0, none⟩ = some (.int .i64 o.mru) := hb1.cell 0; have p1 : w1.cell? ⟨w.heap.size, 1, none⟩ = some (.int .i64 o.accm) := hb1.cell 1; have p2 : w1.cell? ⟨w.heap.size, 2, none⟩ = some (.int .i64 o.auth) := hb1.cell 2; have p3 : w1.cell? ⟨w.heap.size, 3, none⟩ = some (.int .u32 o.magic) := hb1.cell 3; have p4 : w1.cell? ⟨w.heap.size, 4, none⟩ = some (.bool o.pfc) := hb1.cell 4; have p5 : w1.cell? ⟨w.heap.size, 5, none⟩ = some (.bool o.acfc) := hb1.cell 5; have f2 := hb1.frozen 2; have q0 : w1.cell? ⟨w.heap.size + 1 + 1, 0, none⟩ = some (.int .i64 0) := hb2.cell 0; have q1 : w1.cell? ⟨w.heap.size + 1 + 1, 1, none⟩ = some (.int .i64 0) := hb2.cell 1; have q2 : w1.cell? ⟨w.heap.size + 1 + 1, 2, none⟩ = some (.int .i64 0) := hb2.cell 2; have q3 : w1.cell? ⟨w.heap.size + 1 + 1, 3, none⟩ = some (.int .u32 0) := hb2.cell 3; have q4 : w1.cell? ⟨w.heap.size + 1 + 1, 4, none⟩ = some (.bool false) := hb2.cell 4; have q5 : w1.cell? ⟨w.heap.size + 1 + 1, 5, none⟩ = some (.bool false) := hb2.cell 5; have g0 := hb2.frozen 0; have g1 := hb2.frozen 1; have g2 := hb2.frozen 2; have g3 := hb2.frozen 3; have g4 := hb2.frozen 4; have g5 := hb2.frozen 5; have HB := Lib.hid hbw; clear hb1 hb2 hbw))
      | (go_at_call 106; ((with_reducible refine (must_no _).mono ?_); rintro e w' ⟨rfl, rfl⟩)))
    exact ⟨rfl, HB.out.setCell (Nat.le_refl _) _, .inr ⟨WN.out, rfl⟩⟩
  · have WY : Hid (withO o (3, l) = some { o with auth := x }) := by show _ = _; simp [withO, hx, h0]
    have hx0 : (x != 0) = true := by simp [h0]
    clear hx h0
    unfold LOpts.val
    clear hb3 B3 hr
    go_enter Try.func107, Try.ntmps107
    go_wp2_with (first
      | (go_at_call 49; ((with_reducible refine ME.out.mono ?_); rintro e w1 ⟨rfl, hb1, hb2, hbw⟩; have p0 : w1.cell? ⟨w.heap.size, 0, none⟩ = some (.int .i64 o.mru) := hb1.cell 0; have p1 : w1.cell? ⟨w.heap.size, 1, none⟩ = some (.int .i64 o.accm) := hb1.cell 1; have p2 : w1.cell? ⟨w.heap.size, 2, none⟩ = some (.int .i64 o.auth) := hb1.cell 2; have p3 : w1.cell? ⟨w.heap.size, 3, none⟩ = some (.int .u32 o.magic) := hb1.cell 3; have p4 : w1.cell? ⟨w.heap.size, 4, none⟩ = some (.bool o.pfc) := hb1.cell 4; have p5 : w1.cell? ⟨w.heap.size, 5, none⟩ = some (.bool o.acfc) := hb1.cell 5; have f2 := hb1.frozen 2; have q0 : w1.cell? ⟨w.heap.size + 1 + 1, 0, none⟩ = some (.int .i64 0) := hb2.cell 0; have q1 : w1.cell? ⟨w.heap.size + 1 + 1, 1, none⟩ = some (.int .i64 0) := hb2.cell 1; have q2 : w1.cell? ⟨w.heap.size + 1 + 1, 2, none⟩ = some (.int .i64 0) := hb2.cell 2; have q3 : w1.cell? ⟨w.heap.size + 1 + 1, 3, none⟩ = some (.int .u32 0) := hb2.cell 3; have q4 : w1.cell? ⟨w.heap.size + 1 + 1, 4, none⟩ = some (.bool false) := hb2.cell 4; have q5 : w1.cell? ⟨w.heap.size + 1 + 1, 5, none⟩ = some (.bool false) := hb2.cell 5; have g0 := hb2.frozen 0; have g1 := hb2.frozen 1; have g2 := hb2.frozen 2; have g3 := hb2.frozen 3; have g4 := hb2.frozen 4; have g5 := hb2.frozen 5; have HB := Lib.hid hbw; clear hb1 hb2 hbw))
      | (go_at_call 106; ((with_reducible refine (must_yes _).mono ?_); rintro e w' ⟨rfl, rfl⟩)))
    exact bodyPost_ret (v := .agg #[.int .i64 o.mru, .int .i64 o.accm, .int .i64 x, .int .u32 o.magic, .bool o.pfc, .bool o.acfc]) (by simp [results, Try.results107, go_sem, p0, p1, p2, p3, p4, p5, q0, q1, q2, q3, q4, q5, f2, g0, g1, g2, g3, g4, g5]) rfl ⟨set6_below (HB.out.setCell (Nat.le_refl _) _) (w.heap.size + 1 + 1) (by omega) _ _ _ _ _ _, .inl ⟨_, WY.out, rfl⟩⟩
theorem with_any (o : LOpts) (K : Int) (D : Option Addr) (k c B : Nat) (l : List UInt8) (w : World) (hr : Rd w B D k l) (hB : B ≤ w.heap.size) (hkc : k ≤ c) (hk : k ≤ 140737488351232) :
    Calls Try.prog 107 #[o.val, .agg #[.int .i64 K, .slice D k c]] w fun e w' => WithPost w o (K, l) e w' := by
  by_cases k1 : K = 1
  · subst k1; exact with_mru o D k c B l w hr hB hkc hk
  by_cases k2 : K = 2
  · subst k2; exact with_accm o D k c B l w hr hB hkc hk
  by_cases k3 : K = 3
  · subst k3; exact with_auth o D k c B l w hr hB hkc hk
  by_cases k5 : K = 5
  · subst k5; exact with_magic o D k c B l w hr hB hkc hk
  by_cases k7 : K = 7
  · subst k7; exact with_pfc o D k c B l w hr hB hkc hk
  by_cases k8 : K = 8
  · subst k8; exact with_acfc o D k c B l w hr hB hkc hk
  exact with_other o K k1 k2 k3 k5 k7 k8 D k c B l w hr hB hkc hk
end Go.Proofs.Ytonbdcajepmgbaa
