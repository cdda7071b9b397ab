/-
  The closures of lcp.bearing: with which data an option is borne.
  lcp.bearing: what an option of a type is borne with.
-/
import Derived.Test.YtonbdcajepmgbaaLcReadA
import Derived.Deep.RegionWith
namespace Go.Proofs.Ytonbdcajepmgbaa
open Go.RowKit
set_option maxRecDepth 100000
set_option maxHeartbeats 4000000
set_option linter.unusedSimpArgs false
set_option linter.unusedVariables false

/-- borne with these data, and with its own or not; none: thrown -/
def BPost (W : World) (r : Option (List UInt8 × Bool)) (e : Ending) (w' : World) : Prop := Below W.heap.size W w' ∧ ((∃ F j q o d, r = some (o, d) ∧ e = .returned (.tuple #[.slice F j q, .bool d]) ∧ Own w' W.heap.size (.slice F j q) o) ∨ (r = none ∧ e = .panicked thrown))
def near (n : Int) : Int := min (max n 64) 16384
def bMru (l : List UInt8) : Option (List UInt8 × Bool) := if l.length = 2 then some (putB (near (num l 2)).toNat 2, near (num l 2) != num l 2) else none
def bSize (n : Nat) (l : List UInt8) : Option (List UInt8 × Bool) := if l.length = n then some ([], false) else none
def bAmong (ms : List Int) (l : List UInt8) : Option (List UInt8 × Bool) := if 2 ≤ l.length then some (authB (numAt ms 0), mth l == 0 || !ms.contains (mth l)) else none
def bUnlike (mine other : Int) (l : List UInt8) : Option (List UInt8 × Bool) := if l.length = 4 then some (putB other.toNat 4, num l 4 == 0 || num l 4 == mine) else none
theorem never_any (D : Option Addr) (k c : Nat) (w : World) : Calls Try.prog 142 #[.slice D k c] w fun e w' => BPost w none e w' := by
  go_enter Try.func142, Try.ntmps142
  go_wp2
  exact ⟨rfl, Below.refl _ _, .inr ⟨rfl, rfl⟩⟩
theorem sized_any (D : Option Addr) (k c n p : Nat) (l : List UInt8) (w : World) (hl : l.length = k) (hk : k ≤ 140737488351232) (hc : w.cell? ⟨p, 0, none⟩ = some (.int .i64 n)) (hn : n ≤ 4) :
    Calls Try.prog 148 #[.slice D k c, .pointer (some ⟨p, 0, none⟩)] w fun e w' => BPost w (bSize n l) e w' := by
  by_cases h : k = n
  · have t : ((k : Int) == (n : Int)) = true := by simp [h]
    have HB : Hid (bSize n l = some ([], false)) := by show _ = _; unfold bSize; rw [if_pos (by omega)]
    clear hl h
    go_enter Try.func148, Try.ntmps148
    go_wp2_with (go_at_call 106; ((with_reducible refine (must_yes _).mono ?_); rintro e w' ⟨rfl, rfl⟩))
    go_ret2
    exact ⟨Below.refl _ _, .inl ⟨none, 0, 0, [], false, HB.out, rfl, Own.nil _ _⟩⟩
  · have t : ((k : Int) == (n : Int)) = false := by simp; omega
    have HB : Hid (bSize n l = none) := by show _ = _; unfold bSize; rw [if_neg (by omega)]
    clear hl h
    go_enter Try.func148, Try.ntmps148
    go_wp2_with (go_at_call 106; ((with_reducible refine (must_no _).mono ?_); rintro e w' ⟨rfl, rfl⟩))
    exact ⟨rfl, Below.refl _ _, .inr ⟨HB.out, rfl⟩⟩
theorem nearest_any (D : Option Addr) (k c B p q : Nat) (l : List UInt8) (w : World) (hr : Rd w B D k l) (hB : B ≤ w.heap.size) (hkc : k ≤ c) (hk : k ≤ 140737488351232) (h1 : w.cell? ⟨p, 0, none⟩ = some (.int .i64 64)) (h2 : w.cell? ⟨q, 0, none⟩ = some (.int .i64 16384)) :
    Calls Try.prog 147 #[.slice D k c, .pointer (some ⟨p, 0, none⟩), .pointer (some ⟨q, 0, none⟩)] w fun e w' => BPost w (bMru l) e w' := by
  have hl := hr.1
  by_cases h : k = 2
  · subst h
    have hb := num_2 l
    have NY := Lib.hid (number2_yes D c B l w hr hkc)
    obtain ⟨x, hx⟩ : ∃ x, num l 2 = x := ⟨_, rfl⟩
    rw [hx] at NY hb
    obtain ⟨b1, b2⟩ := hb
    have HB : Hid (bMru l = some (putB (near x).toNat 2, near x != x)) := by show _ = _; unfold bMru; rw [if_pos hl, hx]
    have LO := Lib.hid fun (y : Int) (h0 : 0 ≤ y) (h1 : y ≤ 65535) => low2_any y w h0 (by omega)
    clear hx hr hl
    rcases (show x < 64 ∨ (64 ≤ x ∧ x ≤ 16384) ∨ 16384 < x by omega) with hc | ⟨hc1, hc2⟩ | hc
    · have L1 := Lib.hid (LO.out 64 (by omega) (by omega))
      have HN : Hid (near x = 64) := by show _ = _; unfold near; omega
      clear LO
      go_enter Try.func147, Try.ntmps147
      go_wp2_with (first
        | (go_at_call 112; ((with_reducible refine NY.out.mono ?_); rintro e w' ⟨rfl, rfl⟩))
        | (go_at_call 101; ((with_reducible refine L1.out.mono ?_); rintro e w1 ⟨rfl, ho, hb⟩; have HO := Lib.hid ho; have HBB := Lib.hid hb; clear ho hb)))
      all_goals first | omega | skip
      go_ret2
      exact ⟨HBB.out, .inl ⟨_, _, _, _, _, HB.out, by rw [HN.out]; rfl, by rw [HN.out]; exact HO.out⟩⟩
    · have L1 := Lib.hid (LO.out x (by omega) (by omega))
      have HN : Hid (near x = x) := by show _ = _; unfold near; omega
      clear LO
      go_enter Try.func147, Try.ntmps147
      go_wp2_with (first
        | (go_at_call 112; ((with_reducible refine NY.out.mono ?_); rintro e w' ⟨rfl, rfl⟩))
        | (go_at_call 101; ((with_reducible refine L1.out.mono ?_); rintro e w1 ⟨rfl, ho, hb⟩; have HO := Lib.hid ho; have HBB := Lib.hid hb; clear ho hb)))
      all_goals first | omega | skip
      go_ret2
      exact ⟨HBB.out, .inl ⟨_, _, _, _, _, HB.out, by rw [HN.out, show (x != x) = false by simp]; rfl, by rw [HN.out]; exact HO.out⟩⟩
    · have L1 := Lib.hid (LO.out 16384 (by omega) (by omega))
      have HN : Hid (near x = 16384) := by show _ = _; unfold near; omega
      clear LO
      go_enter Try.func147, Try.ntmps147
      go_wp2_with (first
        | (go_at_call 112; ((with_reducible refine NY.out.mono ?_); rintro e w' ⟨rfl, rfl⟩))
        | (go_at_call 101; ((with_reducible refine L1.out.mono ?_); rintro e w1 ⟨rfl, ho, hb⟩; have HO := Lib.hid ho; have HBB := Lib.hid hb; clear ho hb)))
      all_goals first | omega | skip
      go_ret2
      exact ⟨HBB.out, .inl ⟨_, _, _, _, _, HB.out, by rw [HN.out]; rfl, by rw [HN.out]; exact HO.out⟩⟩
  · have NO := Lib.hid (number2_no D k c w h (by unfold maxLen; omega))
    have HB : Hid (bMru l = none) := by show _ = _; unfold bMru; rw [if_neg (by omega)]
    clear hr hl h
    go_enter Try.func147, Try.ntmps147
    go_wp2_with (go_at_call 112; ((with_reducible refine NO.out.mono ?_); rintro e w' ⟨rfl, rfl⟩))
    exact ⟨rfl, Below.refl _ _, .inr ⟨HB.out, rfl⟩⟩
theorem unlike_any (D : Option Addr) (k c B p q : Nat) (l : List UInt8) (mine other : Int) (w : World) (hr : Rd w B D k l) (hB : B ≤ w.heap.size) (hkc : k ≤ c) (hk : k ≤ 140737488351232) (h1 : w.cell? ⟨p, 0, none⟩ = some (.int .u32 other)) (h2 : w.cell? ⟨q, 0, none⟩ = some (.int .u32 mine)) (hq : q < w.heap.size) (hp : p < w.heap.size) (ho : 0 ≤ other ∧ other < 4294967296) :
    Calls Try.prog 150 #[.slice D k c, .pointer (some ⟨p, 0, none⟩), .pointer (some ⟨q, 0, none⟩)] w fun e w' => BPost w (bUnlike mine other l) e w' := by
  have hl := hr.1
  by_cases h : k = 4
  · subst h
    have hb := num_4 l
    have NY := Lib.hid (number4_yes D c B l w hr hkc)
    obtain ⟨x, hx⟩ : ∃ x, num l 4 = x := ⟨_, rfl⟩
    rw [hx] at NY hb
    obtain ⟨b1, b2⟩ := hb
    have hw : IntKind.u64.wrap other = other := by rw [IntKind.wrap_u64]; omega
    have LO : Hid (Calls Try.prog 101 #[.int .u64 (IntKind.u64.wrap other), .int .i64 4] w.drew fun e w1 => e = .returned (.slice (some ⟨w.heap.size, 0, none⟩) 4 4) ∧ w1.cell? ⟨p, 0, none⟩ = some (.int .u32 other) ∧ w1.cell? ⟨q, 0, none⟩ = some (.int .u32 mine) ∧ Own w1 w.heap.size (.slice (some ⟨w.heap.size, 0, none⟩) 4 4) (putB other.toNat 4) ∧ Below w.heap.size w w1) := by
      rw [hw]
      refine (low4_any other w.drew ho.1 (by omega)).mono ?_
      rintro e w1 ⟨rfl, ho, hb⟩
      have hb := below_undrew' hb
      exact ⟨rfl, (hb.cell hp).trans h1, (hb.cell hq).trans h2, ho, hb⟩
    have HB : Hid (bUnlike mine other l = some (putB other.toNat 4, x == 0 || x == mine)) := by show _ = _; unfold bUnlike; rw [if_pos hl, hx]
    clear hx hr hl hw
    by_cases h0 : x = 0
    · have e0 : (x == 0) = true := by simp [h0]
      have HB2 : Hid (bUnlike mine other l = some (putB other.toNat 4, true)) := by show _ = _; rw [HB.out, e0, Bool.true_or]
      clear HB e0 b1 b2
      subst h0
      go_enter Try.func150, Try.ntmps150
      go_wp2_with (go_at_call 112; ((with_reducible refine NY.out.mono ?_); rintro e w' ⟨rfl, rfl⟩))
      refine wp_region_any (by kernel_rfl) ?_
      change wpAny _ _ _ _ _ _ _ (World.drew _)
      repeat' (first
        | (with_reducible exact AllReady.nil)
        | (refine AllReady.cons (i := 2) rfl (fun K hK => ?_) ?_; go_simp; go_at_call 101; (with_reducible refine LO.out.mono ?_); rintro e w1 ⟨rfl, y1, y2, ho1, hb1⟩; have HO := Lib.hid ho1; have HBB := Lib.hid hb1; clear ho1 hb1; refine hK _ _ ?_; clear hK K)
        | (refine AllReady.cons rfl (fun K hK => ?_) ?_; go_simp; refine hK _ _ ?_; clear hK K)
        | (refine wpAny_take (i := 3) (v := ?_) rfl (by decide +kernel) (by decide +kernel) (by decide +kernel) (fun _ _ _ h => h) (Or.inl ⟨by rfl, ?_⟩) ?_; rotate_left; focus (intro w; go_simp; first | done | with_reducible rfl))
        | (refine wpAny_take (i := 4) (v := ?_) rfl (by decide +kernel) (by decide +kernel) (by decide +kernel) (fun _ _ _ h => h) (Or.inl ⟨by rfl, ?_⟩) ?_; rotate_left; focus (intro w; go_simp; first | done | with_reducible rfl))
        | (refine wpAny_take (i := 5) (v := ?_) rfl (by decide +kernel) (by decide +kernel) (by decide +kernel) (fun _ _ _ h => h) (Or.inl ⟨by rfl, ?_⟩) ?_; rotate_left; focus (intro w; go_simp; first | done | with_reducible rfl))
        | (refine wpAny_take (i := 9) (v := ?_) rfl (by decide +kernel) (by decide +kernel) (by decide +kernel) (fun _ _ _ h => h) (Or.inl ⟨by rfl, ?_⟩) ?_; rotate_left; focus (intro w; go_simp; first | done | with_reducible rfl))
        | (refine wpAny_take (i := 10) (v := ?_) rfl (by decide +kernel) (by decide +kernel) (by decide +kernel) (fun _ _ _ h => h) (Or.inl ⟨by rfl, ?_⟩) ?_; rotate_left; focus (intro w; go_simp; first | done | with_reducible rfl))
        | (refine wpAny_take (i := 11) (v := ?_) rfl (by decide +kernel) (by decide +kernel) (by decide +kernel) (fun _ _ _ h => h) (Or.inl ⟨by rfl, ?_⟩) ?_; rotate_left; focus (intro w; go_simp; first | done | with_reducible rfl))
        | (refine wpAny_take (i := 6) (v := undef) rfl (by decide +kernel) (by decide +kernel) (by decide +kernel) (fun _ _ _ h => h) (Or.inr ⟨by rfl, rfl⟩) ?_)
        | (refine wpAny_take (i := 7) (v := undef) rfl (by decide +kernel) (by decide +kernel) (by decide +kernel) (fun _ _ _ h => h) (Or.inr ⟨by rfl, rfl⟩) ?_)
        | (refine wpAny_take (i := 8) (v := undef) rfl (by decide +kernel) (by decide +kernel) (by decide +kernel) (fun _ _ _ h => h) (Or.inr ⟨by rfl, rfl⟩) ?_)
        | refine wpAny_ready (rs := [0]) (by decide +kernel) (by simp) ?_
        | refine wpAny_ready (rs := [1]) (by decide +kernel) (by simp) ?_
        | refine wpAny_ready (rs := [2]) (by decide +kernel) (by simp) ?_
        | refine wpAny_done (by kernel_rfl) ?_ _)
      all_goals
        go_wp2
        go_ret2
        exact ⟨HBB.out, .inl ⟨_, _, _, _, _, HB2.out, rfl, HO.out⟩⟩
    · have e0 : (x == 0) = false := by simp [h0]
      have HB2 : Hid (bUnlike mine other l = some (putB other.toNat 4, x == mine)) := by show _ = _; rw [HB.out, e0, Bool.false_or]
      clear h0 HB
      go_enter Try.func150, Try.ntmps150
      go_wp2_with (go_at_call 112; ((with_reducible refine NY.out.mono ?_); rintro e w' ⟨rfl, rfl⟩))
      go_region_law (go_simp; go_at_call 101; (with_reducible refine LO.out.mono ?_); rintro e w1 ⟨rfl, y1, y2, ho1, hb1⟩; have HO := Lib.hid ho1; have HBB := Lib.hid hb1; clear ho1 hb1)
      all_goals
        go_wp2
        go_ret2
        exact ⟨HBB.out, .inl ⟨_, _, _, _, _, HB2.out, rfl, HO.out⟩⟩
  · have NO := Lib.hid (number4_no D k c w h (by unfold maxLen; omega))
    have HB : Hid (bUnlike mine other l = none) := by show _ = _; unfold bUnlike; rw [if_neg (by omega)]
    clear hr hl h
    go_enter Try.func150, Try.ntmps150
    go_wp2_with (go_at_call 112; ((with_reducible refine NO.out.mono ?_); rintro e w' ⟨rfl, rfl⟩))
    exact ⟨rfl, Below.refl _ _, .inr ⟨HB.out, rfl⟩⟩
theorem among_any (D : Option Addr) (k c B p : Nat) (l : List UInt8) (A : Option Addr) (m d : Nat) (ms : List Int) (w : World) (hr : Rd w B D k l) (hB : B ≤ w.heap.size) (hkc : k ≤ c) (hk : k ≤ 140737488351232) (h1 : w.cell? ⟨p, 0, none⟩ = some (.slice A m d)) (hp : p < w.heap.size) (hms : RdI w B A m ms) (hm0 : 0 < m) (hm : m ≤ 1152921504606846976) :
    Calls Try.prog 149 #[.slice D k c, .pointer (some ⟨p, 0, none⟩)] w fun e w' => BPost w (bAmong ms l) e w' := by
  have hl := hr.1
  by_cases h : 2 ≤ k
  · obtain ⟨x, hx⟩ : ∃ x, mth l = x := ⟨_, rfl⟩
    obtain ⟨b, off, rfl, hb, hc⟩ := hms.2 hm0
    obtain ⟨y, hy⟩ : ∃ y, numAt ms 0 = y := ⟨_, rfl⟩
    have hc0 := hc 0 hm0
    rw [hy, Nat.add_zero] at hc0
    have ME : Hid (Calls Try.prog 49 #[.slice D k c] w fun e w1 => e = .returned (.int .i64 x) ∧ w1.cell? ⟨p, 0, none⟩ = some (.slice (some ⟨b, off, none⟩) m d) ∧ w1.cell? ⟨b, off, none⟩ = some (.int .i64 y) ∧
        Calls Try.prog 46 #[.int .i64 y] w1 fun e w2 => ∃ F j q, e = .returned (.slice F j q) ∧ w2.cell? ⟨p, 0, none⟩ = some (.slice (some ⟨b, off, none⟩) m d) ∧ Own w2 w.heap.size (.slice F j q) (authB y) ∧ Below w.heap.size w w2 ∧
          Calls Try.prog 96 #[.slice (some ⟨b, off, none⟩) m d, .int .i64 x] w2 fun e w3 => e = .returned (.bool (ms.contains x)) ∧ w2 = w3) := by
      refine (method_any D k c B l w hr hB).mono ?_
      rw [hx]
      rintro e w1 ⟨rfl, b1⟩
      have s1 := b1.size
      refine ⟨rfl, (b1.cell hp).trans h1, (b1.cell (by show b < w.heap.size; omega)).trans hc0, (auth_any y w1).mono ?_⟩
      rintro e w2 ⟨F, j, q, rfl, ho, b2, _⟩
      have B2 := b1.trans (b2.mono s1)
      exact ⟨F, j, q, rfl, (B2.cell hp).trans h1, ho.base_le s1, B2, contains_any _ m d B ms x w2 (hms.below B2 hB) hm⟩
    have HB : Hid (bAmong ms l = some (authB y, x == 0 || !ms.contains x)) := by show _ = _; unfold bAmong; rw [if_pos (by omega), hx, hy]
    have t2 : (2 : Int) ≤ (k : Int) := by omega
    clear hx hr hl hy hms hc hc0 h1 hb
    by_cases h0 : x = 0
    · have e0 : (x == 0) = true := by simp [h0]
      have HB2 : Hid (bAmong ms l = some (authB y, true)) := by show _ = _; rw [HB.out, e0, Bool.true_or]
      clear h0 HB
      go_enter Try.func149, Try.ntmps149
      go_wp2_with (first
        | (go_at_call 106; ((with_reducible refine (must_yes _).mono ?_); rintro e w' ⟨rfl, rfl⟩))
        | (go_at_call 49; ((with_reducible refine ME.out.mono ?_); rintro e w1 ⟨rfl, y1, y2, n1⟩; have N1 := Lib.hid n1; clear n1))
        | (go_at_call 46; ((with_reducible refine N1.out.mono ?_); rintro e w2 ⟨F, j, q, rfl, z1, ho, hb, n2⟩; have N2 := Lib.hid n2; have HO := Lib.hid (And.intro ho hb); clear n2 ho hb)))
      go_ret2
      exact ⟨HO.out.2, .inl ⟨_, _, _, _, _, HB2.out, rfl, HO.out.1⟩⟩
    · have e0 : (x == 0) = false := by simp [h0]
      have HB2 : Hid (bAmong ms l = some (authB y, !decide (x ∈ ms))) := by show _ = _; rw [HB.out, e0, Bool.false_or]; simp
      clear h0 HB
      go_enter Try.func149, Try.ntmps149
      go_wp2_with (first
        | (go_at_call 106; ((with_reducible refine (must_yes _).mono ?_); rintro e w' ⟨rfl, rfl⟩))
        | (go_at_call 49; ((with_reducible refine ME.out.mono ?_); rintro e w1 ⟨rfl, y1, y2, n1⟩; have N1 := Lib.hid n1; clear n1))
        | (go_at_call 46; ((with_reducible refine N1.out.mono ?_); rintro e w2 ⟨F, j, q, rfl, z1, ho, hb, n2⟩; have N2 := Lib.hid n2; have HO := Lib.hid (And.intro ho hb); clear n2 ho hb))
        | (go_at_call 96; ((with_reducible refine N2.out.mono ?_); rintro e w3 ⟨rfl, rfl⟩)))
      go_ret2
      exact ⟨HO.out.2, .inl ⟨_, _, _, _, _, HB2.out, rfl, HO.out.1⟩⟩
  · have t2 : ¬ (2 : Int) ≤ (k : Int) := by omega
    have HB : Hid (bAmong ms l = none) := by show _ = _; unfold bAmong; rw [if_neg (by omega)]
    clear hr hl h
    go_enter Try.func149, Try.ntmps149
    go_wp2_with (go_at_call 106; ((with_reducible refine (must_no _).mono ?_); rintro e w' ⟨rfl, rfl⟩))
    exact ⟨rfl, Below.refl _ _, .inr ⟨HB.out, rfl⟩⟩
end Go.Proofs.Ytonbdcajepmgbaa
namespace Go.Proofs.Ytonbdcajepmgbaa
open Go.RowKit
set_option maxRecDepth 100000
set_option maxHeartbeats 4000000
set_option linter.unusedSimpArgs false
set_option linter.unusedVariables false

/-- what a configuration says of what is borne -/
structure CV where
  acc : List Int
  pfc : Bool
  acfc : Bool
  mg : Bool
  mf : Int
/-- a configuration by value -/
def ConfAt (w : World) (B : Nat) (cv : Array Value) (cc : CV) : Prop := cv.size = 33 ∧ (∃ A m d, cv[3]? = some (.slice A m d) ∧ RdI w B A m cc.acc ∧ m ≤ 1152921504606846976) ∧ cv[6]? = some (.bool cc.pfc) ∧ cv[7]? = some (.bool cc.acfc) ∧ cv[8]? = some (.bool cc.mg) ∧ cv[21]? = some (.int .i64 cc.mf)
def bears (cc : CV) (mine : LOpts) (magic : Int) (K : Int) (l : List UInt8) : Option (List UInt8 × Bool) :=
  if K = 1 then bMru l else if K = 2 then bSize 4 l else if K = 3 ∧ cc.acc ≠ [] then bAmong cc.acc l else if K = 5 ∧ cc.mg = true then bUnlike mine.magic magic l
  else if (K = 7 ∧ cc.pfc = true) ∨ (K = 8 ∧ cc.acfc = true) then bSize 0 l else none
/-- a closure that answers β, as long as what it has captured is kept -/
def BearsAt (w w1 : World) (B : Nat) (f : Nat) (caps : Array Value) (β : List UInt8 → Option (List UInt8 × Bool)) : Prop := Enters Try.prog f ∧ ∀ (W : World) (D : Option Addr) (k c C : Nat) (l : List UInt8),
  (∀ i, w.heap.size ≤ i → i < w1.heap.size → W.heap[i]? = w1.heap[i]?) → w1.heap.size ≤ W.heap.size → (∀ i, i < B → W.heap[i]? = w.heap[i]?) → Rd W C D k l → C ≤ W.heap.size → k ≤ c → k ≤ 140737488351232 →
    Calls Try.prog f (#[.slice D k c] ++ caps) W fun e w' => BPost W (β l) e w'
theorem nearest_mk (a b : Int) (w : World) : Calls Try.prog 138 #[.int .i64 a, .int .i64 b] w fun e w' => e = .returned (.func (.func 147) #[] #[.pointer (some ⟨w.heap.size, 0, none⟩), .pointer (some ⟨w.heap.size + 1, 0, none⟩)]) ∧ (w.alloc (.cells #[.int .i64 a] 3)).alloc (.cells #[.int .i64 b] 3) = w' := by
  have hmf : ∀ (fn : Fn) (first cap : Array Value) (w : World), (Instr.makeFunc fn first cap).run Try.prog w = .ok (.func fn first cap) w := fun _ _ _ _ => rfl
  go_enter Try.func138, Try.ntmps138
  go_wp2
  go_ret
  exact ⟨rfl, rfl⟩
theorem sized_mk (a : Int) (w : World) : Calls Try.prog 139 #[.int .i64 a] w fun e w' => e = .returned (.func (.func 148) #[] #[.pointer (some ⟨w.heap.size, 0, none⟩)]) ∧ w.alloc (.cells #[.int .i64 a] 3) = w' := by
  have hmf : ∀ (fn : Fn) (first cap : Array Value) (w : World), (Instr.makeFunc fn first cap).run Try.prog w = .ok (.func fn first cap) w := fun _ _ _ _ => rfl
  go_enter Try.func139, Try.ntmps139
  go_wp2
  go_ret
  exact ⟨rfl, rfl⟩
theorem among_mk (A : Option Addr) (m d : Nat) (w : World) : Calls Try.prog 140 #[.slice A m d] w fun e w' => e = .returned (.func (.func 149) #[] #[.pointer (some ⟨w.heap.size, 0, none⟩)]) ∧ w.alloc (.cells #[.slice A m d] 41) = w' := by
  have hmf : ∀ (fn : Fn) (first cap : Array Value) (w : World), (Instr.makeFunc fn first cap).run Try.prog w = .ok (.func fn first cap) w := fun _ _ _ _ => rfl
  go_enter Try.func140, Try.ntmps140
  go_wp2
  go_ret
  exact ⟨rfl, rfl⟩
theorem unlike_mk (a b : Int) (w : World) : Calls Try.prog 141 #[.int .u32 a, .int .u32 b] w fun e w' => e = .returned (.func (.func 150) #[] #[.pointer (some ⟨w.heap.size + 1, 0, none⟩), .pointer (some ⟨w.heap.size, 0, none⟩)]) ∧ (w.alloc (.cells #[.int .u32 a] 72)).alloc (.cells #[.int .u32 b] 72) = w' := by
  have hmf : ∀ (fn : Fn) (first cap : Array Value) (w : World), (Instr.makeFunc fn first cap).run Try.prog w = .ok (.func fn first cap) w := fun _ _ _ _ => rfl
  go_enter Try.func141, Try.ntmps141
  go_wp2
  go_ret
  exact ⟨rfl, rfl⟩
theorem at_of {cv : Array Value} {i : Nat} {v : Value} (h : cv[i]? = some v) : ∀ h : i < cv.size, cv[i] = v := fun hi => by
  rw [Array.getElem?_eq_getElem hi] at h
  injection h
section
variable {w w1 : World} {B : Nat}
theorem kept_blk {W : World} {p t : Nat} {cs : List Value} (hk : ∀ i, w.heap.size ≤ i → i < w1.heap.size → W.heap[i]? = w1.heap[i]?) (h : Blk w1 p t cs) (hp : w.heap.size ≤ p) : Blk W p t cs := (hk p hp h.lt).trans h
theorem bears_sized (n p : Nat) (h : Blk w1 p 3 [.int .i64 n]) (hp : w.heap.size ≤ p) (hn : n ≤ 4) : BearsAt w w1 B 148 #[.pointer (some ⟨p, 0, none⟩)] (bSize n) :=
  ⟨enters_of Try.func148 (by kernel_rfl) rfl, fun W D k c C l hk hs hb hr hC hkc hkk => sized_any D k c n p l W hr.1 hkk ((kept_blk hk h hp).cell 0) hn⟩
theorem bears_nearest (p q : Nat) (h : Blk w1 p 3 [.int .i64 64]) (h2 : Blk w1 q 3 [.int .i64 16384]) (hp : w.heap.size ≤ p) (hq : w.heap.size ≤ q) : BearsAt w w1 B 147 #[.pointer (some ⟨p, 0, none⟩), .pointer (some ⟨q, 0, none⟩)] bMru :=
  ⟨enters_of Try.func147 (by kernel_rfl) rfl, fun W D k c C l hk hs hb hr hC hkc hkk => nearest_any D k c C p q l W hr hC hkc hkk ((kept_blk hk h hp).cell 0) ((kept_blk hk h2 hq).cell 0)⟩
theorem bears_unlike (p q : Nat) (mine other : Int) (h : Blk w1 p 72 [.int .u32 other]) (h2 : Blk w1 q 72 [.int .u32 mine]) (hp : w.heap.size ≤ p) (hq : w.heap.size ≤ q) (ho : 0 ≤ other ∧ other < 4294967296) : BearsAt w w1 B 150 #[.pointer (some ⟨p, 0, none⟩), .pointer (some ⟨q, 0, none⟩)] (bUnlike mine other) :=
  ⟨enters_of Try.func150 (by kernel_rfl) rfl, fun W D k c C l hk hs hb hr hC hkc hkk => unlike_any D k c C p q l mine other W hr hC hkc hkk ((kept_blk hk h hp).cell 0) ((kept_blk hk h2 hq).cell 0) (kept_blk hk h2 hq).lt (kept_blk hk h hp).lt ho⟩
theorem bears_never : BearsAt w w1 B 142 #[] (fun _ => none) :=
  ⟨enters_of Try.func142 (by kernel_rfl) rfl, fun W D k c C l hk hs hb hr hC hkc hkk => never_any D k c W⟩
theorem bears_among (p : Nat) (A : Option Addr) (m d : Nat) (ms : List Int) (h : Blk w1 p 41 [.slice A m d]) (hp : w.heap.size ≤ p) (hms : RdI w B A m ms) (hm0 : 0 < m) (hm : m ≤ 1152921504606846976) : BearsAt w w1 B 149 #[.pointer (some ⟨p, 0, none⟩)] (bAmong ms) :=
  ⟨enters_of Try.func149 (by kernel_rfl) rfl, fun W D k c C l hk hs hb hr hC hkc hkk => by
    have hW : RdI W B A m ms := hms.kept fun q hq => World.cell?_of_block (hb q.block hq)
    have hBW : B ≤ W.heap.size ∨ C ≤ W.heap.size := .inr hC
    obtain ⟨b, off, e, hlt, hc⟩ := hW.2 hm0
    have hcell := hc 0 hm0
    have hbl := World.block_lt_of_cell? _ _ hcell
    have hW2 : RdI W (b + 1) A m ms := ⟨hW.1, fun _ => ⟨b, off, e, by omega, hc⟩⟩
    have hbl : b < W.heap.size := hbl
    exact among_any D k c (max C (b + 1)) p l A m d ms W (hr.wide (by omega)) (by omega) hkc hkk ((kept_blk hk h hp).cell 0) (kept_blk hk h hp).lt (hW2.wide (by omega)) hm0 hm⟩
end
theorem bearing_two (cv : Array Value) (cc : CV) (o : LOpts) (magic : Int) (w : World) (B : Nat) (hcf : ConfAt w B cv cc) :
    Calls Try.prog 114 #[.int .i64 2, .agg cv, .agg #[.int .i64 o.mru, .int .i64 o.accm, .int .i64 o.auth, .int .u32 o.magic, .bool o.pfc, .bool o.acfc], .int .u32 magic] w fun e w1 => ∃ f caps, e = .returned (.func (.func f) #[] caps) ∧ Below w.heap.size w w1 ∧ BearsAt w w1 B f caps (bears cc o magic 2) := by
  obtain ⟨hv, ⟨A, m, d, c3, hms, hm⟩, c6, c7, c8, _⟩ := hcf
  have c3 := at_of c3
  have HM := Lib.hid hms
  clear hms
  have hb : Blk (((w.alloc (.cells cv 102)).alloc (.cells #[.int .i64 o.mru, .int .i64 o.accm, .int .i64 o.auth, .int .u32 o.magic, .bool o.pfc, .bool o.acfc] 76)).alloc (.cells #[.int .i64 4] 3)) (w.heap.size + 1 + 1) 3 [.int .i64 4] := by
    have h := blk_new ((w.alloc (.cells cv 102)).alloc (.cells #[.int .i64 o.mru, .int .i64 o.accm, .int .i64 o.auth, .int .u32 o.magic, .bool o.pfc, .bool o.acfc] 76)) 3 [.int .i64 4]
    rw [World.size_alloc, World.size_alloc] at h
    exact h
  have HBLK := Lib.hid hb
  clear hb
  try clear c6
  try clear c7
  try clear c8
  go_enter Try.func114, Try.ntmps114
  go_wp2_with (go_at_call 139; ((with_reducible refine (sized_mk _ _).mono ?_); rintro e w1 ⟨rfl, rfl⟩))
  go_ret
  exact ⟨_, _, rfl, (((Below.refl _ _).alloc (Nat.le_refl _) _).alloc (by simp) _).alloc (by simp; omega) _, bears_sized 4 _ HBLK.out (by omega) (by omega)⟩
theorem bearing_one (cv : Array Value) (cc : CV) (o : LOpts) (magic : Int) (w : World) (B : Nat) (hcf : ConfAt w B cv cc) :
    Calls Try.prog 114 #[.int .i64 1, .agg cv, .agg #[.int .i64 o.mru, .int .i64 o.accm, .int .i64 o.auth, .int .u32 o.magic, .bool o.pfc, .bool o.acfc], .int .u32 magic] w fun e w1 => ∃ f caps, e = .returned (.func (.func f) #[] caps) ∧ Below w.heap.size w w1 ∧ BearsAt w w1 B f caps (bears cc o magic 1) := by
  obtain ⟨hv, ⟨A, m, d, c3, hms, hm⟩, c6, c7, c8, _⟩ := hcf
  have c3 := at_of c3
  have HM := Lib.hid hms
  clear hms
  have hb : Blk ((((w.alloc (.cells cv 102)).alloc (.cells #[.int .i64 o.mru, .int .i64 o.accm, .int .i64 o.auth, .int .u32 o.magic, .bool o.pfc, .bool o.acfc] 76)).alloc (.cells #[.int .i64 64] 3)).alloc (.cells #[.int .i64 16384] 3)) (w.heap.size + 1 + 1) 3 [.int .i64 64] ∧ Blk ((((w.alloc (.cells cv 102)).alloc (.cells #[.int .i64 o.mru, .int .i64 o.accm, .int .i64 o.auth, .int .u32 o.magic, .bool o.pfc, .bool o.acfc] 76)).alloc (.cells #[.int .i64 64] 3)).alloc (.cells #[.int .i64 16384] 3)) (w.heap.size + 1 + 1 + 1) 3 [.int .i64 16384] := by
    have h := blk_new ((w.alloc (.cells cv 102)).alloc (.cells #[.int .i64 o.mru, .int .i64 o.accm, .int .i64 o.auth, .int .u32 o.magic, .bool o.pfc, .bool o.acfc] 76)) 3 [.int .i64 64]
    rw [World.size_alloc, World.size_alloc] at h
    have h2 := blk_new (((w.alloc (.cells cv 102)).alloc (.cells #[.int .i64 o.mru, .int .i64 o.accm, .int .i64 o.auth, .int .u32 o.magic, .bool o.pfc, .bool o.acfc] 76)).alloc (.cells #[.int .i64 64] 3)) 3 [.int .i64 16384]
    rw [World.size_alloc, World.size_alloc, World.size_alloc] at h2
    exact ⟨(Below.heap_alloc _ _ _ (by simp)).trans h, h2⟩
  have HBLK := Lib.hid hb
  clear hb
  try clear c6
  try clear c7
  try clear c8
  go_enter Try.func114, Try.ntmps114
  go_wp2_with (go_at_call 138; ((with_reducible refine (nearest_mk _ _ _).mono ?_); rintro e w1 ⟨rfl, rfl⟩))
  go_ret
  exact ⟨_, _, rfl, ((((Below.refl _ _).alloc (Nat.le_refl _) _).alloc (by simp) _).alloc (by simp; omega) _).alloc (by simp; omega) _, bears_nearest _ _ HBLK.out.1 HBLK.out.2 (by omega) (by omega)⟩
theorem bearing_five (cv : Array Value) (cc : CV) (o : LOpts) (magic : Int) (w : World) (B : Nat) (hcf : ConfAt w B cv cc) (hmg : cc.mg = true) (hmag : 0 ≤ magic ∧ magic < 4294967296) :
    Calls Try.prog 114 #[.int .i64 5, .agg cv, .agg #[.int .i64 o.mru, .int .i64 o.accm, .int .i64 o.auth, .int .u32 o.magic, .bool o.pfc, .bool o.acfc], .int .u32 magic] w fun e w1 => ∃ f caps, e = .returned (.func (.func f) #[] caps) ∧ Below w.heap.size w w1 ∧ BearsAt w w1 B f caps (bears cc o magic 5) := by
  obtain ⟨hv, ⟨A, m, d, c3, hms, hm⟩, c6, c7, c8, _⟩ := hcf
  have c3 := at_of c3
  have HM := Lib.hid hms
  clear hms
  have c8' : ∀ h, cv[8]'h = .bool true := at_of (by rw [c8, hmg])
  have HE : Hid (bears cc o magic 5 = bUnlike o.magic magic) := by show _ = _; funext l; simp [bears, hmg]
  clear c8
  have hb : Blk ((((w.alloc (.cells cv 102)).alloc (.cells #[.int .i64 o.mru, .int .i64 o.accm, .int .i64 o.auth, .int .u32 o.magic, .bool o.pfc, .bool o.acfc] 76)).alloc (.cells #[.int .u32 o.magic] 72)).alloc (.cells #[.int .u32 magic] 72)) (w.heap.size + 1 + 1) 72 [.int .u32 o.magic] ∧ Blk ((((w.alloc (.cells cv 102)).alloc (.cells #[.int .i64 o.mru, .int .i64 o.accm, .int .i64 o.auth, .int .u32 o.magic, .bool o.pfc, .bool o.acfc] 76)).alloc (.cells #[.int .u32 o.magic] 72)).alloc (.cells #[.int .u32 magic] 72)) (w.heap.size + 1 + 1 + 1) 72 [.int .u32 magic] := by
    have h := blk_new ((w.alloc (.cells cv 102)).alloc (.cells #[.int .i64 o.mru, .int .i64 o.accm, .int .i64 o.auth, .int .u32 o.magic, .bool o.pfc, .bool o.acfc] 76)) 72 [.int .u32 o.magic]
    rw [World.size_alloc, World.size_alloc] at h
    have h2 := blk_new (((w.alloc (.cells cv 102)).alloc (.cells #[.int .i64 o.mru, .int .i64 o.accm, .int .i64 o.auth, .int .u32 o.magic, .bool o.pfc, .bool o.acfc] 76)).alloc (.cells #[.int .u32 o.magic] 72)) 72 [.int .u32 magic]
    rw [World.size_alloc, World.size_alloc, World.size_alloc] at h2
    exact ⟨(Below.heap_alloc _ _ _ (by simp)).trans h, h2⟩
  have HBLK := Lib.hid hb
  clear hb
  try clear c6
  try clear c7
  try clear c8
  go_enter Try.func114, Try.ntmps114
  go_wp2_with (go_at_call 141; ((with_reducible refine (unlike_mk _ _ _).mono ?_); rintro e w1 ⟨rfl, rfl⟩))
  go_ret
  exact ⟨_, _, rfl, ((((Below.refl _ _).alloc (Nat.le_refl _) _).alloc (by simp) _).alloc (by simp; omega) _).alloc (by simp; omega) _, HE.out ▸ bears_unlike _ _ _ _ HBLK.out.2 HBLK.out.1 (by omega) (by omega) hmag⟩
theorem bearing_five_no (cv : Array Value) (cc : CV) (o : LOpts) (magic : Int) (w : World) (B : Nat) (hcf : ConfAt w B cv cc) (hmg : cc.mg = false) :
    Calls Try.prog 114 #[.int .i64 5, .agg cv, .agg #[.int .i64 o.mru, .int .i64 o.accm, .int .i64 o.auth, .int .u32 o.magic, .bool o.pfc, .bool o.acfc], .int .u32 magic] w fun e w1 => ∃ f caps, e = .returned (.func (.func f) #[] caps) ∧ Below w.heap.size w w1 ∧ BearsAt w w1 B f caps (bears cc o magic 5) := by
  obtain ⟨hv, ⟨A, m, d, c3, hms, hm⟩, c6, c7, c8, _⟩ := hcf
  have c3 := at_of c3
  have HM := Lib.hid hms
  clear hms
  have c8' : ∀ h, cv[8]'h = .bool false := at_of (by rw [c8, hmg])
  have HE : Hid (bears cc o magic 5 = fun _ => none) := by show _ = _; funext l; simp [bears, hmg]
  clear c8
  try clear c6
  try clear c7
  try clear c8
  go_enter Try.func114, Try.ntmps114
  go_wp2
  go_ret
  exact ⟨_, _, rfl, ((Below.refl _ _).alloc (Nat.le_refl _) _).alloc (by simp) _, HE.out ▸ bears_never⟩
theorem bearing_three (cv : Array Value) (cc : CV) (o : LOpts) (magic : Int) (w : World) (B : Nat) (hcf : ConfAt w B cv cc) (hacc : cc.acc ≠ []) :
    Calls Try.prog 114 #[.int .i64 3, .agg cv, .agg #[.int .i64 o.mru, .int .i64 o.accm, .int .i64 o.auth, .int .u32 o.magic, .bool o.pfc, .bool o.acfc], .int .u32 magic] w fun e w1 => ∃ f caps, e = .returned (.func (.func f) #[] caps) ∧ Below w.heap.size w w1 ∧ BearsAt w w1 B f caps (bears cc o magic 3) := by
  obtain ⟨hv, ⟨A, m, d, c3, hms, hm⟩, c6, c7, c8, _⟩ := hcf
  have c3 := at_of c3
  have hm0 : 0 < m := by have h := hms.1; rcases h2 : cc.acc with _ | ⟨a, r⟩; exact absurd h2 hacc; rw [h2] at h; simp at h; omega
  have t0 : (0 : Int) < (m : Int) := by omega
  have hne : cc.acc ≠ [] := fun e => by have := hms.1; rw [e] at this; simp at this; omega
  have HE : Hid (bears cc o magic 3 = bAmong cc.acc) := by show _ = _; funext l; simp [bears, hne]
  clear hne
  have HM := Lib.hid hms
  clear hms
  have hb : Blk (((w.alloc (.cells cv 102)).alloc (.cells #[.int .i64 o.mru, .int .i64 o.accm, .int .i64 o.auth, .int .u32 o.magic, .bool o.pfc, .bool o.acfc] 76)).alloc (.cells #[.slice A m d] 41)) (w.heap.size + 1 + 1) 41 [.slice A m d] := by
    have h := blk_new ((w.alloc (.cells cv 102)).alloc (.cells #[.int .i64 o.mru, .int .i64 o.accm, .int .i64 o.auth, .int .u32 o.magic, .bool o.pfc, .bool o.acfc] 76)) 41 [.slice A m d]
    rw [World.size_alloc, World.size_alloc] at h
    exact h
  have HBLK := Lib.hid hb
  clear hb
  try clear c6
  try clear c7
  try clear c8
  go_enter Try.func114, Try.ntmps114
  go_wp2_with (go_at_call 140; ((with_reducible refine (among_mk _ _ _ _).mono ?_); rintro e w1 ⟨rfl, rfl⟩))
  go_ret
  exact ⟨_, _, rfl, (((Below.refl _ _).alloc (Nat.le_refl _) _).alloc (by simp) _).alloc (by simp; omega) _, HE.out ▸ bears_among _ _ _ _ _ HBLK.out (by omega) HM.out hm0 hm⟩
theorem bearing_three_no (cv : Array Value) (cc : CV) (o : LOpts) (magic : Int) (w : World) (B : Nat) (hcf : ConfAt w B cv cc) (hacc : cc.acc = []) :
    Calls Try.prog 114 #[.int .i64 3, .agg cv, .agg #[.int .i64 o.mru, .int .i64 o.accm, .int .i64 o.auth, .int .u32 o.magic, .bool o.pfc, .bool o.acfc], .int .u32 magic] w fun e w1 => ∃ f caps, e = .returned (.func (.func f) #[] caps) ∧ Below w.heap.size w w1 ∧ BearsAt w w1 B f caps (bears cc o magic 3) := by
  obtain ⟨hv, ⟨A, m, d, c3, hms, hm⟩, c6, c7, c8, _⟩ := hcf
  have c3 := at_of c3
  have hm0 : m = 0 := by have h := hms.1; rw [hacc] at h; exact h.symm
  subst hm0
  have HE : Hid (bears cc o magic 3 = fun _ => none) := by show _ = _; funext l; simp [bears, hacc]
  have HM := Lib.hid hms
  clear hms
  try clear c6
  try clear c7
  try clear c8
  go_enter Try.func114, Try.ntmps114
  go_wp2
  go_ret
  exact ⟨_, _, rfl, ((Below.refl _ _).alloc (Nat.le_refl _) _).alloc (by simp) _, HE.out ▸ bears_never⟩
theorem bearing_seven (cv : Array Value) (cc : CV) (o : LOpts) (magic : Int) (w : World) (B : Nat) (hcf : ConfAt w B cv cc) (hp : cc.pfc = true) :
    Calls Try.prog 114 #[.int .i64 7, .agg cv, .agg #[.int .i64 o.mru, .int .i64 o.accm, .int .i64 o.auth, .int .u32 o.magic, .bool o.pfc, .bool o.acfc], .int .u32 magic] w fun e w1 => ∃ f caps, e = .returned (.func (.func f) #[] caps) ∧ Below w.heap.size w w1 ∧ BearsAt w w1 B f caps (bears cc o magic 7) := by
  obtain ⟨hv, ⟨A, m, d, c3, hms, hm⟩, c6, c7, c8, _⟩ := hcf
  have c3 := at_of c3
  have HM := Lib.hid hms
  clear hms
  have c' : ∀ h, cv[6]'h = .bool true := at_of (by rw [c6, hp])
  have HE : Hid (bears cc o magic 7 = bSize 0) := by show _ = _; funext l; simp [bears, hp]
  clear c6
  have hb : Blk (((w.alloc (.cells cv 102)).alloc (.cells #[.int .i64 o.mru, .int .i64 o.accm, .int .i64 o.auth, .int .u32 o.magic, .bool o.pfc, .bool o.acfc] 76)).alloc (.cells #[.int .i64 0] 3)) (w.heap.size + 1 + 1) 3 [.int .i64 0] := by
    have h := blk_new ((w.alloc (.cells cv 102)).alloc (.cells #[.int .i64 o.mru, .int .i64 o.accm, .int .i64 o.auth, .int .u32 o.magic, .bool o.pfc, .bool o.acfc] 76)) 3 [.int .i64 0]
    rw [World.size_alloc, World.size_alloc] at h
    exact h
  have HBLK := Lib.hid hb
  clear hb
  try clear c6
  try clear c7
  try clear c8
  go_enter Try.func114, Try.ntmps114
  go_wp2_with (go_at_call 139; ((with_reducible refine (sized_mk _ _).mono ?_); rintro e w1 ⟨rfl, rfl⟩))
  go_ret
  exact ⟨_, _, rfl, (((Below.refl _ _).alloc (Nat.le_refl _) _).alloc (by simp) _).alloc (by simp; omega) _, HE.out ▸ bears_sized 0 _ HBLK.out (by omega) (by omega)⟩
theorem bearing_seven_no (cv : Array Value) (cc : CV) (o : LOpts) (magic : Int) (w : World) (B : Nat) (hcf : ConfAt w B cv cc) (hp : cc.pfc = false) :
    Calls Try.prog 114 #[.int .i64 7, .agg cv, .agg #[.int .i64 o.mru, .int .i64 o.accm, .int .i64 o.auth, .int .u32 o.magic, .bool o.pfc, .bool o.acfc], .int .u32 magic] w fun e w1 => ∃ f caps, e = .returned (.func (.func f) #[] caps) ∧ Below w.heap.size w w1 ∧ BearsAt w w1 B f caps (bears cc o magic 7) := by
  obtain ⟨hv, ⟨A, m, d, c3, hms, hm⟩, c6, c7, c8, _⟩ := hcf
  have c3 := at_of c3
  have HM := Lib.hid hms
  clear hms
  have c' : ∀ h, cv[6]'h = .bool false := at_of (by rw [c6, hp])
  have HE : Hid (bears cc o magic 7 = fun _ => none) := by show _ = _; funext l; simp [bears, hp]
  clear c6
  try clear c6
  try clear c7
  try clear c8
  go_enter Try.func114, Try.ntmps114
  go_wp2
  go_ret
  exact ⟨_, _, rfl, ((Below.refl _ _).alloc (Nat.le_refl _) _).alloc (by simp) _, HE.out ▸ bears_never⟩
theorem bearing_eight (cv : Array Value) (cc : CV) (o : LOpts) (magic : Int) (w : World) (B : Nat) (hcf : ConfAt w B cv cc) (hp : cc.acfc = true) :
    Calls Try.prog 114 #[.int .i64 8, .agg cv, .agg #[.int .i64 o.mru, .int .i64 o.accm, .int .i64 o.auth, .int .u32 o.magic, .bool o.pfc, .bool o.acfc], .int .u32 magic] w fun e w1 => ∃ f caps, e = .returned (.func (.func f) #[] caps) ∧ Below w.heap.size w w1 ∧ BearsAt w w1 B f caps (bears cc o magic 8) := by
  obtain ⟨hv, ⟨A, m, d, c3, hms, hm⟩, c6, c7, c8, _⟩ := hcf
  have c3 := at_of c3
  have HM := Lib.hid hms
  clear hms
  have c' : ∀ h, cv[7]'h = .bool true := at_of (by rw [c7, hp])
  have HE : Hid (bears cc o magic 8 = bSize 0) := by show _ = _; funext l; simp [bears, hp]
  clear c7
  have hb : Blk (((w.alloc (.cells cv 102)).alloc (.cells #[.int .i64 o.mru, .int .i64 o.accm, .int .i64 o.auth, .int .u32 o.magic, .bool o.pfc, .bool o.acfc] 76)).alloc (.cells #[.int .i64 0] 3)) (w.heap.size + 1 + 1) 3 [.int .i64 0] := by
    have h := blk_new ((w.alloc (.cells cv 102)).alloc (.cells #[.int .i64 o.mru, .int .i64 o.accm, .int .i64 o.auth, .int .u32 o.magic, .bool o.pfc, .bool o.acfc] 76)) 3 [.int .i64 0]
    rw [World.size_alloc, World.size_alloc] at h
    exact h
  have HBLK := Lib.hid hb
  clear hb
  try clear c6
  try clear c7
  try clear c8
  go_enter Try.func114, Try.ntmps114
  go_wp2_with (go_at_call 139; ((with_reducible refine (sized_mk _ _).mono ?_); rintro e w1 ⟨rfl, rfl⟩))
  go_ret
  exact ⟨_, _, rfl, (((Below.refl _ _).alloc (Nat.le_refl _) _).alloc (by simp) _).alloc (by simp; omega) _, HE.out ▸ bears_sized 0 _ HBLK.out (by omega) (by omega)⟩
theorem bearing_eight_no (cv : Array Value) (cc : CV) (o : LOpts) (magic : Int) (w : World) (B : Nat) (hcf : ConfAt w B cv cc) (hp : cc.acfc = false) :
    Calls Try.prog 114 #[.int .i64 8, .agg cv, .agg #[.int .i64 o.mru, .int .i64 o.accm, .int .i64 o.auth, .int .u32 o.magic, .bool o.pfc, .bool o.acfc], .int .u32 magic] w fun e w1 => ∃ f caps, e = .returned (.func (.func f) #[] caps) ∧ Below w.heap.size w w1 ∧ BearsAt w w1 B f caps (bears cc o magic 8) := by
  obtain ⟨hv, ⟨A, m, d, c3, hms, hm⟩, c6, c7, c8, _⟩ := hcf
  have c3 := at_of c3
  have HM := Lib.hid hms
  clear hms
  have c' : ∀ h, cv[7]'h = .bool false := at_of (by rw [c7, hp])
  have HE : Hid (bears cc o magic 8 = fun _ => none) := by show _ = _; funext l; simp [bears, hp]
  clear c7
  try clear c6
  try clear c7
  try clear c8
  go_enter Try.func114, Try.ntmps114
  go_wp2
  go_ret
  exact ⟨_, _, rfl, ((Below.refl _ _).alloc (Nat.le_refl _) _).alloc (by simp) _, HE.out ▸ bears_never⟩
theorem bearing_other (cv : Array Value) (cc : CV) (o : LOpts) (magic : Int) (w : World) (B : Nat) (hcf : ConfAt w B cv cc) (K : Int) (k1 : K ≠ 1) (k2 : K ≠ 2) (k3 : K ≠ 3) (k5 : K ≠ 5) (k7 : K ≠ 7) (k8 : K ≠ 8) :
    Calls Try.prog 114 #[.int .i64 K, .agg cv, .agg #[.int .i64 o.mru, .int .i64 o.accm, .int .i64 o.auth, .int .u32 o.magic, .bool o.pfc, .bool o.acfc], .int .u32 magic] w fun e w1 => ∃ f caps, e = .returned (.func (.func f) #[] caps) ∧ Below w.heap.size w w1 ∧ BearsAt w w1 B f caps (bears cc o magic K) := by
  obtain ⟨hv, ⟨A, m, d, c3, hms, hm⟩, c6, c7, c8, _⟩ := hcf
  have c3 := at_of c3
  have e1 : (K == 1) = false := by simp [k1]
  have e2 : (K == 2) = false := by simp [k2]
  have e3 : (K == 3) = false := by simp [k3]
  have e5 : (K == 5) = false := by simp [k5]
  have e7 : (K == 7) = false := by simp [k7]
  have e8 : (K == 8) = false := by simp [k8]
  have HM := Lib.hid hms
  clear hms
  have HE : Hid (bears cc o magic K = fun _ => none) := by show _ = _; funext l; simp [bears, k1, k2, k3, k5, k7, k8]
  clear k1 k2 k3 k5 k7 k8
  try clear c6
  try clear c7
  try clear c8
  go_enter Try.func114, Try.ntmps114
  go_wp2
  go_ret
  exact ⟨_, _, rfl, ((Below.refl _ _).alloc (Nat.le_refl _) _).alloc (by simp) _, HE.out ▸ bears_never⟩
theorem bearing_any (K : Int) (cv : Array Value) (cc : CV) (o : LOpts) (magic : Int) (w : World) (B : Nat) (hcf : ConfAt w B cv cc) (hmag : 0 ≤ magic ∧ magic < 4294967296) :
    Calls Try.prog 114 #[.int .i64 K, .agg cv, .agg #[.int .i64 o.mru, .int .i64 o.accm, .int .i64 o.auth, .int .u32 o.magic, .bool o.pfc, .bool o.acfc], .int .u32 magic] w fun e w1 => ∃ f caps, e = .returned (.func (.func f) #[] caps) ∧ Below w.heap.size w w1 ∧ BearsAt w w1 B f caps (bears cc o magic K) := by
  by_cases k1 : K = 1
  · subst k1; exact bearing_one cv cc o magic w B hcf
  by_cases k2 : K = 2
  · subst k2; exact bearing_two cv cc o magic w B hcf
  by_cases k3 : K = 3
  · subst k3
    by_cases h : cc.acc = []
    · exact bearing_three_no cv cc o magic w B hcf h
    · exact bearing_three cv cc o magic w B hcf h
  by_cases k5 : K = 5
  · subst k5
    rcases h : cc.mg
    · exact bearing_five_no cv cc o magic w B hcf h
    · exact bearing_five cv cc o magic w B hcf h hmag
  by_cases k7 : K = 7
  · subst k7
    rcases h : cc.pfc
    · exact bearing_seven_no cv cc o magic w B hcf h
    · exact bearing_seven cv cc o magic w B hcf h
  by_cases k8 : K = 8
  · subst k8
    rcases h : cc.acfc
    · exact bearing_eight_no cv cc o magic w B hcf h
    · exact bearing_eight cv cc o magic w B hcf h
  exact bearing_other cv cc o magic w B hcf K k1 k2 k3 k5 k7 k8
end Go.Proofs.Ytonbdcajepmgbaa
