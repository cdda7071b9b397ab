/-
  eap: the word of a client for a server; what is due to a challenge.
-/
import Derived.Test.YtjimoegegigoiaaDoorEaReadW
import Derived.Test.YtjimoegegigoiaaDoorEaWriteW
import Derived.Test.YtjimoegegigoiaaDoorSeTab
import Derived.Test.YtjimoegegigoiaaDoorMdResp
import Derived.Test.YtjimoegegigoiaaDoorMdEqual
import Derived.Test.YtjimoegegigoiaaDoorBytesClone
import Derived.Deep.QuietTactic
import Derived.BigQuiet
import Derived.Deep.RegionHeld3
namespace Go.Proofs.YtjimoegegigoiaaDoor
open Go.RowKit Go.Shelf
set_option maxRecDepth 100000
set_option maxHeartbeats 1000000
set_option linter.unusedSimpArgs false
set_option linter.unusedVariables false

def wdS (ss : List Sec) (o : Option Nat) : ByteArray := match o.bind fun i => ss[i]? with | none => ⟨#[]⟩ | some x => x.wd
def wdB (ss : List Sec) (o : Option Nat) : Bool := decide (0 < (wdS ss o).size)
def WordR (w : World) (ss : List Sec) (o : Option Nat) (e : Ending) (w' : World) : Prop := e = .returned (.tuple #[.string (wdS ss o), .bool (wdB ss o)]) ∧ Below w.heap.size w w'
theorem bestR_box {w w1 : World} {ss : List Sec} {o : Option Nat} {e : Ending} (h : BestR w ss o e w1) : ∃ s1 s2 E m k b, e = .returned (.tuple #[.agg #[.string s1, .string s2, .string (wdS ss o), .slice E m k], .bool b]) ∧ Below w.heap.size w w1 ∧ (b = false → wdB ss o = false) ∧ (b = true → wdB ss o = !(wdS ss o).toList.isEmpty) := by
  obtain ⟨h1, h2⟩ := h
  cases o with
  | none => exact ⟨_, _, _, _, _, _, h2, h1, fun _ => rfl, fun e => by cases e⟩
  | some i =>
    obtain ⟨x, E, m, k, hx, rfl, _⟩ := h2
    have e : wdS ss (some i) = x.wd := by unfold wdS; simp [hx]
    refine ⟨x.cl, x.sv, E, m, k, true, by rw [e], h1, (fun e => by cases e), fun _ => ?_⟩
    unfold wdB
    rw [e]
    by_cases h0 : x.wd.size = 0
    · rw [str_nil h0]; simp [h0]
    · rw [str_ne (by omega)]; simp; omega
def digL (id : Int) (word : ByteArray) (v : List UInt8) : List UInt8 := mdBytes (mdOver (mdPad (respL id word v)) ((mdPad (respL id word v)).length / 64))
theorem digL_length (id : Int) (word : ByteArray) (v : List UInt8) : (digL id word v).length = 16 := by simp [digL, mdBytes]
theorem list16' (l : List UInt8) (h : l.length = 16) : ∃ d0 d1 d2 d3 d4 d5 d6 d7 d8 d9 d10 d11 d12 d13 d14 d15, l = [d0, d1, d2, d3, d4, d5, d6, d7, d8, d9, d10, d11, d12, d13, d14, d15] := by
  match l, h with
  | [d0, d1, d2, d3, d4, d5, d6, d7, d8, d9, d10, d11, d12, d13, d14, d15], _ => exact ⟨_, _, _, _, _, _, _, _, _, _, _, _, _, _, _, _, rfl⟩
theorem resp_dig (id : Int) (x : ByteArray) (A : Option Addr) (n c B : Nat) (l : List UInt8) (w : World) (h0 : 0 ≤ id) (h1 : id ≤ 255) (hr : Rd w B A n l) (hB : B ≤ w.heap.size) (hnil : A = none → c = 0) (hm : n ≤ 35184372088832) (hx : x.size ≤ 35184372088832) (hK : TabK w) (hS : TabS w) :
    Calls Tryd.prog 25 #[.int .i64 id, .string x, .slice A n c] w fun e w' => e = .returned (.tuple #[.agg ((digL id x l).map cellOf).toArray, .int .i64 0]) ∧ Below w.heap.size w w' := by
  have h := resp_ok id x A n c B l w h0 h1 hr hB hnil hm hx hK hS
  rw [partB_bytes] at h
  exact h
theorem wdS_size {ss : List Sec} {cl sv : ByteArray} : (wdS ss (bst ss cl sv)).size ≤ 64 := by
  unfold wdS
  cases ho : bst ss cl sv with
  | none => exact Nat.zero_le _
  | some i =>
    unfold bst at ho
    split at ho
    · cases ho
    · obtain ⟨p, _, hp⟩ := List.exists_of_findSome?_eq_some ho
      obtain ⟨x, hx, _, _, hr⟩ := fst_lt hp
      simp only [Option.bind_some, hx]
      unfold rightE at hr
      split at hr
      · cases hr
      · split at hr
        · cases hr
        · rename_i h1 h2
          rcases Nat.eq_zero_or_pos x.wd.size with h | h
          · omega
          · cases hn : nameB x.wd
            · exact absurd ⟨h, hn⟩ h2
            · simp [nameB] at hn
              exact hn.2.1
theorem wordOf_any (g : Nat) (ss : List Sec) (cl sv : ByteArray) (w : World) (h : TableAt w g ss) (hcl : cl.size ≤ maxLen) (hsv : sv.size ≤ maxLen) :
    Calls Tryd.prog 98 #[.pointer (some ⟨g, 0, none⟩), .string cl, .string sv] w (WordR w ss (bst ss cl sv)) := by
  obtain ⟨o, ho⟩ : ∃ o, bst ss cl sv = o := ⟨_, rfl⟩
  have C : Hid (Calls Tryd.prog 117 #[.pointer (some ⟨g, 0, none⟩), .string cl, .string sv] w fun e w1 => ∃ s1 s2 E m k b, e = .returned (.tuple #[.agg #[.string s1, .string s2, .string (wdS ss o), .slice E m k], .bool b]) ∧ Below w.heap.size w w1 ∧ (b = false → wdB ss o = false) ∧ (b = true → wdB ss o = !(wdS ss o).toList.isEmpty)) := by
    have F := tabFind_any g ss cl sv w h hcl hsv
    rw [ho] at F
    exact F.mono fun e w1 hh => bestR_box hh
  rw [ho]
  obtain ⟨s, hs⟩ : ∃ s, wdS ss o = s := ⟨_, rfl⟩
  obtain ⟨q, hq⟩ : ∃ q, wdB ss o = q := ⟨_, rfl⟩
  rw [hs, hq] at C
  have FN : Hid (∀ W, Below w.heap.size w W → WordR w ss o (.returned (.tuple #[.string s, .bool q])) W) := fun W hW => ⟨by rw [hs, hq], hW⟩
  clear ho h hcl hsv hs hq
  go_enter Tryd.func98, Tryd.ntmps98
  go_upto_region 2 with (go_at_call 117; ((with_reducible refine C.out.mono ?_); rintro e w1 ⟨s1, s2, E, m, k, b, rfl, b1, q1, q2⟩; have B1 := Lib.hid b1; have Q1 := Lib.hid q1; have Q2 := Lib.hid q2; clear b1 q1 q2 C))
  cases b
  · have e := Lib.hid (Q1.out rfl)
    clear Q1 Q2
    go_quiet (fail)
    go_wp2
    rw [e.out] at FN
    refine bodyPost_ret (v := .tuple #[.string s, .bool false]) (by simp [results, Tryd.results98, go_sem]) rfl (FN.out _ ?_)
    exact below_drewN (B1.out.alloc B1.out.size _) _
  · have e := Lib.hid (Q2.out rfl)
    clear Q1 Q2
    go_quiet (fail)
    go_wp2
    rw [e.out] at FN
    refine bodyPost_ret (v := .tuple #[.string s, .bool (!s.toList.isEmpty)]) (by simp [results, Tryd.results98, go_sem]) rfl (FN.out _ ?_)
    exact below_drewN (B1.out.alloc B1.out.size _) _
/-- what is due to a challenge, if there is a word for it -/
def DueR (w : World) (ok : Bool) (l : List UInt8) (e : Ending) (w' : World) : Prop :=
  Below w.heap.size w w' ∧ ∃ D k d, e = .returned (.tuple #[.slice D k d, .bool ok]) ∧ Rd w' w'.heap.size D k (if ok then l else []) ∧ (D = none → d = 0) ∧ (∀ b o s, D = some ⟨b, o, s⟩ → w.heap.size ≤ b)
theorem Rd.off {w w' : World} {B n g : Nat} {A : Option Addr} {l : List UInt8} (h : Rd w B A n l) (hB : B ≤ w.heap.size) (hG : w.grownBy w' (some g)) (hne : ∀ b o s, A = some ⟨b, o, s⟩ → b ≠ g) : Rd w' B A n l := by
  refine ⟨h.1, fun h0 => ?_⟩
  obtain ⟨b, off, rfl, hlt, hc⟩ := h.2 h0
  refine ⟨b, off, rfl, hlt, fun j hj => ?_⟩
  have := hne _ _ _ rfl
  rw [World.cell?_of_block (hG.block b (by omega) (by simpa using this))]
  exact hc j hj
theorem due_any (g : Nat) (ss : List Sec) (cl sv : ByteArray) (id : Int) (A : Option Addr) (n c B : Nat) (l : List UInt8) (w : World) (h : TableAt w g ss) (hcl : cl.size ≤ maxLen) (hsv : sv.size ≤ maxLen) (h0 : 0 ≤ id) (h1 : id ≤ 255) (hr : Rd w B A n l) (hB : B ≤ w.heap.size) (hnil : A = none → c = 0) (hm : n ≤ 35184372088832) (hK : TabK w) (hS : TabS w) :
    Calls Tryd.prog 99 #[.pointer (some ⟨g, 0, none⟩), .string cl, .string sv, .int .i64 id, .slice A n c] w (DueR w (wdB ss (bst ss cl sv)) (digL id (wdS ss (bst ss cl sv)) l)) := by
  have WO := wordOf_any g ss cl sv w h hcl hsv
  have hwz : (wdS ss (bst ss cl sv)).size ≤ 64 := wdS_size
  unfold WordR at WO
  obtain ⟨wd, hwd⟩ : ∃ wd, wdS ss (bst ss cl sv) = wd := ⟨_, rfl⟩
  rw [hwd] at WO hwz ⊢
  cases hok : wdB ss (bst ss cl sv)
  · rw [hok] at WO
    have C : Hid (Calls Tryd.prog 98 #[.pointer (some ⟨g, 0, none⟩), .string cl, .string sv] w fun e w1 => e = .returned (.tuple #[.string wd, .bool false]) ∧ DueR w false (digL id wd l) (.returned (.tuple #[.slice none 0 0, .bool false])) w1) :=
      WO.mono fun e w1 hh => ⟨hh.1, hh.2, none, 0, 0, rfl, Rd.nil, fun _ => rfl, fun _ _ _ e => by cases e⟩
    clear WO hwd hok h hcl hsv h0 h1 hr hB hnil hm hK hS
    go_enter Tryd.func99, Tryd.ntmps99
    go_wp2_with (go_at_call 98; ((with_reducible refine C.out.mono ?_); rintro e w1 ⟨rfl, f1⟩; have F1 := Lib.hid f1; clear f1))
    exact bodyPost_ret (v := .tuple #[.slice none 0 0, .bool false]) (by simp [results, Tryd.results99, go_sem]) rfl F1.out
  · rw [hok] at WO
    have hD := digL_length id wd l
    obtain ⟨dg, hdg⟩ : ∃ dg, digL id wd l = dg := ⟨_, rfl⟩
    rw [hdg] at hD ⊢
    obtain ⟨d0, d1, d2, d3, d4, d5, d6, d7, d8, d9, d10, d11, d12, d13, d14, d15, rfl⟩ := list16' dg hD
    have C : Hid (Calls Tryd.prog 98 #[.pointer (some ⟨g, 0, none⟩), .string cl, .string sv] w fun e w1 => e = .returned (.tuple #[.string wd, .bool true]) ∧
        Calls Tryd.prog 25 #[.int .i64 id, .string wd, .slice A n c] w1 fun e w4 => e = .returned (.tuple #[.agg #[.int .u8 (d0.toNat : Int), .int .u8 (d1.toNat : Int), .int .u8 (d2.toNat : Int), .int .u8 (d3.toNat : Int), .int .u8 (d4.toNat : Int), .int .u8 (d5.toNat : Int), .int .u8 (d6.toNat : Int), .int .u8 (d7.toNat : Int), .int .u8 (d8.toNat : Int), .int .u8 (d9.toNat : Int), .int .u8 (d10.toNat : Int), .int .u8 (d11.toNat : Int), .int .u8 (d12.toNat : Int), .int .u8 (d13.toNat : Int), .int .u8 (d14.toNat : Int), .int .u8 (d15.toNat : Int)], .int .i64 0]) ∧ ∃ V15, w4.alloc (.cells #[.int .u8 (d0.toNat : Int), .int .u8 (d1.toNat : Int), .int .u8 (d2.toNat : Int), .int .u8 (d3.toNat : Int), .int .u8 (d4.toNat : Int), .int .u8 (d5.toNat : Int), .int .u8 (d6.toNat : Int), .int .u8 (d7.toNat : Int), .int .u8 (d8.toNat : Int), .int .u8 (d9.toNat : Int), .int .u8 (d10.toNat : Int), .int .u8 (d11.toNat : Int), .int .u8 (d12.toNat : Int), .int .u8 (d13.toNat : Int), .int .u8 (d14.toNat : Int), .int .u8 (d15.toNat : Int)] 55) = V15 ∧ DueR w true [d0, d1, d2, d3, d4, d5, d6, d7, d8, d9, d10, d11, d12, d13, d14, d15] (.returned (.tuple #[.slice (some ⟨w4.heap.size, 0, none⟩) 16 16, .bool true])) V15) := by
      refine WO.mono ?_
      rintro e w1 ⟨rfl, b1⟩
      have RS := resp_dig id wd A n c B l w1 h0 h1 (hr.below (b1.mono hB)) (Nat.le_trans hB b1.size) hnil hm (by omega) (hK.kept b1) (hS.kept b1)
      rw [hdg] at RS
      refine ⟨rfl, RS.mono ?_⟩
      rintro e w4 ⟨rfl, b4⟩
      refine ⟨rfl, ?_⟩
      obtain ⟨V15, h15⟩ : ∃ V15, w4.alloc (.cells #[.int .u8 (d0.toNat : Int), .int .u8 (d1.toNat : Int), .int .u8 (d2.toNat : Int), .int .u8 (d3.toNat : Int), .int .u8 (d4.toNat : Int), .int .u8 (d5.toNat : Int), .int .u8 (d6.toNat : Int), .int .u8 (d7.toNat : Int), .int .u8 (d8.toNat : Int), .int .u8 (d9.toNat : Int), .int .u8 (d10.toNat : Int), .int .u8 (d11.toNat : Int), .int .u8 (d12.toNat : Int), .int .u8 (d13.toNat : Int), .int .u8 (d14.toNat : Int), .int .u8 (d15.toNat : Int)] 55) = V15 := ⟨_, rfl⟩
      have b15 : Below w4.heap.size w4 V15 := by rw [← h15]; exact (Below.refl _ _).alloc (Nat.le_refl _) _
      have n15 : Blk V15 w4.heap.size 55 ([d0, d1, d2, d3, d4, d5, d6, d7, d8, d9, d10, d11, d12, d13, d14, d15].map cellOf) := by rw [← h15]; exact heap_alloc_new w4 _
      have BW := step_to (step_to b1 b4) b15
      refine ⟨V15, h15, BW, _, _, _, rfl, ⟨rfl, fun _ => ⟨w4.heap.size, 0, rfl, Blk.lt n15, fun j hj => ?_⟩⟩, fun e => (by cases e), fun b o s e => ?_⟩
      · rw [if_pos rfl, Nat.zero_add, n15.cell, cells_at _ j (by simpa using hj)]
      · cases e
        exact Nat.le_trans b1.size b4.size
    clear WO hwd hok h hcl hsv h0 h1 hr hB hnil hm hK hS hdg hD hwz
    go_enter Tryd.func99, Tryd.ntmps99
    go_wp2_with (first
      | (go_at_call 98; ((with_reducible refine C.out.mono ?_); rintro e w1 ⟨rfl, n1⟩; have C1 := Lib.hid n1; clear n1))
      | (go_at_call 25; ((with_reducible refine C1.out.mono ?_); rintro e w4 ⟨rfl, V15, h15, n1⟩; have H15 := Lib.hid h15; have F1 := Lib.hid n1; clear n1 h15))
      | (rw [H15.out]))
    exact bodyPost_ret (v := .tuple #[.slice (some ⟨w4.heap.size, 0, none⟩) 16 16, .bool true]) (by simp [results, Tryd.results99, go_sem]) rfl F1.out
end Go.Proofs.YtjimoegegigoiaaDoor
