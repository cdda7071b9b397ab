/-
  The header of the chapter's example: right, fourRight, fourHead.
-/
import Derived.Test.YtjkdlmielckaaaaDoorIpSeal
namespace Go.Proofs.YtjkdlmielckaaaaDoor
open Go.RowKit
set_option maxRecDepth 100000
set_option maxHeartbeats 2000000
set_option linter.unusedSimpArgs false
set_option linter.unusedVariables false

/-- the example's fields -/
def ipF0 : List Value := [.int .i64 4, .int .i64 0, .int .i64 0, .int .i64 0, .int .i64 0, .int .i64 0, .bool false, .bool false, .int .i64 0, .int .i64 64, .int .i64 17, .int .i64 167772161, .int .i64 167772162] ++
  (List.replicate 32 (.int .u8 0) ++ [.bool false, .int .i64 0, .int .i64 0, .int .i64 0, .int .i64 0, .int .i64 0])
/-- what the calls read of it -/
structure FldA (fv : Array Value) : Prop where
  f0 : fv[0]? = some (.int .i64 4)
  f1 : fv[1]? = some (.int .i64 0)
  f5 : fv[5]? = some (.int .i64 0)
  f6 : fv[6]? = some (.bool false)
  f7 : fv[7]? = some (.bool false)
  f8 : fv[8]? = some (.int .i64 0)
  f9 : fv[9]? = some (.int .i64 64)
  f10 : fv[10]? = some (.int .i64 17)
  f11 : fv[11]? = some (.int .i64 167772161)
  f12 : fv[12]? = some (.int .i64 167772162)
theorem fldA : FldA ipF0.toArray := ⟨rfl, rfl, rfl, rfl, rfl, rfl, rfl, rfl, rfl, rfl⟩
theorem right_ex (fv : Array Value) (w : World) (hf : FldA fv) : Calls Tryd.prog 29 #[.agg fv] w fun e w' => e = .returned (.bool true) ∧ Below w.heap.size w w' := by
  obtain ⟨W1, hW1⟩ : ∃ W1, w.alloc (.cells fv 54) = W1 := ⟨_, rfl⟩
  have k1 : Blk W1 w.heap.size 54 fv.toList := by rw [← hW1]; exact blk_new w _ _
  have B1 : Hid (Below w.heap.size w W1) := by rw [← hW1]; exact (Below.refl _ _).alloc (Nat.le_refl _) _
  have c1 : W1.cell? ⟨w.heap.size, 1, none⟩ = some (.int .i64 0) := by rw [k1.cell 1, Array.getElem?_toList]; exact hf.f1
  have c5 : W1.cell? ⟨w.heap.size, 5, none⟩ = some (.int .i64 0) := by rw [k1.cell 5, Array.getElem?_toList]; exact hf.f5
  have c9 : W1.cell? ⟨w.heap.size, 9, none⟩ = some (.int .i64 64) := by rw [k1.cell 9, Array.getElem?_toList]; exact hf.f9
  have c10 : W1.cell? ⟨w.heap.size, 10, none⟩ = some (.int .i64 17) := by rw [k1.cell 10, Array.getElem?_toList]; exact hf.f10
  clear k1 hf
  go_enter Tryd.func29, Tryd.ntmps29
  go_wp2
  go_ret
  exact ⟨rfl, B1.out⟩
theorem fourRight_ex (fv : Array Value) (w : World) (hf : FldA fv) : Calls Tryd.prog 25 #[.agg fv] w fun e w' => e = .returned (.bool true) ∧ Below w.heap.size w w' := by
  obtain ⟨W1, hW1⟩ : ∃ W1, w.alloc (.cells fv 54) = W1 := ⟨_, rfl⟩
  have k1 : Blk W1 w.heap.size 54 fv.toList := by rw [← hW1]; exact blk_new w _ _
  have B1 : Hid (Below w.heap.size w W1) := by rw [← hW1]; exact (Below.refl _ _).alloc (Nat.le_refl _) _
  have c8 : W1.cell? ⟨w.heap.size, 8, none⟩ = some (.int .i64 0) := by rw [k1.cell 8, Array.getElem?_toList]; exact hf.f8
  have c11 : W1.cell? ⟨w.heap.size, 11, none⟩ = some (.int .i64 167772161) := by rw [k1.cell 11, Array.getElem?_toList]; exact hf.f11
  have c12 : W1.cell? ⟨w.heap.size, 12, none⟩ = some (.int .i64 167772162) := by rw [k1.cell 12, Array.getElem?_toList]; exact hf.f12
  clear k1 hf
  go_enter Tryd.func25, Tryd.ntmps25
  go_wp2
  go_ret
  exact ⟨rfl, B1.out⟩
/-- the header's parts -/
def exP : List (Int × Nat) := [(69, 1), (0, 1), (28, 2), (0, 2), (0, 2), (64, 1), (17, 1), (0, 2), (167772161, 4), (167772162, 4)]
instance (p : Int × Nat) : Decidable (PartOk p) := by unfold PartOk; infer_instance
theorem exP_ok : ∀ p ∈ exP, PartOk p := by decide +kernel
def exH : List UInt8 := [69, 0, 0, 28, 0, 0, 0, 0, 64, 17, 102, 207, 10, 0, 0, 1, 10, 0, 0, 2]
theorem exH_eq : sealL (wrL exP) = exH := by decide +kernel
theorem own_low {w : World} {b b' : Nat} {v : Value} {l : List UInt8} (h : Own w b v l) (hb : b' ≤ b) : Own w b' v l := by
  obtain ⟨h1, h2⟩ := h
  refine ⟨h1, h2.imp id ?_⟩
  rintro ⟨g, cap, cur, e, hg, r⟩
  exact ⟨g, cap, cur, e, Nat.le_trans hb hg, r⟩
/-- a header of the call's own, sealed, is the call's own -/
theorem seal_own {w : World} {base : Nat} {v : Value} {l : List UInt8} (ho : Own w base v l) (hb : base ≤ w.heap.size) (h12 : 12 ≤ l.length) (hn : l.length ≤ 140737488355328) :
    Calls Tryd.prog 18 #[v] w fun e w' => e = .returned (.tuple #[]) ∧ Own w' base v (sealL l) ∧ Below base w w' := by
  rcases ho.2 with ⟨_, h⟩ | ⟨g, cap, cur, rfl, h1, h2, h3, h4, h5, h6⟩
  · omega
  · have hk : Blk w g 5 cur.toList := by simpa [Blk] using h2
    have ht : cur.toList.take l.length = l.map cellOf := by simpa using h6
    refine (seal_any g l.length cap cur.toList l w hk ht rfl h12 h3 hn).mono ?_
    rintro e w' ⟨rfl, hk2, hg⟩
    have hlen : cur.toList.length = cap := by rw [Array.length_toList, h5]; omega
    refine ⟨rfl, ⟨by simp, .inr ⟨g, cap, ((sealL l).map cellOf ++ cur.toList.drop l.length).toArray, by rw [sealL_length], h1, hk2, by rw [sealL_length]; exact h3, h4, ?_, ?_⟩⟩, (Below.refl _ _).grown hg hb (fun k e => by cases e; exact h1)⟩
    · simp [sealL_length]; omega
    · simp
theorem fourHead_ex (fv : Array Value) (w : World) (hf : FldA fv) : Calls Tryd.prog 26 #[.agg fv, .int .i64 8] w fun e w' => ∃ v, e = .returned v ∧ Own w' w.heap.size v exH ∧ Below w.heap.size w w' := by
  obtain ⟨W1, hW1⟩ : ∃ W1, w.alloc (.cells fv 54) = W1 := ⟨_, rfl⟩
  have k1 : Blk W1 w.heap.size 54 fv.toList := by rw [← hW1]; exact blk_new w _ _
  have B1 : Below w.heap.size w W1 := by rw [← hW1]; exact (Below.refl _ _).alloc (Nat.le_refl _) _
  have c1 : W1.cell? ⟨w.heap.size, 1, none⟩ = some (.int .i64 0) := by rw [k1.cell 1, Array.getElem?_toList]; exact hf.f1
  have c5 : W1.cell? ⟨w.heap.size, 5, none⟩ = some (.int .i64 0) := by rw [k1.cell 5, Array.getElem?_toList]; exact hf.f5
  have c6 : W1.cell? ⟨w.heap.size, 6, none⟩ = some (.bool false) := by rw [k1.cell 6, Array.getElem?_toList]; exact hf.f6
  have c7 : W1.cell? ⟨w.heap.size, 7, none⟩ = some (.bool false) := by rw [k1.cell 7, Array.getElem?_toList]; exact hf.f7
  have c8 : W1.cell? ⟨w.heap.size, 8, none⟩ = some (.int .i64 0) := by rw [k1.cell 8, Array.getElem?_toList]; exact hf.f8
  have c9 : W1.cell? ⟨w.heap.size, 9, none⟩ = some (.int .i64 64) := by rw [k1.cell 9, Array.getElem?_toList]; exact hf.f9
  have c10 : W1.cell? ⟨w.heap.size, 10, none⟩ = some (.int .i64 17) := by rw [k1.cell 10, Array.getElem?_toList]; exact hf.f10
  have c11 : W1.cell? ⟨w.heap.size, 11, none⟩ = some (.int .i64 167772161) := by rw [k1.cell 11, Array.getElem?_toList]; exact hf.f11
  have c12 : W1.cell? ⟨w.heap.size, 12, none⟩ = some (.int .i64 167772162) := by rw [k1.cell 12, Array.getElem?_toList]; exact hf.f12
  obtain ⟨W2, hW2⟩ : ∃ W2, W1.alloc (.cells #[.int .i64 69, .int .i64 1, .int .i64 0, .int .i64 1, .int .i64 28, .int .i64 2, .int .i64 0, .int .i64 2, .int .i64 0, .int .i64 2, .int .i64 64, .int .i64 1, .int .i64 17, .int .i64 1, .int .i64 0, .int .i64 2, .int .i64 167772161, .int .i64 4, .int .i64 167772162, .int .i64 4] 70) = W2 := ⟨_, rfl⟩
  have k2 : Blk W2 W1.heap.size 70 [.int .i64 69, .int .i64 1, .int .i64 0, .int .i64 1, .int .i64 28, .int .i64 2, .int .i64 0, .int .i64 2, .int .i64 0, .int .i64 2, .int .i64 64, .int .i64 1, .int .i64 17, .int .i64 1, .int .i64 0, .int .i64 2, .int .i64 167772161, .int .i64 4, .int .i64 167772162, .int .i64 4] := by rw [← hW2]; exact blk_new W1 _ _
  have B2 : Below w.heap.size w W2 := by rw [← hW2]; exact B1.alloc B1.size _
  have P := Lib.hid (written_any W1.heap.size 10 10 exP W2 rfl k2.lt (by decide) exP_ok (by
    intro j hj
    rcases (show j = 0 ∨ j = 1 ∨ j = 2 ∨ j = 3 ∨ j = 4 ∨ j = 5 ∨ j = 6 ∨ j = 7 ∨ j = 8 ∨ j = 9 by simp [exP] at hj; omega) with rfl | rfl | rfl | rfl | rfl | rfl | rfl | rfl | rfl | rfl
    all_goals exact ⟨k2.cell _, k2.cell _⟩))
  have HB2 := Lib.hid B2
  clear k1 k2 B1 B2 hf
  go_enter Tryd.func26, Tryd.ntmps26
  go_wp2_with (first
    | (go_at_call 42; (with_reducible refine (P.out).mono ?_); rintro e w3 ⟨v, rfl, HO, HB3⟩)
    | (go_at_call 18; (with_reducible refine (seal_own (base := w.heap.size) (own_low HO HB2.out.size) (Nat.le_trans HB2.out.size HB3.size) (by decide) (by decide)).mono ?_); rintro e w4 ⟨rfl, HO4, HB4⟩))
  rw [exH_eq] at HO4
  have HB := Lib.hid ((HB2.out.trans (HB3.mono HB2.out.size)).trans HB4)
  clear HB3 HB4 HO
  go_ret
  exact ⟨v, rfl, HO4, HB.out⟩
end Go.Proofs.YtjkdlmielckaaaaDoor
