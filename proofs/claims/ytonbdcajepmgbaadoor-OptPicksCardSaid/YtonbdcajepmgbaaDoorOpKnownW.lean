/-
  tetherlaw09.known: its answer is true, whatever the world.
-/
import Derived.Test.YtonbdcajepmgbaaDoorOpOptions
import Derived.Test.YtonbdcajepmgbaaDoorOpPack
import Derived.Test.YtonbdcajepmgbaaDoorSame
namespace Go.Proofs.YtonbdcajepmgbaaDoor
open Go.RowKit
set_option maxRecDepth 100000
set_option maxHeartbeats 4000000
set_option linter.unusedSimpArgs false
set_option linter.unusedVariables false

theorem rd_six (w : World) : Rd (w.alloc (.cells #[.int .u8 1, .int .u8 4, .int .u8 5, .int .u8 220, .int .u8 7, .int .u8 2] 5)) (w.heap.size + 1) (some ⟨w.heap.size, 0, none⟩) 6 k6 := by
  have h := blk_new w 5 [.int .u8 1, .int .u8 4, .int .u8 5, .int .u8 220, .int .u8 7, .int .u8 2]
  refine ⟨rfl, fun _ => ⟨w.heap.size, 0, rfl, by omega, fun j hj => ?_⟩⟩
  rw [Nat.zero_add]
  match j, hj with
  | 0, _ => exact h.cell 0
  | 1, _ => exact h.cell 1
  | 2, _ => exact h.cell 2
  | 3, _ => exact h.cell 3
  | 4, _ => exact h.cell 4
  | 5, _ => exact h.cell 5
def k4 : List UInt8 := [1, 1, 0, 4]
theorem rd_four (w : World) : Rd (w.alloc (.cells #[.int .u8 1, .int .u8 1, .int .u8 0, .int .u8 4] 5)) (w.heap.size + 1) (some ⟨w.heap.size, 0, none⟩) 4 k4 := by
  have h := blk_new w 5 [.int .u8 1, .int .u8 1, .int .u8 0, .int .u8 4]
  refine ⟨rfl, fun _ => ⟨w.heap.size, 0, rfl, by omega, fun j hj => ?_⟩⟩
  rw [Nat.zero_add]
  match j, hj with
  | 0, _ => exact h.cell 0
  | 1, _ => exact h.cell 1
  | 2, _ => exact h.cell 2
  | 3, _ => exact h.cell 3
theorem k4_pk : pkO 1 1 [] = k4 ∧ pkE 1 1 0 = 0 := by
  obtain ⟨h1, h2⟩ := pk_ok (C := 1) (I := 1) (l := []) (by unfold isB; omega) (by unfold isB; omega) (by simp)
  exact ⟨h2.trans rfl, h1⟩
def KnRow (w : World) (g : Nat) (D1 : Option Addr) (c1 : Nat) : Prop := w.cell? ⟨g, 0, none⟩ = some (.int .i64 1) ∧ w.cell? ⟨g, 1, none⟩ = some (.slice D1 2 c1) ∧ w.cell? ⟨g, 2, none⟩ = some (.int .i64 7)
theorem OwnO.kn {w : World} {base : Nat} {v : Value} {D1 D2 : Option Addr} {c1 c2 : Nat} (h : OwnO w base v 2 (k6C 2 D1 D2 c1 c2)) : ∃ g cc, v = .slice (some ⟨g, 0, none⟩) 2 cc ∧ KnRow w g D1 c1 ∧ g < w.heap.size := by
  rcases h.2 with ⟨_, h0⟩ | ⟨g, cap, cur, rfl, hb, hg, _⟩
  · cases h0
  · have f : ∀ j u, (k6C 2 D1 D2 c1 c2)[j]? = some u → w.cell? ⟨g, j, none⟩ = some u := fun j u hj => by
      have h1 := World.ownsRow.cells h (g := g) rfl j u hj
      rwa [addr_add] at h1
    exact ⟨g, cap, rfl, ⟨f 0 _ rfl, f 1 _ rfl, f 2 _ rfl⟩, (Array.getElem?_eq_some_iff.1 hg).1⟩
theorem KnRow.later {w w' : World} {g : Nat} {D1 : Option Addr} {c1 : Nat} (h : KnRow w g D1 c1) (hg : g < w.heap.size) (hB : Below w.heap.size w w') : KnRow w' g D1 c1 := ⟨(hB.cell hg).trans h.1, (hB.cell hg).trans h.2.1, (hB.cell hg).trans h.2.2⟩
theorem known_yes (w : World) : Calls Tryd.prog 4 #[] w fun e w' => e = .returned (.bool true) ∧ Below w.heap.size w w' := by
  have N : Hid (Calls Tryd.prog 21 #[.agg #[.int .i64 1, .int .i64 1, .slice none 0 0]] w fun e w1 => ∃ A c, e = .returned (.tuple #[.slice A 4 c, .int .i64 0]) ∧
      Calls Tryd.prog 22 #[.slice (some ⟨w1.heap.size, 0, none⟩) 6 6] (w1.alloc (.cells #[.int .u8 1, .int .u8 4, .int .u8 5, .int .u8 220, .int .u8 7, .int .u8 2] 5)) fun e w2 =>
        ∃ g cc D1 c1, e = .returned (.tuple #[.slice (some ⟨g, 0, none⟩) 2 cc, .int .i64 0]) ∧
          Calls Tryd.prog 23 #[.slice A 4 c, .slice (some ⟨w2.heap.size, 0, none⟩) 4 4] (w2.alloc (.cells #[.int .u8 1, .int .u8 1, .int .u8 0, .int .u8 4] 5)) fun e w3 =>
            e = .returned (.bool true) ∧ KnRow w3 g D1 c1 ∧ Below w.heap.size w w3) := by
    refine (pack_any none 0 0 0 [] 1 1 w Rd.nil (Nat.zero_le _) (fun _ => rfl) (by omega)).mono ?_
    rw [k4_pk.1, show pkE 1 1 ([] : List UInt8).length = 0 from k4_pk.2]
    rintro e w1 ⟨v, rfl, ho, hB1⟩
    rcases ho.form with ⟨_, e2⟩ | ⟨q, cap, rfl, hq1, hq2, hq3⟩
    · cases e2
    have r1 : Rd w1 w1.heap.size (some ⟨q, 0, none⟩) 4 k4 := ho.rd rfl 4 (by decide)
    have b1 := hB1.size
    have Ba : Below w1.heap.size w1 (w1.alloc (.cells #[.int .u8 1, .int .u8 4, .int .u8 5, .int .u8 220, .int .u8 7, .int .u8 2] 5)) := (Below.refl _ _).alloc (Nat.le_refl _) _
    refine ⟨_, _, rfl, (options_k6 _ 6 (w1.heap.size + 1) _ (rd_six w1) (by simp)).mono ?_⟩
    rintro e w2 ⟨v, rfl, ⟨D1, D2, c1, c2, hw⟩, hB2⟩
    have B2 : Below w1.heap.size w1 w2 := Ba.trans (hB2.mono (by simp))
    have b2 := B2.size
    obtain ⟨g, cc, rfl, hk, hg⟩ := hw.kn
    have Bb : Below w2.heap.size w2 (w2.alloc (.cells #[.int .u8 1, .int .u8 1, .int .u8 0, .int .u8 4] 5)) := (Below.refl _ _).alloc (Nat.le_refl _) _
    have r2 : Rd (w2.alloc (.cells #[.int .u8 1, .int .u8 1, .int .u8 0, .int .u8 4] 5)) (w2.heap.size + 1) (some ⟨q, 0, none⟩) 4 k4 := ((r1.later (Nat.le_refl _) B2).wide b2).below Bb |>.wide (by omega)
    refine ⟨g, cc, D1, c1, rfl, (same_yes _ _ 4 _ 4 k4 _ (w2.heap.size + 1) r2 (rd_four w2) (by unfold maxLen; omega)).mono ?_⟩
    rintro e w3 ⟨rfl, k, rfl⟩
    have B4 : Below w.heap.size w (w2.alloc (.cells #[.int .u8 1, .int .u8 1, .int .u8 0, .int .u8 4] 5)) := (hB1.trans (B2.mono b1)).trans (Bb.mono (by omega))
    exact ⟨rfl, hk.later hg (below_drewN Bb k), below_drewN B4 k⟩
  go_enter Tryd.func4, Tryd.ntmps4
  go_wp2_with (first
    | (go_at_call 21; ((with_reducible refine N.out.mono ?_); rintro e w1 ⟨A, c, rfl, n2⟩; have N2 := Lib.hid n2; clear n2))
    | (go_at_call 22; ((with_reducible refine N2.out.mono ?_); rintro e w2 ⟨g, cc, D1, c1, rfl, n3⟩; have N3 := Lib.hid n3; clear n3))
    | (go_at_call 23; ((with_reducible refine N3.out.mono ?_); rintro e w3 ⟨rfl, ⟨x0, x1, x2⟩, hb⟩; have HB := Lib.hid hb; clear hb)))
  go_ret
  exact ⟨rfl, HB.out⟩
end Go.Proofs.YtonbdcajepmgbaaDoor
