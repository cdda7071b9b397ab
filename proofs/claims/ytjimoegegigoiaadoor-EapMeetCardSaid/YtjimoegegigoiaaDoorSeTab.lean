/-
  (*secret.Table).Find.
-/
import Derived.Test.YtjimoegegigoiaaDoorSeNew
namespace Go.Proofs.YtjimoegegigoiaaDoor
open Go.RowKit Go.Shelf
set_option maxRecDepth 100000
set_option maxHeartbeats 4000000
set_option linter.unusedSimpArgs false
set_option linter.unusedVariables false

theorem tabFind_any (g : Nat) (ss : List Sec) (cl sv : ByteArray) (w : World) (h : TableAt w g ss) (hcl : cl.size ≤ maxLen) (hsv : sv.size ≤ maxLen) :
    Calls Tryd.prog 117 #[.pointer (some ⟨g, 0, none⟩), .string cl, .string sv] w (BestR w ss (bst ss cl sv)) := by
  obtain ⟨V, hV⟩ : ∃ V, w.alloc (.cells #[.string ⟨#[]⟩, .string ⟨#[]⟩, .string ⟨#[]⟩, .slice none 0 0] 50) = V := ⟨_, rfl⟩
  have hBV : Below w.heap.size w V := by rw [← hV]; exact (Below.refl _ _).alloc (Nat.le_refl _) _
  have hnew : Blk V w.heap.size 50 [.string ⟨#[]⟩, .string ⟨#[]⟩, .string ⟨#[]⟩, .slice none 0 0] := by rw [← hV]; exact heap_alloc_new w _
  have zV : V.heap.size = w.heap.size + 1 := by rw [← hV]; simp
  have hBD : Below V.heap.size V V.drew := below_drewS (Below.refl _ _) 1
  obtain ⟨A, n, c, mb, hb, hrd, hM⟩ := (h.later hBV)
  have t0 : V.cell? ⟨g, 0, none⟩ = some (.slice A n c) := hb.cell 0
  have t1 : V.cell? ⟨g, 1, none⟩ = some (.map (some mb)) := hb.cell 1
  have tl := Blk.lt hb
  obtain ⟨o, ho⟩ : ∃ o, bst ss cl sv = o := ⟨_, rfl⟩
  have BE := best_any A n c V.heap.size mb n ss cl sv V.drew (hrd.below hBD (Nat.le_refl _)) (hM.later hBD) (Nat.le_refl _) hcl hsv
  rw [ho] at BE ⊢
  have C : Hid (Calls Tryd.prog 127 #[.slice A n c, .map (some mb), .string cl, .string sv] V.drew fun e w3 => ∃ a1 a2 a3 a4 b, e = .returned (.tuple #[.agg #[a1, a2, a3, a4], .bool b]) ∧ w.heap.size < w3.heap.size ∧ Blk w3 w.heap.size 50 [.string ⟨#[]⟩, .string ⟨#[]⟩, .string ⟨#[]⟩, .slice none 0 0] ∧ (∃ s1 s2 s3 E m k, a1 = .string s1 ∧ a2 = .string s2 ∧ a3 = .string s3 ∧ a4 = .slice E m k) ∧
      ∀ W', w3.grownBy W' (some w.heap.size) → BestR w ss o (.returned (.tuple #[.agg #[a1, a2, a3, a4], .bool b])) W') := by
    refine BE.mono ?_
    rintro e w3 ⟨b3, hr⟩
    have z3 := b3.size
    have zD : V.drew.heap.size = V.heap.size := rfl
    have B3 : Below w.heap.size w w3 := (hBV.trans (hBD.mono (by omega))).trans (b3.mono (by omega))
    have hb3 : Blk w3 w.heap.size 50 _ := (b3.block _ (by omega)).trans hnew
    have fin : ∀ W', w3.grownBy W' (some w.heap.size) → Below w.heap.size w W' := fun W' g => B3.grown g (by omega) (fun q e => by cases e; exact Nat.le_refl _)
    cases o with
    | none =>
      have he : e = .returned (.tuple #[.agg #[.string ⟨#[]⟩, .string ⟨#[]⟩, .string ⟨#[]⟩, .slice none 0 0], .bool false]) := hr
      exact ⟨_, _, _, _, _, he, by omega, hb3, ⟨_, _, _, _, _, _, rfl, rfl, rfl, rfl⟩, fun W' g => ⟨fin W' g, rfl⟩⟩
    | some i =>
      obtain ⟨x, E, m, k, hx, he, ha, hE⟩ := hr
      refine ⟨_, _, _, _, _, he, by omega, hb3, ⟨_, _, _, _, _, _, rfl, rfl, rfl, rfl⟩, fun W' g => ⟨fin W' g, x, E, m, k, hx, rfl, ?_, fun b o s e => ⟨by have := (hE b o s e).1; omega, by have := (hE b o s e).2; have := g.size; omega⟩⟩⟩
      exact (ha.keep (fun b o e => g.block b (hE b o none e).2 (by have := (hE b o none e).1; intro e2; injection e2 with e2; omega))).wide g.size
  have HV := Lib.hid hV
  clear h hrd hM hb BE ho hV hBV hBD hcl hsv hnew
  go_enter Tryd.func117, Tryd.ntmps117
  go_upto_region 3 with (rw [HV.out])
  go_region_law (go_simp; go_at_call 127; (with_reducible refine C.out.mono ?_); rintro e w3 ⟨a1, a2, a3, a4, b, rfl, z3, b2, ⟨s1, s2, s3, E, m, k, rfl, rfl, rfl, rfl⟩, c9⟩; have r0 := b2.cell 0; have r1 := b2.cell 1; have r2 := b2.cell 2; have r3 := b2.cell 3; have g0 := b2.frozen 0; have g1 := b2.frozen 1; have g2 := b2.frozen 2; have g3 := b2.frozen 3; have C9 := Lib.hid c9; have B2 := Lib.hid b2; clear c9 b2)
  all_goals
    go_wp2
    have hb4 := blk4 (x := .string s1) (y := .string s2) (z := .string s3) (v := .slice E m k) B2.out
    have y0 := hb4.cell 0
    have y1 := hb4.cell 1
    have y2 := hb4.cell 2
    have y3 := hb4.cell 3
    exact bodyPost_ret (v := .tuple #[.agg #[.string s1, .string s2, .string s3, .slice E m k], .bool b]) (by simp [results, Tryd.results117, go_sem, y0, y1, y2, y3]) rfl (C9.out _ (gset4 _ _ _ _ _ _))
/-- what Check answers -/
noncomputable def chkW (ss : List Sec) (o : Option Nat) (word : ByteArray) : Int :=
  match o.bind fun i => ss[i]? with
  | none => 5
  | some x => if x.wd.size = 0 ∨ x.wd ≠ word then 120 else 0
theorem word_eq (a b : ByteArray) : (a.toList == b.toList) = decide (a = b) := by
  rw [ByteArray.toList_eq, ByteArray.toList_eq, Bool.eq_iff_iff, beq_iff_eq, decide_eq_true_iff]
  exact ⟨fun h => WideShapes.bytes_inj h, fun h => by rw [h]⟩
end Go.Proofs.YtjimoegegigoiaaDoor
