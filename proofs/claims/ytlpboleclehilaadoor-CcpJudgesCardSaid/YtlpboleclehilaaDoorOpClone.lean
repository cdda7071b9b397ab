/-
  bytes.Clone of any bytes; opt.clone of an option.
-/
import Derived.Test.YtlpboleclehilaaDoorBytesClone
import Derived.Test.YtlpboleclehilaaDoorOpOwnO
import Derived.BigQuiet
import Derived.Deep.Cut
import Derived.Deep.Light
import Derived.Deep.QuietTactic
import Derived.Deep.RegionLaw
import Derived.Outline
import Derived.LoopTactic
namespace Go.Proofs.YtlpboleclehilaaDoor
open Go.RowKit
set_option maxRecDepth 100000
set_option maxHeartbeats 4000000
set_option linter.unusedSimpArgs false
set_option linter.unusedVariables false

theorem own_rdv1 {w : World} {base : Nat} {v : Value} {l : List UInt8} (h : Own w base v l) : ∃ A c, v = .slice A l.length c ∧ Rd w w.heap.size A l.length l ∧ (∀ q, v.ownBlock = some q → base ≤ q) := by
  have hb : ∀ q, v.ownBlock = some q → base ≤ q := fun q hq => (h.block q hq).1
  rcases h.form with ⟨rfl, rfl⟩ | ⟨g, cap, rfl, h1, h2, h3⟩
  · exact ⟨none, 0, rfl, Rd.nil, hb⟩
  · have r := h.rd rfl l.length (Nat.le_refl _)
    rw [List.take_length] at r
    exact ⟨_, _, rfl, r, hb⟩
/-- an option, and its copy of the call's own -/
theorem oclone_any (K : Int) (D : Option Addr) (m c B : Nat) (l : List UInt8) (w : World) (hr : Rd w B D m l) (hB : B ≤ w.heap.size) (hnil : D = none → c = 0) (hn : m ≤ 140737488355328) :
    Calls Tryd.prog 57 #[.agg #[.int .i64 K, .slice D m c]] w fun e w' => ∃ A cc, e = .returned (.agg #[.int .i64 K, .slice A m cc]) ∧ Own w' w.heap.size (.slice A m cc) l ∧ Below w.heap.size w w' := by
  have hzv : ∀ W, (zeroValue 61).run Tryd.prog W = .ok (.agg #[.int .i64 0, .slice none 0 0]) W := fun W => by kernel_rfl
  have hl := hr.1
  obtain ⟨W2, hW2⟩ : ∃ W2, W2 = (w.alloc (.cells #[.int .i64 K, .slice D m c] 61)).alloc (.cells #[.int .i64 0, .slice none 0 0] 61) := ⟨_, rfl⟩
  have hB2 : Below w.heap.size w W2 := by rw [hW2]; exact ((Below.refl _ _).alloc (Nat.le_refl _) _).alloc (by simp) _
  have hs2 : W2.heap.size = w.heap.size + 2 := by rw [hW2]; simp
  have k2 : Blk W2 (w.heap.size + 1) 61 [.int .i64 0, .slice none 0 0] := by
    have h := blk_new (w.alloc (.cells #[.int .i64 K, .slice D m c] 61)) 61 [.int .i64 0, .slice none 0 0]
    rw [hW2]
    simpa using h
  have k1 : Blk W2 w.heap.size 61 [.int .i64 K, .slice D m c] := by
    rw [hW2]
    exact (((Below.refl (w.heap.size + 1) _).alloc (by simp) _).block w.heap.size (by omega)).trans (blk_new w 61 [.int .i64 K, .slice D m c])
  have N : Hid (Calls Tryd.prog 55 #[.slice D m c] W2.drew fun e w3 => ∃ A cc, e = .returned (.slice A m cc) ∧ Blk w3 w.heap.size 61 [.int .i64 K, .slice D m c] ∧ Blk w3 (w.heap.size + 1) 61 [.int .i64 0, .slice none 0 0] ∧
      Own ((w3.setCell ⟨w.heap.size + 1, 0, none⟩ (.int .i64 K)).setCell ⟨w.heap.size + 1, 1, none⟩ (.slice A m cc)) w.heap.size (.slice A m cc) l ∧ Below w.heap.size w ((w3.setCell ⟨w.heap.size + 1, 0, none⟩ (.int .i64 K)).setCell ⟨w.heap.size + 1, 1, none⟩ (.slice A m cc))) := by
    refine (bclone_any D m c B l W2.drew (hr.below (hB2.mono hB)).drew (by show B ≤ W2.heap.size; omega) hnil hn).mono ?_
    rintro e w3 ⟨v, rfl, ho, hB3⟩
    have hB3 : Below W2.heap.size W2 w3 := ⟨hB3.os, hB3.tape, hB3.output, hB3.size, fun i hi => hB3.block i hi⟩
    have s3 := hB3.size
    have ho : Own w3 W2.heap.size v l := ho
    obtain ⟨A, cc, rfl, _, hb⟩ := own_rdv1 ho
    rw [hl] at ho hb ⊢
    have st : w3.grownBy ((w3.setCell ⟨w.heap.size + 1, 0, none⟩ (.int .i64 K)).setCell ⟨w.heap.size + 1, 1, none⟩ (.slice A m cc)) (some (w.heap.size + 1)) :=
      only_then (only_set (p := ⟨w.heap.size + 1, 0, none⟩) _) (only_set (p := ⟨w.heap.size + 1, 1, none⟩) _) (fun g e => .inl e)
    have hne : (Value.slice A m cc).ownBlock = none ∨ (Value.slice A m cc).ownBlock ≠ some (w.heap.size + 1) := by
      rcases e : (Value.slice A m cc).ownBlock with _ | q
      · exact .inl rfl
      · have := hb q e
        exact .inr (fun e => by injection e; omega)
    have ho' : Own w3 w.heap.size (.slice A m cc) l := by
      refine ⟨ho.1, ?_⟩
      rcases ho.2 with h | ⟨g', cap, cur, h1, h2, h3⟩
      · exact .inl h
      · exact .inr ⟨g', cap, cur, h1, by omega, h3⟩
    exact ⟨A, cc, rfl, (hB3.block _ (by omega)).trans k1, (hB3.block _ (by omega)).trans k2, ho'.grown st hne, (hB2.trans (hB3.mono (by omega))).grown st (by omega) (fun q e => by injection e; omega)⟩
  have HW : Hid ((w.alloc (.cells #[.int .i64 K, .slice D m c] 61)).alloc (.cells #[.int .i64 0, .slice none 0 0] 61) = W2) := hW2.symm
  have y0 : W2.drew.cell? ⟨w.heap.size, 0, none⟩ = some (.int .i64 K) := k1.cell 0
  have y1 : W2.drew.cell? ⟨w.heap.size, 1, none⟩ = some (.slice D m c) := k1.cell 1
  clear hW2 hB2 hs2 k1 k2 hr hB hnil hn hl
  go_enter Tryd.func57, Tryd.ntmps57
  go_upto_region 1 with (fail)
  rw [HW.out]
  clear HW
  go_region_law (go_simp; go_at_call 55; (with_reducible refine N.out.mono ?_); rintro e w3 ⟨A, cc, rfl, b1, b2, ho, hb⟩; have x0 : w3.cell? ⟨w.heap.size, 0, none⟩ = some (.int .i64 K) := b1.cell 0; have x1 : w3.cell? ⟨w.heap.size, 1, none⟩ = some (.slice D m c) := b1.cell 1; have z0 : w3.cell? ⟨w.heap.size + 1, 0, none⟩ = some (.int .i64 0) := b2.cell 0; have z1 : w3.cell? ⟨w.heap.size + 1, 1, none⟩ = some (.slice none 0 0) := b2.cell 1; have f0 := b2.frozen 0; have f1 := b2.frozen 1; have HO := Lib.hid ho; have HB := Lib.hid hb; clear ho hb b1 b2)
  all_goals go_wp2
  all_goals exact bodyPost_ret (v := .agg #[.int .i64 K, .slice A m cc]) (by simp [results, Tryd.results57, go_sem, x0, x1, z0, z1, f0, f1]) rfl ⟨A, cc, rfl, HO.out, HB.out⟩
end Go.Proofs.YtlpboleclehilaaDoor
