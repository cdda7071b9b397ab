/-
  fcs.together: two slices, one behind the other, in new memory; tetherlaw02.same: are the bytes the same.
-/
import Derived.Test.YtmdlpbgelgeiaaaDoorClone0
import Derived.Laws.BytesArg
namespace Go.Proofs.YtmdlpbgelgeiaaaDoor
open Go.RowKit
set_option maxRecDepth 100000
set_option maxHeartbeats 400000
set_option linter.unusedSimpArgs false
set_option linter.unusedVariables false

theorem together_any (A D : Option Addr) (n c m d B : Nat) (l k : List UInt8) (w : World) (hr : Rd w B A n l) (hq : Rd w B D m k) (hB : B ≤ w.heap.size) (hn : n + m ≤ 140737488355328) :
    Calls Tryd.prog 49 #[.slice A n c, .slice D m d] w fun e w' => e = .returned (.slice (some ⟨w.heap.size, 0, none⟩) (n + m) (n + m)) ∧ Own w' w.heap.size (.slice (some ⟨w.heap.size, 0, none⟩) (n + m) (n + m)) (l ++ k) ∧ Below w.heap.size w w' := by
  have hmk := fun w => mk_run (n + m) ((n : Int) + (m : Int)) (by omega) (by omega) w
  have hl := hr.1
  have hk := hq.1
  obtain ⟨w2, hcp, hb2, hg2⟩ := copy_run (blk_new w 5 (zeros (n + m))) 0 (n + m) (n + m) c (hr.alloc hB _) n (by omega) (by rw [zeros_length]; omega)
  have e : (zeros (n + m)).take 0 ++ ((l.take n).map cellOf ++ (zeros (n + m)).drop (0 + n)) = l.map cellOf ++ zeros m := by
    rw [List.take_zero, List.nil_append, List.take_of_length_le (by omega)]
    simp [zeros]
  rw [e] at hb2
  have hlen : (l.map cellOf ++ zeros m).length = n + m := by rw [List.length_append, List.length_map, zeros_length, hl]
  have hB2 : Below w.heap.size w w2 := ((Below.refl _ _).alloc (Nat.le_refl _) _).grown hg2 (by simp) (by intro k hk; injection hk with hk; omega)
  have hq2 : Rd w2 B D m k := hq.below (hB2.mono hB)
  rcases Nat.eq_zero_or_pos m with h0 | h0
  · subst h0
    obtain ⟨w3, hcp2, hb3, hg3⟩ := copy_run hb2 0 0 0 d hq2 0 (by omega) (by omega)
    have e3 : (l.map cellOf ++ zeros 0).take 0 ++ ((k.take 0).map cellOf ++ (l.map cellOf ++ zeros 0).drop (0 + 0)) = (l ++ k).map cellOf := by
      rw [List.eq_nil_of_length_eq_zero hk]
      simp [zeros]
    rw [e3] at hb3
    have hO := own_of_blk (base := w.heap.size) hb3 (Nat.le_refl _) (by rw [List.length_append]; omega)
    rw [show (l ++ k).length = n + 0 by rw [List.length_append]; omega] at hO
    have O := Lib.hid hO
    have BB := Lib.hid (hB2.grown hg3 hB2.size (by intro k hk; injection hk with hk; omega))
    simp only [Nat.add_zero] at hmk hcp
    have hmk2 : ∀ w, (Instr.makeSlice 22 (.int .i64 (n : Int)) (.int .i64 (n : Int))).run Tryd.prog w = .ok (.slice (some ⟨w.heap.size, 0, none⟩) n n) (w.alloc (.cells (zeros n).toArray 5)) := fun w => mk_run n n rfl (by omega) w
    clear hO hb3 hg3 hb2 hg2 e e3 hlen hB2 hq2 hr hq hl hk hmk
    go_enter Tryd.func49, Tryd.ntmps49
    go_wp2
    go_ret
    exact ⟨rfl, O.out, BB.out⟩
  · obtain ⟨w3, hcp2, hb3, hg3⟩ := copy_run hb2 n m m d hq2 m (by omega) (by omega)
    have e3 : (l.map cellOf ++ zeros m).take n ++ ((k.take m).map cellOf ++ (l.map cellOf ++ zeros m).drop (n + m)) = (l ++ k).map cellOf := by
      rw [List.drop_eq_nil_of_le (by omega), List.take_append_of_le_length (by rw [List.length_map]; omega), List.take_of_length_le (by rw [List.length_map]; omega), List.take_of_length_le (l := k) (by omega)]
      simp
    rw [e3] at hb3
    have hO := own_of_blk (base := w.heap.size) hb3 (Nat.le_refl _) (by rw [List.length_append]; omega)
    rw [show (l ++ k).length = n + m by rw [List.length_append]; omega] at hO
    have O := Lib.hid hO
    have BB := Lib.hid (hB2.grown hg3 hB2.size (by intro k hk; injection hk with hk; omega))
    have hne : ¬ n + m = n := by omega
    clear hO hb3 hg3 hb2 hg2 e e3 hlen hB2 hq2 hr hq hl hk
    go_enter Tryd.func49, Tryd.ntmps49
    go_wp2
    go_ret
    exact ⟨rfl, O.out, BB.out⟩
end Go.Proofs.YtmdlpbgelgeiaaaDoor
