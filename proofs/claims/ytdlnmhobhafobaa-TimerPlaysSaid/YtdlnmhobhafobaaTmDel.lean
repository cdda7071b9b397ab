/-
  drop$1, slices.IndexFunc over it.
-/
import Derived.Test.YtdlnmhobhafobaaTmFind
import Derived.Laws.StructEq
import Derived.Outline
namespace Go.Proofs.Ytdlnmhobhafobaa
open Go.RowKit Go.Shelf
set_option maxRecDepth 100000
set_option maxHeartbeats 2000000
set_option linter.unusedSimpArgs false
set_option linter.unusedVariables false

theorem eqT (x t : T2) (W : World) : (binOp .eql 95 (.agg #[.int .i64 x.1, .int .i64 x.2]) (.agg #[.int .i64 t.1, .int .i64 t.2])).run Try.prog W = .ok (.bool (decide (x = t))) W := by
  have u3 := Try.underlying3
  have u2 := Try.underlying2
  have a3 := Try.isAgg3
  have a2 := Try.isAgg2
  have z3 := Try.sizeOf3
  have z2 := Try.sizeOf2
  have hS : Try.prog.underlying 95 = some (.struct (Try.prog.fieldsOf 95)) := by kernel_rfl
  have hp : Try.prog.stoodInHeld 95 = false := by kernel_rfl
  have h : (binOp .eql 95 (.agg #[.int .i64 x.1, .int .i64 x.2]) (.agg #[.int .i64 t.1, .int .i64 t.2])).run Try.prog W = .ok (.bool (x.1 == t.1 && x.2 == t.2)) W := by
    rw [run_eql_struct, show (10000 : Nat) = 9999 + 1 from rfl, run_equalIn_agg W 9999 95 _ _ hS hp]
    simp only [Program.fieldsOf, Try.underlying95]
    go_simp
    by_cases h1 : x.1 = t.1 <;> by_cases h2 : x.2 = t.2 <;> simp [h1, h2]
  rw [h]
  congr 2
  rw [Bool.eq_iff_iff]
  simp [Prod.ext_iff]
theorem drop1_any (tb : Nat) (t x : T2) (w : World) (h : Blk w tb 95 (cellsT t)) :
    Calls Try.prog 110 #[.agg #[.int .i64 x.1, .int .i64 x.2], .pointer (some ⟨tb, 0, none⟩)] w fun e w' => e = .returned (.bool (decide (x = t))) ∧ Below w.heap.size w w' := by
  have c0 : w.cell? ⟨tb, 0, none⟩ = some (.int .i64 t.1) := h.cell 0
  have c1 : w.cell? ⟨tb, 1, none⟩ = some (.int .i64 t.2) := h.cell 1
  have hl := Blk.lt h
  have hne : w.heap.size ≠ tb := by omega
  have EQ := fun W => eqT x t W
  clear h
  go_enter Try.func110, Try.ntmps110
  go_wp2
  go_ret
  exact ⟨rfl, (Below.refl _ _).alloc (Nat.le_refl _) _⟩
def idxT (t : T2) (xs : List T2) : Int := match xs.findIdx? (fun y => decide (y = t)) with | some i => (i : Int) | none => -1
theorem index_any (base tb : Nat) (v : Value) (t : T2) (xs : List T2) (w : World) (ho : OwnT w base v xs) (h : Blk w tb 95 (cellsT t)) (hm : xs.length ≤ 1152921504606846976) :
    Calls Try.prog 118 #[v, .func (.func 110) #[] #[.pointer (some ⟨tb, 0, none⟩)]] w fun e w' =>
      ((∃ k : Nat, e = .returned (.int .i64 k) ∧ xs[k]? = some t ∧ ∀ y ∈ xs.take k, y ≠ t) ∨ (e = .returned (.int .i64 (-1)) ∧ ∀ y ∈ xs, y ≠ t)) ∧ Below w.heap.size w w' := by
  obtain ⟨A, c, rfl, _⟩ := ho.slice
  obtain ⟨N, hN⟩ : ∃ N, N = xs.length := ⟨_, rfl⟩
  have HO := Lib.hid ho
  have HB := Lib.hid h
  have HN := Lib.hid hN
  rw [← hN] at hm
  rw [← hN]
  clear ho h hN
  go_enter Try.func118, Try.ntmps118
  go_wp2
  go_loopw [8] (fun vi wr => ∃ k : Nat, vi = .int .i64 k ∧ k ≤ N ∧ (∀ y ∈ xs.take k, y ≠ t) ∧ Below w.heap.size w wr) (fun vi _ => N - (intOf vi).toNat)
  case atStart => exact ⟨0, rfl, by omega, fun y hy => (by simp at hy), Below.refl _ _⟩
  case round =>
    rename World => wr
    obtain ⟨k, rfl, hk, hall, hB⟩ := hrel
    by_cases hlt : k < N
    · obtain ⟨x, hx⟩ : ∃ x, xs[k]? = some x := ⟨xs[k]'(by have := HN.out; omega), List.getElem?_eq_getElem _⟩
      obtain ⟨g', rfl⟩ : ∃ g', A = some ⟨g', 0, none⟩ := by
        rcases HO.out.form with ⟨_, e⟩ | ⟨g', cap, e, _⟩
        · rw [e] at hx; simp at hx
        · injection e with e
          exact ⟨g', e⟩
      have how := HO.out.later hB
      rw [← HN.out] at how
      obtain ⟨c0, c1⟩ := how.cell k x hx
      have hk0 : (0 : Int) ≤ (k : Int) := by omega
      have hkN : (k : Int) < (N : Int) := by omega
      have DA := Lib.hid (drop1_any tb t x wr ((hB.block tb (Blk.lt HB.out)).trans HB.out))
      have HX := Lib.hid hx
      have HALL := Lib.hid hall
      have HBB := Lib.hid hB
      clear how hx hall hB
      go_wp2_with fail
      refine DA.out.mono ?_
      rintro e w2 ⟨rfl, hb2⟩
      have B2 := Lib.hid (HBB.out.trans (hb2.mono HBB.out.size))
      clear hb2
      by_cases hxt : x = t
      · have hd : decide (x = t) = true := by simpa using hxt
        go_wp2
        go_ret
        exact ⟨.inl ⟨k, rfl, by rw [HX.out, hxt], HALL.out⟩, B2.out⟩
      · have hd : decide (x = t) = false := by simpa using hxt
        go_wp2
        go_roundw
        case rel =>
          refine ⟨k + 1, by go_num, by omega, fun y hy => ?_, B2.out⟩
          rw [take_one_more HX.out] at hy
          rcases List.mem_append.1 hy with h | h
          · exact HALL.out y h
          · rw [List.mem_singleton.1 h]
            exact hxt
        case measure => simp [intOf]; omega
    · obtain rfl : k = N := by omega
      rw [show xs.take k = xs by rw [HN.out, List.take_length]] at hall
      have HALL := Lib.hid hall
      have HBB := Lib.hid hB
      clear hall hB
      go_wp2
      go_ret
      exact ⟨.inr ⟨rfl, HALL.out⟩, HBB.out⟩
end Go.Proofs.Ytdlnmhobhafobaa
