/-
  policy.New, Next.
-/
import Derived.Test.YtdjifjlkpimiaaaPoMeth
import Derived.Test.YtdjifjlkpimiaaaPoConf
namespace Go.Proofs.Ytdjifjlkpimiaaa
open Go.RowKit
set_option maxRecDepth 100000
set_option maxHeartbeats 4000000
set_option linter.unusedSimpArgs false
set_option linter.unusedVariables false

def spnB (z : Int) : Bool := decide (0 ≤ z ∧ z ≤ 2147483648)
def okN (il se ho mf : Int) : Bool := spnB ho && (spnB il && (spnB se && decide (0 ≤ mf ∧ mf ≤ 65535)))
def poNew (il se ho mf : Int) (pe dm : Bool) : PoS := ⟨false, 0, wyNone, dm, pe, ho, il, se, mf, 0, 0, 0, 0, 0⟩
def spAt (il se ho : Int) (j : Nat) : Int := if j = 0 then ho else if j = 1 then il else se
theorem poNew_ok {il se ho mf : Int} {pe dm : Bool} (h : okN il se ho mf = true) : PoOk (poNew il se ho mf pe dm) := by
  unfold okN spnB at h
  simp only [Bool.and_eq_true, decide_eq_true_eq] at h
  obtain ⟨h1, h2, h3, h4⟩ := h
  exact ⟨by simp only [poNew]; omega, by simp only [poNew]; omega, by simp only [poNew]; omega, h4, by simp [poNew], by simp [poNew], by simp [poNew], by simp [poNew], by simp [poNew], by simp [poNew]⟩
theorem okN_sp {il se ho mf : Int} : okN il se ho mf = true ↔ (∀ j, j < 3 → spnB (spAt il se ho j) = true) ∧ (0 ≤ mf ∧ mf ≤ 65535) := by
  unfold okN
  simp only [Bool.and_eq_true, decide_eq_true_eq]
  constructor
  · rintro ⟨a, b, c, d⟩
    refine ⟨fun j hj => ?_, d⟩
    match j, hj with
    | 0, _ => exact a
    | 1, _ => exact b
    | 2, _ => exact c
  · rintro ⟨h, d⟩
    exact ⟨h 0 (by omega), h 1 (by omega), h 2 (by omega), d⟩
/-- what New answers -/
def NewR (w : World) (il se ho mf : Int) (pe dm : Bool) (e : Ending) (w' : World) : Prop := Below w.heap.size w w' ∧
  (okN il se ho mf = false → e = .returned (.tuple #[.pointer none, .int .i64 1])) ∧
  (okN il se ho mf = true → ∃ g, e = .returned (.tuple #[.pointer (some ⟨g, 0, none⟩), .int .i64 0]) ∧ w.heap.size ≤ g ∧ PoB w' g (poNew il se ho mf pe dm))
theorem poNew_any (cv : Array Value) (il se ho mf : Int) (pe dm : Bool) (w : World) (hc : ConfP cv il se ho mf pe dm) : Calls Try.prog 8 #[.agg cv] w (NewR w il se ho mf pe dm) := by
  obtain ⟨W1, hW1⟩ : ∃ W1, w.alloc (.cells cv 25) = W1 := ⟨_, rfl⟩
  have k1 : Blk W1 w.heap.size 25 cv.toList := by rw [← hW1]; exact blk_new w _ _
  have s1 : W1.heap.size = w.heap.size + 1 := by rw [← hW1]; simp
  have B1 : Below w.heap.size w W1 := by rw [← hW1]; exact (Below.refl _ _).alloc (Nat.le_refl _) _
  have c25 : W1.cell? ⟨w.heap.size, 25, none⟩ = some (.int .i64 il) := by rw [k1.cell 25, Array.getElem?_toList]; exact hc.2.1
  have c26 : W1.cell? ⟨w.heap.size, 26, none⟩ = some (.int .i64 se) := by rw [k1.cell 26, Array.getElem?_toList]; exact hc.2.2.1
  have c27 : W1.cell? ⟨w.heap.size, 27, none⟩ = some (.int .i64 ho) := by rw [k1.cell 27, Array.getElem?_toList]; exact hc.2.2.2.1
  have c28 : W1.cell? ⟨w.heap.size, 28, none⟩ = some (.bool pe) := by rw [k1.cell 28, Array.getElem?_toList]; exact hc.2.2.2.2.1
  have c29 : W1.cell? ⟨w.heap.size, 29, none⟩ = some (.bool dm) := by rw [k1.cell 29, Array.getElem?_toList]; exact hc.2.2.2.2.2.1
  have c30 : W1.cell? ⟨w.heap.size, 30, none⟩ = some (.int .i64 mf) := by rw [k1.cell 30, Array.getElem?_toList]; exact hc.2.2.2.2.2.2
  obtain ⟨z, hz⟩ : ∃ z, w.heap.size = z := ⟨_, rfl⟩
  have HZ := Lib.hid hz
  have HW := Lib.hid hW1
  have HB := Lib.hid B1
  have HS := Lib.hid s1
  have lz : z < W1.heap.size := by omega
  rw [hz] at c25 c26 c27 c28 c29 c30
  clear k1 B1 hW1 s1 hc
  go_enter Try.func8, Try.ntmps8
  go_upto_region 1 with (fail)
  rw [HW.out]
  clear HW hz
  obtain ⟨W2, hW2⟩ : ∃ W2, W1.alloc (.cells #[.int .i64 ho, .int .i64 il, .int .i64 se] 2) = W2 := ⟨_, rfl⟩
  have B2 : Below W1.heap.size W1 W2 := by rw [← hW2]; exact (Below.refl _ _).alloc (Nat.le_refl _) _
  have k2 : Blk W2 W1.heap.size 2 [.int .i64 ho, .int .i64 il, .int .i64 se] := by rw [← hW2]; exact blk_new _ _ _
  have SP : Hid (∀ j, j < 3 → W2.cell? ⟨W1.heap.size, j, none⟩ = some (.int .i64 (spAt il se ho j))) := by
    show ∀ j, _ → _
    intro j hj
    rw [k2.cell j]
    match j, hj with
    | 0, _ => rfl
    | 1, _ => rfl
    | 2, _ => rfl
  have d25 : W2.cell? ⟨z, 25, none⟩ = some (.int .i64 il) := (B2.cell (p := ⟨z, 25, none⟩) lz).trans c25
  have d26 : W2.cell? ⟨z, 26, none⟩ = some (.int .i64 se) := (B2.cell (p := ⟨z, 26, none⟩) lz).trans c26
  have d27 : W2.cell? ⟨z, 27, none⟩ = some (.int .i64 ho) := (B2.cell (p := ⟨z, 27, none⟩) lz).trans c27
  have d28 : W2.cell? ⟨z, 28, none⟩ = some (.bool pe) := (B2.cell (p := ⟨z, 28, none⟩) lz).trans c28
  have d29 : W2.cell? ⟨z, 29, none⟩ = some (.bool dm) := (B2.cell (p := ⟨z, 29, none⟩) lz).trans c29
  have d30 : W2.cell? ⟨z, 30, none⟩ = some (.int .i64 mf) := (B2.cell (p := ⟨z, 30, none⟩) lz).trans c30
  have HB2 : Hid (Below w.heap.size w W2) := HB.out.trans (B2.mono HB.out.size)
  have HW2 := Lib.hid hW2
  clear B2 k2 hW2
  go_upto_region 2 with (fail)
  rw [HW2.out]
  clear HW2 c25 c26 c27 c28 c29 c30
  go_loop [14] (fun i => ∃ k : Nat, i = .int .i64 k ∧ k ≤ 3 ∧ Hid (∀ j, j < k → spnB (spAt il se ho j) = true)) (fun i => 3 - (intOf i).toNat)
  case atStart => exact ⟨0, rfl, by omega, fun j hj => absurd hj (by omega)⟩
  case round =>
    obtain ⟨k, rfl, hk, HJ⟩ := hrel
    by_cases hlt : k < 3
    · have ck := SP.out k hlt
      have HJ2 : spnB (spAt il se ho k) = true → Hid (∀ j, j < k + 1 → spnB (spAt il se ho j) = true) := by
        intro h
        show ∀ j, _ → _
        intro j hj
        by_cases hjk : j < k
        · exact HJ.out j hjk
        · obtain rfl : j = k := by omega
          exact h
      have HF : Hid (spnB (spAt il se ho k) = false → okN il se ho mf = false) := by
        show _ → _
        intro h
        cases ho2 : okN il se ho mf with
        | false => rfl
        | true =>
          have := (okN_sp.1 ho2).1 k hlt
          rw [h] at this
          cases this
      unfold spnB at HJ2 HF
      obtain ⟨s, hs⟩ : ∃ s, spAt il se ho k = s := ⟨_, rfl⟩
      rw [hs] at ck HJ2 HF
      have HJ3 := Lib.hid HJ2
      clear hs HJ2
      by_cases a1 : s < 0
      · have hh := HF.out (decide_eq_false (by omega))
        have PO : Hid (NewR w il se ho mf pe dm (.returned (.tuple #[.pointer none, .int .i64 1])) W2) := ⟨HB2.out, fun _ => rfl, fun h => absurd (hh.symm.trans h) (by simp)⟩
        clear hh
        go_wp2
        go_ret2
        exact PO.out
      · by_cases a2 : 2147483648 < s
        · have hh := HF.out (decide_eq_false (by omega))
          have PO : Hid (NewR w il se ho mf pe dm (.returned (.tuple #[.pointer none, .int .i64 1])) W2) := ⟨HB2.out, fun _ => rfl, fun h => absurd (hh.symm.trans h) (by simp)⟩
          clear hh
          go_wp2
          go_ret2
          exact PO.out
        · have HN := HJ3.out (decide_eq_true (by omega))
          clear HJ3 HF HJ
          go_wp2
          go_round
          case rel => exact ⟨k + 1, by go_num, by omega, HN⟩
          case measure => simp [intOf]; omega
    · obtain rfl : k = 3 := by omega
      by_cases m1 : mf < 0
      · have hh : okN il se ho mf = false := by
          cases ho2 : okN il se ho mf with
          | false => rfl
          | true => have := (okN_sp.1 ho2).2; omega
        have PO : Hid (NewR w il se ho mf pe dm (.returned (.tuple #[.pointer none, .int .i64 1])) W2) := ⟨HB2.out, fun _ => rfl, fun h => absurd (hh.symm.trans h) (by simp)⟩
        clear hh
        go_wp2
        go_ret2
        exact PO.out
      · by_cases m2 : 65535 < mf
        · have hh : okN il se ho mf = false := by
            cases ho2 : okN il se ho mf with
            | false => rfl
            | true => have := (okN_sp.1 ho2).2; omega
          have PO : Hid (NewR w il se ho mf pe dm (.returned (.tuple #[.pointer none, .int .i64 1])) W2) := ⟨HB2.out, fun _ => rfl, fun h => absurd (hh.symm.trans h) (by simp)⟩
          clear hh
          go_wp2
          go_ret2
          exact PO.out
        · have hh : okN il se ho mf = true := okN_sp.2 ⟨HJ.out, by omega, by omega⟩
          have PO : Hid (NewR w il se ho mf pe dm (.returned (.tuple #[.pointer (some ⟨W2.heap.size, 0, none⟩), .int .i64 0])) (W2.alloc (.cells (poC (poNew il se ho mf pe dm)).toArray 58))) :=
            ⟨HB2.out.alloc HB2.out.size _, fun h => absurd (hh.symm.trans h) (by simp), fun _ => ⟨_, rfl, HB2.out.size, blk_new _ _ _⟩⟩
          unfold poC poNew at PO
          clear hh
          go_wp2
          go_ret2
          exact PO.out
end Go.Proofs.Ytdjifjlkpimiaaa
