/-
  tetherref06.Fault.
-/
import Derived.Test.YtglboagjmbjehaaSeRRight
import Derived.Test.YtglboagjmbjehaaSeFirsts
namespace Go.Proofs.Ytglboagjmbjehaa
open Go.RowKit Go.Shelf
set_option maxRecDepth 100000
set_option maxHeartbeats 4000000
set_option linter.unusedSimpArgs false
set_option linter.unusedVariables false

theorem rfault_any (A : Option Addr) (n c B : Nat) (ss : List Sec) (w : World) (h : SecRd w B A n ss) (hB : B ≤ w.heap.size) :
    Calls Try.prog 33 #[.slice A n c] w fun e w' => e = .returned (.tuple #[.int .i64 (chk ss).1, .int .i64 (chk ss).2]) ∧ Below w.heap.size w w' := by
  have HS := Lib.hid h
  have hn := h.2.1
  have hl := h.1
  by_cases h64 : 64 < n
  · have e : Hid (chk ss = (7, 0)) := if_pos (by omega)
    rw [e.out]
    have h64i : (64 : Int) < (n : Int) := by omega
    clear h hl
    go_enter Try.func33, Try.ntmps33
    go_wp2
    go_ret2
    exact ⟨rfl, Below.refl _ _⟩
  have e : Hid (chk ss = chkFrom 0 ss) := if_neg (by omega)
  rw [e.out]
  have h64i : ¬ (64 : Int) < (n : Int) := by omega
  have HL := Lib.hid hl
  clear h hl
  go_enter Try.func33, Try.ntmps33
  go_wp2
  go_loopw [12] (fun i wr => ∃ j : Nat, j ≤ n ∧ i = .int .i64 j ∧ Below w.heap.size w wr ∧ ∀ x ∈ ss.take j, rightE x = 0) (fun i _ => n - (intOf i).toNat)
  case atStart => exact ⟨0, Nat.zero_le _, rfl, Below.refl _ _, fun x hx => by simp at hx⟩
  case round =>
    rename_i wr
    obtain ⟨j, hj, rfl, hBw, hall⟩ := hrel
    have HA := Lib.hid hall
    have HB := Lib.hid hBw
    clear hall hBw
    by_cases hlt : j < n
    · have hs := HS.out.below HB.out hB
      obtain ⟨x, b, off, E, m, k, hx, rfl, hb, ho, ha, c0, c1, c2, c3⟩ := hs.at_ j hlt
      have hbw : b < wr.heap.size := by have := HB.out.size; omega
      have hsz := HB.out.size
      obtain ⟨V, hV⟩ : ∃ V, wr.alloc (.cells #[.string x.cl, .string x.sv, .string x.wd, .slice E m k] 26) = V := ⟨_, rfl⟩
      have hBV : Below wr.heap.size wr V := by rw [← hV]; exact (Below.refl _ _).alloc (Nat.le_refl _) _
      have hnew : Blk V wr.heap.size 26 [.string x.cl, .string x.sv, .string x.wd, .slice E m k] := by rw [← hV]; exact heap_alloc_new wr _
      have v0 := hnew.cell 0
      have v1 := hnew.cell 1
      have v2 := hnew.cell 2
      have v3 := hnew.cell 3
      have haV := ha.below hBV (by omega)
      have hzV := hBV.size
      have C := Lib.hid (rright_any x E m k B V ho haV (by omega))
      have BV : Hid (Below w.heap.size w V) := HB.out.trans (hBV.mono hsz)
      have HX := Lib.hid hx
      have HV := Lib.hid hV
      obtain ⟨rx, hrx⟩ : ∃ rx, rightE x = rx := ⟨_, rfl⟩
      rw [hrx] at C
      have HRX := Lib.hid hrx
      clear hV hBV hnew hs ha haV ho hx hrx
      have fin : Hid (∀ W, Below V.heap.size V W → Below w.heap.size w W) := fun W hW => BV.out.trans (hW.mono BV.out.size)
      by_cases h0 : rx = 0
      · subst h0
        have NX : Hid (∀ y ∈ ss.take (j + 1), rightE y = 0) := by
          intro y hy
          rw [take_one HX.out] at hy
          rcases List.mem_append.1 hy with h | h
          · exact HA.out y h
          · rw [List.mem_singleton.1 h]; exact HRX.out
        go_wp2_with (first
          | (rw [HV.out])
          | (go_at_call 47; ((with_reducible refine C.out.mono ?_); rintro e w2 ⟨rfl, hB2⟩; have B2 := Lib.hid hB2; clear hB2)))
        go_roundw
        case rel => exact ⟨j + 1, by omega, by go_num, fin.out _ B2.out, NX.out⟩
        case measure => simp [intOf]; omega
      · have RES : Hid (chkFrom 0 ss = (rx, (j : Int))) := by
          have := chk_bad HA.out HX.out (by rw [HRX.out]; exact h0)
          rw [HRX.out] at this
          exact this
        go_wp2_with (first
          | (rw [HV.out])
          | (go_at_call 47; ((with_reducible refine C.out.mono ?_); rintro e w2 ⟨rfl, hB2⟩; have B2 := Lib.hid hB2; clear hB2)))
        go_ret2
        exact ⟨by rw [RES.out]; rfl, fin.out _ B2.out⟩
    · obtain rfl : j = n := by omega
      have RES : Hid (chkFrom 0 ss = (0, 0)) := chk_good (by have h1 := HA.out; rw [List.take_of_length_le (by have := HL.out; omega)] at h1; exact h1)
      go_wp2
      go_ret2
      exact ⟨by rw [RES.out]; rfl, HB.out⟩
end Go.Proofs.Ytglboagjmbjehaa
