/-
  tetherref12.Same, and what there is not.
-/
import Derived.Test.YtglboagjmbjehaaPaAwake
namespace Go.Proofs.Ytglboagjmbjehaa
open Go.RowKit Go.Shelf
set_option maxRecDepth 100000
set_option maxHeartbeats 4000000
set_option linter.unusedSimpArgs false
set_option linter.unusedVariables false

theorem stOf_inj {l m : List UInt8} (h : stOf l = stOf m) : l = m := by
  have h := congrArg (fun s : ByteArray => s.data.toList) h
  simpa [stOf] using h
theorem stOf_eq (l m : List UInt8) : ((stOf l).toList == (stOf m).toList) = decide (l = m) := by
  rw [word_eq]
  by_cases h : l = m
  · rw [h]; simp
  · rw [decide_eq_false h, decide_eq_false (fun e => h (stOf_inj e))]
/-- are two packets alike? -/
def sameP (c i : Int) (l : List UInt8) (c' i' : Int) (l' : List UInt8) : Bool := decide (c = c') && (decide (i = i') && decide (l = l'))
theorem sameP_iff {c i c' i' : Int} {l l' : List UInt8} : sameP c i l c' i' l' = true ↔ c = c' ∧ i = i' ∧ l = l' := by simp [sameP]
theorem same_any (c i c' i' : Int) (A A' : Option Addr) (n d n' d' B : Nat) (l l' : List UInt8) (w : World) (h : Rd w B A n l) (h' : Rd w B A' n' l') (hB : B ≤ w.heap.size) :
    Calls Try.prog 15 #[.agg #[.int .i64 c, .int .i64 i, .slice A n d], .agg #[.int .i64 c', .int .i64 i', .slice A' n' d']] w fun e w' => e = .returned (.bool (sameP c i l c' i' l')) ∧ Below w.heap.size w w' := by
  obtain ⟨V, hV⟩ : ∃ V, (w.alloc (.cells #[.int .i64 c, .int .i64 i, .slice A n d] 38)).alloc (.cells #[.int .i64 c', .int .i64 i', .slice A' n' d'] 38) = V := ⟨_, rfl⟩
  have bV : Below w.heap.size w V := by rw [← hV]; exact ((Below.refl _ _).alloc (Nat.le_refl _) _).alloc (by simp) _
  have h0 : Blk V w.heap.size 38 [.int .i64 c, .int .i64 i, .slice A n d] := by
    rw [← hV]
    exact (Below.heap_alloc _ _ _ (by simp)).trans (heap_alloc_new w _)
  have h1 : Blk V (w.heap.size + 1) 38 [.int .i64 c', .int .i64 i', .slice A' n' d'] := by
    rw [← hV]
    have h := heap_alloc_new (w.alloc (.cells #[.int .i64 c, .int .i64 i, .slice A n d] 38)) (.cells #[.int .i64 c', .int .i64 i', .slice A' n' d'] 38)
    rw [World.size_alloc] at h
    exact h
  have x0 := h0.cell 0
  have x1 := h0.cell 1
  have x2 := h0.cell 2
  have y0 := h1.cell 0
  have y1 := h1.cell 1
  have y2 := h1.cell 2
  have c1 := conv_str (h.below (bV.mono hB)) d
  have c2 := conv_str (h'.below (bV.mono hB)) d'
  have q := stOf_eq l l'
  have HV := Lib.hid hV
  have FN := Lib.hid bV
  clear h h' hV bV h0 h1
  obtain ⟨r, hr⟩ : ∃ r, sameP c i l c' i' l' = r := ⟨_, rfl⟩
  rw [hr]
  unfold sameP at hr
  by_cases hc : c = c'
  · by_cases hi : i = i'
    · have e1 : (c == c') = true := by simpa using hc
      have e2 : (i == i') = true := by simpa using hi
      have HR : Hid (decide (l = l') = r) := by rw [← hr]; show _ = _; simp [hc, hi]
      clear hr hc hi
      go_enter Try.func15, Try.ntmps15
      go_wp2_with (first
        | (rw [HV.out])
        | (rw [c1])
        | (rw [c2]))
      rw [HR.out]
      go_ret
      exact ⟨rfl, FN.out⟩
    · have e1 : (c == c') = true := by simpa using hc
      have e2 : (i == i') = false := by simpa using hi
      have HR : Hid (r = false) := by rw [← hr]; show _ = _; simp [hc, hi]
      clear hr hc hi
      go_enter Try.func15, Try.ntmps15
      go_wp2_with (first
        | (rw [HV.out]))
      go_ret
      exact ⟨by rw [HR.out]; rfl, FN.out⟩
  · have e1 : (c == c') = false := by simpa using hc
    have HR : Hid (r = false) := by rw [← hr]; show _ = _; simp [hc]
    clear hr hc
    go_enter Try.func15, Try.ntmps15
    go_wp2_with (first
      | (rw [HV.out]))
    go_ret
    exact ⟨by rw [HR.out]; rfl, FN.out⟩
theorem snil_take (c i : Int) (A : Option Addr) (n d : Nat) (w : World) : Calls Try.prog 13 #[.pointer none, .agg #[.int .i64 c, .int .i64 i, .slice A n d]] w fun e w' => e = .returned (.tuple #[.agg #[.int .i64 0, .int .i64 0, .slice none 0 0], .bool false, .int .i64 2]) ∧ Below w.heap.size w w' := by
  have FN : Hid (Below w.heap.size w ((w.alloc (.cells #[.int .i64 c, .int .i64 i, .slice A n d] 38)).alloc (.cells #[.int .i64 0, .int .i64 0, .slice none 0 0] 38))) := ((Below.refl _ _).alloc (Nat.le_refl _) _).alloc (by simp) _
  go_enter Try.func13, Try.ntmps13
  go_wp2
  exact bodyPost_ret (v := .tuple #[.agg #[.int .i64 0, .int .i64 0, .slice none 0 0], .bool false, .int .i64 2]) (by simp [results, Try.results13, go_sem]) rfl ⟨rfl, FN.out⟩
theorem pnil_send (w : World) : Calls Try.prog 21 #[.pointer none] w fun e w' => e = .returned (.tuple #[.agg #[.int .i64 0, .int .i64 0, .slice none 0 0], .bool false, .int .i64 2]) ∧ Below w.heap.size w w' := by
  have FN : Hid (Below w.heap.size w (w.alloc (.cells #[.int .i64 0, .int .i64 0, .slice none 0 0] 38))) := (Below.refl _ _).alloc (Nat.le_refl _) _
  go_enter Try.func21, Try.ntmps21
  go_wp2
  exact bodyPost_ret (v := .tuple #[.agg #[.int .i64 0, .int .i64 0, .slice none 0 0], .bool false, .int .i64 2]) (by simp [results, Try.results21, go_sem]) rfl ⟨rfl, FN.out⟩
theorem pnil_take (c i : Int) (A : Option Addr) (n d : Nat) (w : World) : Calls Try.prog 23 #[.pointer none, .agg #[.int .i64 c, .int .i64 i, .slice A n d]] w fun e w' => e = .returned (.tuple #[.bool false, .int .i64 2]) ∧ Below w.heap.size w w' := by
  have FN : Hid (Below w.heap.size w (w.alloc (.cells #[.int .i64 c, .int .i64 i, .slice A n d] 38))) := (Below.refl _ _).alloc (Nat.le_refl _) _
  go_enter Try.func23, Try.ntmps23
  go_wp2
  exact bodyPost_ret (v := .tuple #[.bool false, .int .i64 2]) (by simp [results, Try.results23, go_sem]) rfl ⟨rfl, FN.out⟩
theorem snil_reset (w : World) : Calls Try.prog 10 #[.pointer none] w fun e w' => e = .returned (.tuple #[]) ∧ w = w' := by
  go_enter Try.func10, Try.ntmps10
  go_wp2
  go_end0
  exact ⟨rfl, rfl⟩
theorem pnil_reset (w : World) : Calls Try.prog 25 #[.pointer none] w fun e w' => e = .returned (.tuple #[]) ∧ w = w' := by
  go_enter Try.func25, Try.ntmps25
  go_wp2
  go_end0
  exact ⟨rfl, rfl⟩
theorem snil_state (w : World) : Calls Try.prog 17 #[.pointer none] w fun e w' => e = .returned (.int .i64 0) ∧ w = w' := by
  go_enter Try.func17, Try.ntmps17
  go_wp2
  go_ret
  exact ⟨rfl, rfl⟩
theorem snil_who (w : World) : Calls Try.prog 18 #[.pointer none] w fun e w' => e = .returned (.string ⟨#[]⟩) ∧ w = w' := by
  go_enter Try.func18, Try.ntmps18
  go_wp2
  go_ret
  exact ⟨rfl, rfl⟩
theorem pnil_state (w : World) : Calls Try.prog 27 #[.pointer none] w fun e w' => e = .returned (.int .i64 0) ∧ w = w' := by
  go_enter Try.func27, Try.ntmps27
  go_wp2
  go_ret
  exact ⟨rfl, rfl⟩
theorem pnil_message (w : World) : Calls Try.prog 28 #[.pointer none] w fun e w' => e = .returned (.string ⟨#[]⟩) ∧ w = w' := by
  go_enter Try.func28, Try.ntmps28
  go_wp2
  go_ret
  exact ⟨rfl, rfl⟩
end Go.Proofs.Ytglboagjmbjehaa
