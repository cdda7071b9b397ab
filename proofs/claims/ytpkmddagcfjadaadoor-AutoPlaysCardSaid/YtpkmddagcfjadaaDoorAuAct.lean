/-
  tetherref10.action: a word's number.
-/
import Derived.Test.YtpkmddagcfjadaaDoorAuWords
import Derived.Test.YtpkmddagcfjadaaDoorAuMath
import Derived.Lib.Strings
namespace Go.Proofs.YtpkmddagcfjadaaDoor
open Go.RowKit
set_option maxRecDepth 100000
set_option maxHeartbeats 2000000
set_option linter.unusedSimpArgs false
set_option linter.unusedVariables false

/-- a word's number; 0 of none -/
def act (l : List UInt8) : Int := (((auActs.findIdx? fun x => x == l).getD 0 : Nat) : Int)
theorem act_at {l : List UInt8} {k : Nat} (hk : k < 14) (h : auActs.getD k [] = l) (hno : ∀ j, j < k → auActs.getD j [] ≠ l) : act l = (k : Int) := by
  have e : auActs.findIdx? (fun x => x == l) = some k := by
    rw [List.findIdx?_eq_some_iff_getElem]
    have hl : k < auActs.length := hk
    refine ⟨hl, ?_, fun j hj => ?_⟩
    · rw [List.getD_eq_getElem?_getD, List.getElem?_eq_getElem hl] at h
      simpa using h
    · have := hno j hj
      rw [List.getD_eq_getElem?_getD, List.getElem?_eq_getElem (by omega)] at this
      simpa using this
  unfold act
  rw [e]
  rfl
theorem act_none {l : List UInt8} (hno : ∀ j, j < 14 → auActs.getD j [] ≠ l) : act l = 0 := by
  have e : auActs.findIdx? (fun x => x == l) = none := by
    rw [List.findIdx?_eq_none_iff]
    intro x hx
    obtain ⟨j, hj, rfl⟩ := List.mem_iff_getElem.1 hx
    have := hno j hj
    rw [List.getD_eq_getElem?_getD, List.getElem?_eq_getElem hj] at this
    simpa using this
  unfold act
  rw [e]
  rfl
/-- the words, as cells -/
def actC : List Value := auActs.map fun l => .string ⟨l.toArray⟩
theorem action_any (s : ByteArray) (w : World) : Calls Tryd.prog 41 #[.string s] w fun e w' => e = .returned (.int .i64 (act s.data.toList)) ∧ Below w.heap.size w w' := by
  obtain ⟨r, hr⟩ : ∃ r, act s.data.toList = r := ⟨_, rfl⟩
  have hat := fun (k : Nat) (hk : k < 14) h hno => hr.symm.trans (act_at (l := s.data.toList) (k := k) hk h hno)
  have hno0 := fun hno => hr.symm.trans (act_none (l := s.data.toList) hno)
  rw [hr]
  have HAT := Lib.hid hat
  have HNO := Lib.hid hno0
  clear hr hat hno0
  obtain ⟨W1, hW1⟩ : ∃ W1, W1 = w.alloc (.cells actC.toArray 9) := ⟨_, rfl⟩
  have hb : Blk W1 w.heap.size 9 actC := by rw [hW1]; exact blk_new w _ _
  have HB : Hid (∀ k, k < 14 → W1.cell? ⟨w.heap.size, k, none⟩ = some (.string ⟨(auActs.getD k []).toArray⟩)) := by
    show ∀ k, _ → _
    intro k hk
    rw [hb.cell]
    unfold actC
    rw [List.getElem?_map, List.getElem?_eq_getElem (show k < auActs.length from hk), List.getD_eq_getElem?_getD, List.getElem?_eq_getElem (show k < auActs.length from hk)]
    rfl
  have HL : Hid (Below w.heap.size w W1) := by rw [hW1]; exact (Below.refl _ _).alloc (Nat.le_refl _) _
  have HW : Hid (w.alloc (.cells #[.string ⟨#[]⟩, .string ⟨#[116, 108, 117]⟩, .string ⟨#[116, 108, 100]⟩, .string ⟨#[116, 108, 115]⟩, .string ⟨#[116, 108, 102]⟩, .string ⟨#[105, 114, 99]⟩, .string ⟨#[122, 114, 99]⟩, .string ⟨#[115, 99, 114]⟩, .string ⟨#[115, 99, 97]⟩, .string ⟨#[115, 99, 110]⟩, .string ⟨#[115, 116, 114]⟩, .string ⟨#[115, 116, 97]⟩, .string ⟨#[115, 99, 106]⟩, .string ⟨#[115, 101, 114]⟩] 9) = W1) := hW1.symm
  clear hb hW1
  go_enter Tryd.func41, Tryd.ntmps41
  go_wp2
  rw [HW.out]
  clear HW
  go_loop [7] (fun i => ∃ k : Nat, k ≤ 14 ∧ i = .int .i64 k ∧ Hid (∀ j, j < k → auActs.getD j [] ≠ s.data.toList)) (fun i => 14 - (intOf i).toNat)
  case atStart => exact ⟨0, Nat.zero_le _, rfl, fun j hj => absurd hj (Nat.not_lt_zero _)⟩
  case round =>
    obtain ⟨k, hk, rfl, hno⟩ := hrel
    by_cases hlt : k < 14
    · have hc := HB.out k hlt
      obtain ⟨x, hx⟩ : ∃ x, auActs.getD k [] = x := ⟨_, rfl⟩
      obtain ⟨X, hX⟩ : ∃ X : ByteArray, (⟨x.toArray⟩ : ByteArray) = X := ⟨_, rfl⟩
      rw [hx, hX] at hc
      have HX := Lib.hid hX
      have HE := Lib.hid hx
      clear hX hx
      by_cases he : X = s
      · have E := Lib.hid (HAT.out k hlt (by rw [HE.out, ← he, ← HX.out]) hno.out)
        have te : (X.toList == s.toList) = true := by rw [he]; simp
        clear HAT HNO HX HE he
        go_wp2
        go_ret
        exact ⟨by rw [E.out]; rfl, HL.out⟩
      · have te : (X.toList == s.toList) = false := by
          rw [beq_eq_false_iff_ne]
          intro e
          rw [Lib.toList_data, Lib.toList_data] at e
          exact he (ByteArray.ext (Array.ext' e))
        have NX : Hid (∀ j, j < k + 1 → auActs.getD j [] ≠ s.data.toList) := by
          show ∀ j, _ → _
          intro j hj
          rcases Nat.lt_succ_iff_lt_or_eq.1 hj with h | h
          · exact hno.out j h
          · rw [h, HE.out]
            intro e
            apply he
            rw [← HX.out, e]
        clear HX HE he
        go_wp2
        go_round
        case rel => exact ⟨k + 1, by omega, by go_num, NX.out⟩
        case measure => simp [intOf]; omega
    · have E := Lib.hid (HNO.out fun j hj => hno.out j (by omega))
      clear HAT HNO
      go_wp2
      go_ret
      exact ⟨by rw [E.out]; rfl, HL.out⟩
end Go.Proofs.YtpkmddagcfjadaaDoor
