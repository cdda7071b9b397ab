/-
  pap: mustBe, caught, ReadRequest.
-/
import Derived.Test.YtglboagjmbjehaaPaParts
import Derived.Test.YtglboagjmbjehaaSeAddr
import Derived.Defers
import Derived.Recover
import Derived.Tactics2
namespace Go.Proofs.Ytglboagjmbjehaa
open Go.RowKit Go.Shelf
set_option maxRecDepth 100000
set_option maxHeartbeats 4000000
set_option linter.unusedSimpArgs false
set_option linter.unusedVariables false

theorem idxI_any (A : Option Addr) (m k B : Nat) (l : List Int) (z : Int) (w : World) (h : AdRd w B A m k l) (hB : B ≤ w.heap.size) :
    Calls Try.prog 73 #[.slice A m k, .int .i64 z] w fun e w' => PlaceOf (hasI l z) e ∧ w = w' := by
  obtain ⟨h1, h2, h3, h4, h5⟩ := h
  have H5 := Lib.hid h5
  have H1 := Lib.hid h1
  clear h5 h1
  go_enter Try.func73, Try.ntmps73
  go_wp2
  go_loop [8] (fun i => ∃ j : Nat, j ≤ m ∧ i = .int .i64 j ∧ ∀ y ∈ l.take j, y ≠ z) (fun i => m - (intOf i).toNat)
  case atStart => exact ⟨0, Nat.zero_le _, rfl, fun y hy => by simp at hy⟩
  case round =>
    obtain ⟨j, hj, rfl, hno⟩ := hrel
    by_cases hlt : j < m
    · obtain ⟨b, off, rfl, hl, hc⟩ := H5.out (by omega)
      obtain ⟨y, hy⟩ : ∃ y, l[j]? = some y := ⟨l[j]'(by have := H1.out; omega), List.getElem?_eq_getElem _⟩
      have c0 := hc j y hy
      have HN := Lib.hid hno
      have HY := Lib.hid hy
      clear hc hno hy
      by_cases he : z = y
      · have e1 : (z == y) = true := by simpa using he
        have HC : Hid (hasI l z = true) := contains_true (he ▸ HY.out)
        clear he
        go_wp2
        go_ret
        exact ⟨⟨_, rfl, by rw [HC.out]; simp⟩, rfl⟩
      · have e1 : (z == y) = false := by simpa using he
        have HNX : Hid (∀ x ∈ l.take (j + 1), x ≠ z) := by
          intro x hx
          rw [take_one HY.out] at hx
          rcases List.mem_append.1 hx with h | h
          · exact HN.out x h
          · rw [List.mem_singleton.1 h]; exact fun e => he e.symm
        clear he
        go_wp2
        go_round
        case rel => exact ⟨j + 1, by omega, by go_num, HNX.out⟩
        case measure => simp [intOf]; omega
    · obtain rfl : j = m := by omega
      rw [List.take_of_length_le (by have := H1.out; omega)] at hno
      have HC := Lib.hid (contains_false hno)
      clear hno
      go_wp2
      go_ret
      exact ⟨⟨_, rfl, by rw [HC.out]; simp⟩, rfl⟩
theorem hasI_any (A : Option Addr) (m k B : Nat) (l : List Int) (z : Int) (w : World) (h : AdRd w B A m k l) (hB : B ≤ w.heap.size) :
    Calls Try.prog 66 #[.slice A m k, .int .i64 z] w fun e w' => e = .returned (.bool (hasI l z)) ∧ w = w' := by
  have C := Lib.hid (idxI_any A m k B l z w h hB)
  clear h
  go_enter Try.func66, Try.ntmps66
  go_wp2_with (go_at_call 73; ((with_reducible refine C.out.mono ?_); rintro e w' ⟨⟨r, rfl, hr⟩, rfl⟩; have HR := Lib.hid hr; clear hr))
  go_ret
  exact ⟨by rw [← HR.out]; rfl, rfl⟩
def mustE (id code : Int) (codes : List Int) : Int := if idB id = false then 1 else if hasI codes code = false then 90 else 0
/-- ends, or throws -/
def EndsR (w : World) (err : Int) (e : Ending) (w' : World) : Prop := Below w.heap.size w w' ∧ ((err = 0 ∧ e = .returned (.tuple #[])) ∨ (err ≠ 0 ∧ e = .panicked (thr err)))
theorem mustBe_any (code id : Int) (D : Option Addr) (k d : Nat) (A : Option Addr) (n c B : Nat) (codes : List Int) (w : World) (h : AdRd w B A n c codes) (hB : B ≤ w.heap.size) :
    Calls Try.prog 52 #[.agg #[.int .i64 code, .int .i64 id, .slice D k d], .slice A n c] w (EndsR w (mustE id code codes)) := by
  obtain ⟨V, hV⟩ : ∃ V, w.alloc (.cells #[.int .i64 code, .int .i64 id, .slice D k d] 38) = V := ⟨_, rfl⟩
  have hBV : Below w.heap.size w V := by rw [← hV]; exact (Below.refl _ _).alloc (Nat.le_refl _) _
  have hnew : Blk V w.heap.size 38 [.int .i64 code, .int .i64 id, .slice D k d] := by rw [← hV]; exact heap_alloc_new w _
  have v0 := hnew.cell 0
  have v1 := hnew.cell 1
  have ID := Lib.hid (idRight_any id V)
  have HC := Lib.hid (hasI_any A n c B codes code V (h.below hBV hB) (Nat.le_trans hB hBV.size))
  have BV := Lib.hid hBV
  have HV := Lib.hid hV
  clear h hBV hnew hV
  cases h1 : idB id
  · have e : Hid (EndsR w (mustE id code codes) (.panicked (thr 1)) V) := ⟨BV.out, .inr ⟨by unfold mustE; rw [if_pos h1]; decide, by unfold mustE; rw [if_pos h1]⟩⟩
    go_enter Try.func52, Try.ntmps52
    go_wp2_with (first
      | (rw [HV.out])
      | (go_at_call 48; ((with_reducible refine ID.out.mono ?_); rintro e w' ⟨rfl, rfl⟩)))
    exact ⟨rfl, e.out⟩
  cases h2 : hasI codes code
  · have e : Hid (EndsR w (mustE id code codes) (.panicked (thr 90)) V) := ⟨BV.out, .inr ⟨by unfold mustE; rw [if_neg (by simp [h1]), if_pos h2]; decide, by unfold mustE; rw [if_neg (by simp [h1]), if_pos h2]⟩⟩
    go_enter Try.func52, Try.ntmps52
    go_wp2_with (first
      | (rw [HV.out])
      | (go_at_call 48; ((with_reducible refine ID.out.mono ?_); rintro e w' ⟨rfl, rfl⟩))
      | (go_at_call 66; ((with_reducible refine HC.out.mono ?_); rintro e w' ⟨rfl, rfl⟩)))
    exact ⟨rfl, e.out⟩
  · have e : Hid (EndsR w (mustE id code codes) (.returned (.tuple #[])) V) := ⟨BV.out, .inl ⟨by unfold mustE; rw [if_neg (by simp [h1]), if_neg (by simp [h2])], rfl⟩⟩
    go_enter Try.func52, Try.ntmps52
    go_wp2_with (first
      | (rw [HV.out])
      | (go_at_call 48; ((with_reducible refine ID.out.mono ?_); rintro e w' ⟨rfl, rfl⟩))
      | (go_at_call 66; ((with_reducible refine HC.out.mono ?_); rintro e w' ⟨rfl, rfl⟩)))
    go_end0
    exact e.out
theorem ta_yes (v : Int) (W : World) : (Instr.typeAssert (.iface 28 (.int .i64 v)) 20 28 true).run Try.prog W = .ok (.tuple #[.int .i64 v, .bool true]) W := by
  simp [Instr.typeAssert, run_underlying Try.underlying28, go_sem, Result.andThen]
theorem ta_no (W : World) : (Instr.typeAssert .nilIface 20 28 true).run Try.prog W = .ok (.tuple #[.int .i64 0, .bool false]) W := by kernel_rfl
theorem caught_panicking (p : Addr) (x v : Int) (older : List PanicEntry) (w : World) (hc : w.cell? p = some (.int .i64 x)) (hz : w.frozen? p = false) :
    CallsD Try.prog 65 #[.pointer (some p)] (.panicking ({ v := .iface 28 (.int .i64 v), recovered := false } :: older)) w fun e u' w' =>
      e = .returned (.tuple #[]) ∧ u' = .panicking ({ v := .iface 28 (.int .i64 v), recovered := true } :: older) ∧ w' = w.setCell p (.int .i64 v) := by
  have hta := fun W => ta_yes v W
  refine callsD_of_wpS Try.func65 rfl fun c₀ cs hu => ?_
  apply wpS_seq
  apply wpS_region
  simp [wpOpsS, go_sem, recoverD, hu, Try.ntmps65, Exit.thenS, hta]
  apply wpS_seq
  apply wpS_region
  simp [wpOpsS, go_sem, Exit.thenS]
  refine wpS_cond (t := true) (by simp [Act.eval, Array.replicate]) ?_
  simp only [if_true]
  apply wpS_region
  simp [wpOpsS, go_sem, hc, hz, bodyPostS, results, Try.results65]
theorem caught_idle (p : Addr) (w : World) :
    CallsD Try.prog 65 #[.pointer (some p)] .returning w fun e u' w' => e = .returned (.tuple #[]) ∧ u' = .returning ∧ w' = w := by
  have hta := fun W => ta_no W
  refine callsD_of_wpS Try.func65 rfl fun c₀ cs hu => ?_
  apply wpS_seq
  apply wpS_region
  simp [wpOpsS, go_sem, recoverD, hu, Try.ntmps65, Exit.thenS, hta]
  apply wpS_seq
  apply wpS_region
  simp [wpOpsS, go_sem, Exit.thenS]
  refine wpS_cond (t := false) (by simp [Act.eval, Array.replicate]) ?_
  simp only [Bool.false_eq_true, if_false]
  refine wpS_of_wp (wp_skip ?_)
  cases c₀
  simp_all [bodyPostS, results, Try.results65]
theorem caught_any (f : Nat) (caps : Array Value) (w : World) (R : Int → World → Prop) (hcf : ∀ W, (callFunc f caps).run Try.prog W = .ok (.enter f caps) W)
    (h : Calls Try.prog f caps (w.alloc (.cells #[.int .i64 0] 28)) fun e w1 => Blk w1 w.heap.size 28 [.int .i64 0] ∧ ((e = .returned (.tuple #[]) ∧ R 0 w1) ∨ ∃ k, e = .panicked (thr k) ∧ R k w1)) :
    Calls Try.prog 50 #[.func (.func f) #[] caps] w fun e w' => ∃ k w1, e = .returned (.int .i64 k) ∧ R k w1 ∧ w' = w1.setCell ⟨w.heap.size, 0, none⟩ (.int .i64 k) := by
  have hmf : ∀ (fn : Fn) (first cap : Array Value) (w : World), (Instr.makeFunc fn first cap).run Try.prog w = .ok (.func fn first cap) w := fun _ _ _ _ => rfl
  go_enter_defers Try.func50, Try.ntmps50
  go_wp2_with fail
  refine h.mono ?_
  rintro e w1 ⟨hb, ⟨rfl, hr⟩ | ⟨k, rfl, hr⟩⟩
  · have c0 : w1.cell? ⟨w.heap.size, 0, none⟩ = some (.int .i64 0) := hb.cell 0
    have f0 := hb.frozen 0
    have HR := Lib.hid hr
    clear hr hb h
    go_wp2
    refine leaves_cons (f := 65) (args := #[.pointer (some ⟨w.heap.size, 0, none⟩)]) (by simp) (by simp [go_sem]) ?_
    refine (caught_idle ⟨w.heap.size, 0, none⟩ _).mono ?_
    rintro e u' w'' ⟨rfl, rfl, rfl⟩
    simp [Leaves, settle, results, Try.results50, go_sem, c0, f0]
    exact ⟨_, HR.out, rfl⟩
  · have c0 : w1.cell? ⟨w.heap.size, 0, none⟩ = some (.int .i64 0) := hb.cell 0
    have f0 := hb.frozen 0
    have HR := Lib.hid hr
    clear hr hb h
    unfold thr
    go_wp2
    refine leaves_cons (f := 65) (args := #[.pointer (some ⟨w.heap.size, 0, none⟩)]) (by simp) (by simp [go_sem]) ?_
    refine (caught_panicking ⟨w.heap.size, 0, none⟩ 0 k [] _ c0 f0).mono ?_
    rintro e u' w'' ⟨rfl, rfl, rfl⟩
    simp [Leaves, settle, results, Try.results50, go_sem, c0, f0]
    exact ⟨_, HR.out, rfl⟩
end Go.Proofs.Ytglboagjmbjehaa
