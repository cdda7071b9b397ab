/-
  ipv6cp.Want and Done, and the reference's.
-/
import Derived.Test.YtciijnhagdfpiaaI6Giv
import Derived.Test.YtciijnhagdfpiaaI6Conf
namespace Go.Proofs.Ytciijnhagdfpiaa
open Go.RowKit
set_option maxRecDepth 100000
set_option maxHeartbeats 4000000
set_option linter.unusedSimpArgs false
set_option linter.unusedVariables false

def wnt (id draw : Int) : Int := if id = 0 then giv draw 0 else id
def dnE (a b : Int) : Int := if a = 0 ∨ b = 0 then 150 else if a = b then 6 else 0
theorem done_any (a b : Int) (w : World) : Calls Try.prog 26 #[.int .u64 a, .int .u64 b] w fun e w' => e = .returned (.int .i64 (dnE a b)) ∧ w' = w := by
  obtain ⟨R, hR⟩ : ∃ R, dnE a b = R := ⟨_, rfl⟩
  rw [hR]
  unfold dnE at hR
  by_cases h0 : a = 0
  · rw [if_pos (.inl h0)] at hR
    subst hR
    have e0 : (a == 0) = true := by simpa using h0
    clear h0
    go_enter Try.func26, Try.ntmps26
    go_wp2
    go_ret
    exact ⟨rfl, rfl⟩
  · have e0 : (a == 0) = false := by simpa using h0
    by_cases h1 : b = 0
    · rw [if_pos (.inr h1)] at hR
      subst hR
      have e1 : (b == 0) = true := by simpa using h1
      clear h0 h1
      go_enter Try.func26, Try.ntmps26
      go_wp2
      go_ret
      exact ⟨rfl, rfl⟩
    · have e1 : (b == 0) = false := by simpa using h1
      rw [if_neg (by simp [h0, h1])] at hR
      by_cases h2 : a = b
      · rw [if_pos h2] at hR
        subst hR
        have e2 : (a == b) = true := by simpa using h2
        clear h0 h1 h2
        go_enter Try.func26, Try.ntmps26
        go_wp2
        go_ret
        exact ⟨rfl, rfl⟩
      · rw [if_neg h2] at hR
        subst hR
        have e2 : (a == b) = false := by simpa using h2
        clear h0 h1 h2
        go_enter Try.func26, Try.ntmps26
        go_wp2
        go_ret
        exact ⟨rfl, rfl⟩
theorem want6_any (cv : Array Value) (id mf draw : Int) (w : World) (hc : ConfI cv id mf) (hd : In64 draw) :
    Calls Try.prog 14 #[.agg cv, .int .u64 draw] w fun e w' => e = .returned (.int .u64 (wnt id draw)) ∧ Below w.heap.size w w' := by
  obtain ⟨W1, hW1⟩ : ∃ W1, w.alloc (.cells cv 26) = W1 := ⟨_, rfl⟩
  have k1 : Blk W1 w.heap.size 26 cv.toList := by rw [← hW1]; exact blk_new w _ _
  have B1 : Below w.heap.size w W1 := by rw [← hW1]; exact (Below.refl _ _).alloc (Nat.le_refl _) _
  have c15 : W1.cell? ⟨w.heap.size, 15, none⟩ = some (.int .u64 id) := by rw [k1.cell 15, Array.getElem?_toList]; exact hc.2.1
  have HW := Lib.hid hW1
  have HB := Lib.hid B1
  clear k1 B1 hW1
  by_cases h0 : id = 0
  · subst h0
    have HG := Lib.hid (given_any draw 0 W1 hd)
    have HV : Hid (wnt 0 draw = giv draw 0) := if_pos rfl
    go_enter Try.func14, Try.ntmps14
    go_upto_region 1 with (fail)
    rw [HW.out]
    clear HW
    go_wp2_with (go_at_call 24; (with_reducible refine HG.out.mono ?_); rintro e w2 ⟨rfl, rfl⟩)
    go_ret
    exact ⟨by rw [HV.out]; rfl, HB.out⟩
  · have e0 : (id == 0) = false := by simpa using h0
    have HV : Hid (wnt id draw = id) := if_neg h0
    clear h0
    go_enter Try.func14, Try.ntmps14
    go_upto_region 1 with (fail)
    rw [HW.out]
    clear HW
    go_wp2
    go_ret
    exact ⟨by rw [HV.out]; rfl, HB.out⟩
end Go.Proofs.Ytciijnhagdfpiaa
