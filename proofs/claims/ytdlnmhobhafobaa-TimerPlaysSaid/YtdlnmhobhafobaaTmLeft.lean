/-
  Left of both; Copy.
-/
import Derived.Test.YtdlnmhobhafobaaTmRPop
import Derived.WalkLawsBesides
namespace Go.Proofs.Ytdlnmhobhafobaa
open Go.RowKit Go.Shelf
set_option maxRecDepth 100000
set_option maxHeartbeats 4000000
set_option linter.unusedSimpArgs false
set_option linter.unusedVariables false

/-- how far a deadline is -/
def lft (a now : Int) : Int := if a ≤ now then 0 else if now < a - 1099511627776 then 1099511627776 else a - now
theorem left_none (base g : Nat) (xs : List T2) (v : Value) (id now : Int) (w : World) (h : Qs w base g xs v) (hm : xs.length ≤ 64) (hf : fnd id xs = none) :
    Calls Try.prog 64 #[.pointer (some ⟨g, 0, none⟩), .int .i64 id, .int .i64 now] w fun e w' => e = .returned (.tuple #[.int .i64 0, .int .i64 5]) ∧ Below w.heap.size w w' := by
  have FI : Hid (Calls Try.prog 92 #[.pointer (some ⟨g, 0, none⟩), .int .i64 id] w fun e w' =>
      e = .returned (.tuple #[.agg #[.int .i64 0, .int .i64 0], .bool false]) ∧ Below w.heap.size w w') := by
    refine (find_any base g xs _ id w h (by omega)).mono ?_
    rintro e w' ⟨rfl, hB⟩
    rw [hf]
    exact ⟨rfl, hB⟩
  clear h hf
  go_enter Try.func64, Try.ntmps64
  go_wp2_with (go_at_call 92; ((with_reducible refine FI.out.mono ?_); rintro e w1 ⟨rfl, hB1⟩; have HB1 := Lib.hid hB1; clear hB1))
  go_ret2
  exact ⟨rfl, HB1.out.alloc HB1.out.size _⟩
theorem left_some (base g : Nat) (xs : List T2) (v : Value) (id now : Int) (t : T2) (w : World) (h : Qs w base g xs v) (hm : xs.length ≤ 64) (hf : fnd id xs = some t) (h0 : 0 ≤ t.2) (h1 : t.2 ≤ 1099511627776) (hn : In64 now) :
    Calls Try.prog 64 #[.pointer (some ⟨g, 0, none⟩), .int .i64 id, .int .i64 now] w fun e w' => e = .returned (.tuple #[.int .i64 (lft t.2 now), .int .i64 0]) ∧ Below w.heap.size w w' := by
  have FI : Hid (Calls Try.prog 92 #[.pointer (some ⟨g, 0, none⟩), .int .i64 id] w fun e w' =>
      e = .returned (.tuple #[.agg #[.int .i64 t.1, .int .i64 t.2], .bool true]) ∧ Below w.heap.size w w') := by
    refine (find_any base g xs _ id w h (by omega)).mono ?_
    rintro e w' ⟨rfl, hB⟩
    rw [hf]
    exact ⟨rfl, hB⟩
  obtain ⟨hn0, hn1⟩ := hn
  clear h hf
  by_cases ha : t.2 ≤ now
  · have e : lft t.2 now = 0 := if_pos ha
    rw [e]
    have hb : t.2 - 1099511627776 ≤ now := by omega
    clear e
    go_enter Try.func64, Try.ntmps64
    go_wp2_with (go_at_call 92; ((with_reducible refine FI.out.mono ?_); rintro e w1 ⟨rfl, hB1⟩; have HB1 := Lib.hid hB1; clear hB1))
    all_goals
      go_ret2
      first
        | exact ⟨rfl, HB1.out.alloc HB1.out.size _⟩
        | exact ⟨by rw [show t.2 - now = 0 by omega]; rfl, HB1.out.alloc HB1.out.size _⟩
  · by_cases hb : now < t.2 - 1099511627776
    · have e : lft t.2 now = 1099511627776 := by unfold lft; rw [if_neg ha, if_pos hb]
      rw [e]
      clear e
      go_enter Try.func64, Try.ntmps64
      go_wp2_with (go_at_call 92; ((with_reducible refine FI.out.mono ?_); rintro e w1 ⟨rfl, hB1⟩; have HB1 := Lib.hid hB1; clear hB1))
      go_ret2
      exact ⟨by rw [show t.2 - (t.2 - 1099511627776) = 1099511627776 by omega]; rfl, HB1.out.alloc HB1.out.size _⟩
    · have e : lft t.2 now = t.2 - now := by unfold lft; rw [if_neg ha, if_neg hb]
      rw [e]
      have hb2 : t.2 - 1099511627776 ≤ now := by omega
      clear e
      go_enter Try.func64, Try.ntmps64
      go_wp2_with (go_at_call 92; ((with_reducible refine FI.out.mono ?_); rintro e w1 ⟨rfl, hB1⟩; have HB1 := Lib.hid hB1; clear hB1))
      go_ret2
      exact ⟨rfl, HB1.out.alloc HB1.out.size _⟩
theorem rleft_none (base g : Nat) (ys : List T2) (v : Value) (id now : Int) (w : World) (h : Rq w base g ys v) (hm : ys.length ≤ 64) (hf : rf id ys = -1) :
    Calls Try.prog 65 #[.pointer (some ⟨g, 0, none⟩), .int .i64 id, .int .i64 now] w fun e w' => e = .returned (.tuple #[.int .i64 0, .int .i64 5]) ∧ Below w.heap.size w w' := by
  have F : Hid (Calls Try.prog 97 #[.pointer (some ⟨g, 0, none⟩), .int .i64 id] w fun e w' => e = .returned (.int .i64 (-1)) ∧ Below w.heap.size w w') := by
    refine (rtmfind_any base g ys v id w h (by omega)).mono ?_
    rintro e w' ⟨rfl, hB⟩
    exact ⟨by rw [hf], hB⟩
  clear h hf
  go_enter Try.func65, Try.ntmps65
  go_wp2_with (go_at_call 97; ((with_reducible refine F.out.mono ?_); rintro e w1 ⟨rfl, hB⟩; have HB := Lib.hid hB; clear hB))
  go_ret2
  exact ⟨rfl, HB.out⟩
theorem rleft_some (base g : Nat) (ys : List T2) (v : Value) (id now : Int) (x : T2) (k : Nat) (w : World) (h : Rq w base g ys v) (hm : ys.length ≤ 64) (hf : rf id ys = k) (hx : ys[k]? = some x) (h0 : 0 ≤ x.2) (h1 : x.2 ≤ 1099511627776) (hn : In64 now) :
    Calls Try.prog 65 #[.pointer (some ⟨g, 0, none⟩), .int .i64 id, .int .i64 now] w fun e w' => e = .returned (.tuple #[.int .i64 (lft x.2 now), .int .i64 0]) ∧ Below w.heap.size w w' := by
  have hkl : k < ys.length := (List.getElem?_eq_some_iff.1 hx).1
  obtain ⟨n, hn'⟩ : ∃ n, ys.length = n := ⟨_, rfl⟩
  have F : Hid (Calls Try.prog 97 #[.pointer (some ⟨g, 0, none⟩), .int .i64 id] w fun e w' => e = .returned (.int .i64 k) ∧ Below w.heap.size w w' ∧ ∃ gr c, w'.cell? ⟨g, 0, none⟩ = some (.slice (some ⟨gr, 0, none⟩) n c) ∧ w'.cell? ⟨gr, k * 2 + 1, none⟩ = some (.int .i64 x.2)) := by
    refine (rtmfind_any base g ys v id w h (by omega)).mono ?_
    rintro e w' ⟨rfl, hB⟩
    have h2 := h.later hB
    obtain ⟨gr, c, e, _⟩ := ownR_shape h2.own (by omega)
    rw [hn'] at e
    subst e
    exact ⟨by rw [hf], hB, gr, c, h2.blk.cell 0, (h2.own.cell k x hx).2⟩
  have k0 : ¬ ((k : Int) < 0) := by omega
  have k1 : (k : Int) < (n : Int) := by omega
  obtain ⟨hn0, hn1⟩ := hn
  clear h hx hf
  by_cases ha : x.2 ≤ now
  · have e : lft x.2 now = 0 := if_pos ha
    rw [e]
    clear e
    go_enter Try.func65, Try.ntmps65
    go_wp2_with (go_at_call 97; ((with_reducible refine F.out.mono ?_); rintro e w1 ⟨rfl, hB, gr, c, x0, x1⟩; have HB := Lib.hid hB; clear hB))
    go_ret2
    exact ⟨rfl, HB.out⟩
  · by_cases hb : now < x.2 - 1099511627776
    · have e : lft x.2 now = 1099511627776 := by unfold lft; rw [if_neg ha, if_pos hb]
      rw [e]
      clear e
      go_enter Try.func65, Try.ntmps65
      go_wp2_with (go_at_call 97; ((with_reducible refine F.out.mono ?_); rintro e w1 ⟨rfl, hB, gr, c, x0, x1⟩; have HB := Lib.hid hB; clear hB))
      go_ret2
      exact ⟨rfl, HB.out⟩
    · have e : lft x.2 now = x.2 - now := by unfold lft; rw [if_neg ha, if_neg hb]
      rw [e]
      clear e
      go_enter Try.func65, Try.ntmps65
      go_wp2_with (go_at_call 97; ((with_reducible refine F.out.mono ?_); rintro e w1 ⟨rfl, hB, gr, c, x0, x1⟩; have HB := Lib.hid hB; clear hB))
      go_ret2
      exact ⟨rfl, HB.out⟩
theorem tcopy_any (base g : Nat) (xs : List T2) (v : Value) (w : World) (h : Qs w base g xs v) (hm : xs.length ≤ 64) :
    Calls Try.prog 11 #[.pointer (some ⟨g, 0, none⟩)] w fun e w' => ∃ g' v', e = .returned (.pointer (some ⟨g', 0, none⟩)) ∧ Qs w' w.heap.size g' xs v' ∧ w.heap.size ≤ g' ∧ Below w.heap.size w w' := by
  have hc := h.blk.cell 0
  have CL : Hid (Calls Try.prog 52 #[v] w fun e w1 => ∃ A n c W, e = .returned (.slice A n c) ∧ w1.alloc (.cells #[.slice A n c] 92) = W ∧ Qs W w.heap.size w1.heap.size xs (.slice A n c) ∧ w.heap.size ≤ w1.heap.size ∧ Below w.heap.size w W) := by
    refine (tclone_any w base v xs h.own (by omega)).mono ?_
    rintro e w1 ⟨v', rfl, ho, hB⟩
    obtain ⟨A, c, rfl, _⟩ := ho.slice
    have hA : Below w1.heap.size w1 (w1.alloc (.cells #[.slice A xs.length c] 92)) := (Below.refl _ _).alloc (Nat.le_refl _) _
    exact ⟨A, _, c, _, rfl, rfl, ⟨blk_new w1 _ _, ho.later hA, fun e => by have := (ho.block _ e).2; omega⟩, hB.size, hB.trans (hA.mono hB.size)⟩
  obtain ⟨A, c, rfl, _⟩ := h.own.slice
  have hc0 : w.cell? ⟨g, 0, none⟩ = some (.slice A xs.length c) := hc
  obtain ⟨n, hn⟩ : ∃ n, xs.length = n := ⟨_, rfl⟩
  rw [hn] at hc0 CL
  clear h hc hn
  go_enter Try.func11, Try.ntmps11
  go_wp2_with (go_at_call 52; ((with_reducible refine CL.out.mono ?_); rintro e w1 ⟨A', n', c', W, rfl, hW, h1⟩; have HW := Lib.hid hW; have H1 := Lib.hid h1; clear hW h1))
  rw [HW.out]
  go_ret
  exact ⟨_, _, rfl, H1.out⟩
end Go.Proofs.Ytdlnmhobhafobaa
