/-
  The methods Len, Next, Clear, Copy, Cancel, Pop.
-/
import Derived.Test.YtdlnmhobhafobaaTmSetB
namespace Go.Proofs.Ytdlnmhobhafobaa
open Go.RowKit Go.Shelf
set_option maxRecDepth 100000
set_option maxHeartbeats 2000000
set_option linter.unusedSimpArgs false
set_option linter.unusedVariables false

theorem tlen_any (base g : Nat) (xs : List T2) (v : Value) (w : World) (h : Qs w base g xs v) : Calls Try.prog 19 #[.pointer (some ⟨g, 0, none⟩)] w fun e w' => e = .returned (.int .i64 xs.length) ∧ w = w' := by
  have hc := h.blk.cell 0
  obtain ⟨A, c, rfl, _⟩ := h.own.slice
  obtain ⟨n, hn⟩ : ∃ n, n = xs.length := ⟨_, rfl⟩
  rw [← hn] at hc ⊢
  have hc0 : w.cell? ⟨g, 0, none⟩ = some (.slice A n c) := hc
  clear h hn hc
  go_enter Try.func19, Try.ntmps19
  go_wp2
  go_ret
  exact ⟨rfl, rfl⟩
theorem tnext_none (base g : Nat) (v : Value) (w : World) (h : Qs w base g [] v) : Calls Try.prog 67 #[.pointer (some ⟨g, 0, none⟩)] w fun e w' => e = .returned (.tuple #[.int .i64 0, .int .i64 5]) ∧ w = w' := by
  have hc := h.blk.cell 0
  obtain ⟨A, c, rfl, _⟩ := h.own.slice
  have hc0 : w.cell? ⟨g, 0, none⟩ = some (.slice A 0 c) := hc
  clear h hc
  go_enter Try.func67, Try.ntmps67
  go_wp2
  go_ret2
  exact ⟨rfl, rfl⟩
theorem tnext_some (base g : Nat) (x : T2) (xs : List T2) (v : Value) (w : World) (h : Qs w base g (x :: xs) v) : Calls Try.prog 67 #[.pointer (some ⟨g, 0, none⟩)] w fun e w' => e = .returned (.tuple #[.int .i64 x.2, .int .i64 0]) ∧ w = w' := by
  have hc := h.blk.cell 0
  rcases h.own.form with ⟨_, e⟩ | ⟨gr, cap, rfl, _, hgr, hlc, _⟩
  · cases e
  obtain ⟨c0, c1⟩ := h.own.cell 0 x rfl
  rw [Nat.zero_mul] at c0 c1
  rw [Nat.zero_add] at c1
  obtain ⟨n, hn⟩ : ∃ n, n = xs.length := ⟨_, rfl⟩
  rw [List.length_cons, ← hn] at hc
  have hc0 : w.cell? ⟨g, 0, none⟩ = some (.slice (some ⟨gr, 0, none⟩) (n + 1) cap) := hc
  have n0 : ¬ ((n : Int) + 1 = 0) := by omega
  have n1 : (0 : Int) < (n : Int) + 1 := by omega
  clear h hc hn hlc
  go_enter Try.func67, Try.ntmps67
  go_wp2
  go_ret2
  exact ⟨rfl, rfl⟩
theorem tclear_any (base g : Nat) (xs : List T2) (v : Value) (w : World) (h : Qs w base g xs v) : Calls Try.prog 66 #[.pointer (some ⟨g, 0, none⟩)] w fun e w' => e = .returned (.tuple #[]) ∧ Qs w' base g [] (.slice none 0 0) ∧ TmF g v (.slice none 0 0) w w' := by
  have hc : w.cell? ⟨g, 0, none⟩ = some v := h.blk.cell 0
  have hf := h.blk.frozen 0
  have hgs : w.grownBy (w.setCell ⟨g, 0, none⟩ (.slice none 0 0)) (some g) := grownBy_setCell' w g _
  have P : Hid (Qs (w.setCell ⟨g, 0, none⟩ (.slice none 0 0)) base g [] (.slice none 0 0) ∧ TmF g v (.slice none 0 0) w (w.setCell ⟨g, 0, none⟩ (.slice none 0 0))) :=
    ⟨⟨Blk.set_ h.blk 0 _, OwnT.nil _ _, by simp [Value.ownBlock]⟩, (TmF.refl g v w).grownG hgs (.inr (.inl rfl))⟩
  clear h hgs
  go_enter Try.func66, Try.ntmps66
  go_wp2
  go_end0
  exact ⟨rfl, P.out⟩
theorem tcancel_none (base g : Nat) (xs : List T2) (v : Value) (id : Int) (w : World) (h : Qs w base g xs v) (hm : xs.length ≤ 64) (hf : fnd id xs = none) :
    Calls Try.prog 57 #[.pointer (some ⟨g, 0, none⟩), .int .i64 id] w fun e w' => e = .returned (.int .i64 5) ∧ Below w.heap.size w w' := by
  have FI : Hid (Calls Try.prog 92 #[.pointer (some ⟨g, 0, none⟩), .int .i64 id] w fun e w' =>
      e = .returned (.tuple #[.agg #[.int .i64 0, .int .i64 0], .bool false]) ∧ Below w.heap.size w w') := by
    refine (find_any base g xs _ id w h (by omega)).mono ?_
    rintro e w' ⟨rfl, hB⟩
    rw [hf]
    exact ⟨rfl, hB⟩
  clear h hf
  go_enter Try.func57, Try.ntmps57
  go_wp2_with (go_at_call 92; refine FI.out.mono ?_; rintro e w1 ⟨rfl, hB1⟩; have HB1 := Lib.hid hB1; clear hB1)
  go_ret
  exact ⟨rfl, HB1.out.alloc HB1.out.size _⟩
theorem tcancel_some (base g : Nat) (xs : List T2) (v : Value) (id : Int) (t : T2) (w : World) (h : Qs w base g xs v) (hm : xs.length ≤ 64) (hf : fnd id xs = some t) :
    Calls Try.prog 57 #[.pointer (some ⟨g, 0, none⟩), .int .i64 id] w fun e w' => e = .returned (.int .i64 0) ∧ ∃ v', Qs w' base g (without t xs) v' ∧ TmF g v v' w w' := by
  have FI : Hid (Calls Try.prog 92 #[.pointer (some ⟨g, 0, none⟩), .int .i64 id] w fun e w' =>
      e = .returned (.tuple #[.agg #[.int .i64 t.1, .int .i64 t.2], .bool true]) ∧ Below w.heap.size w w') := by
    refine (find_any base g xs _ id w h (by omega)).mono ?_
    rintro e w' ⟨rfl, hB⟩
    rw [hf]
    exact ⟨rfl, hB⟩
  have DR : Hid (∀ W, Below w.heap.size w W → Calls Try.prog 93 #[.pointer (some ⟨g, 0, none⟩), .agg #[.int .i64 t.1, .int .i64 t.2]] W fun e w' =>
      e = .returned (.tuple #[]) ∧ ∃ v', Hid (Qs w' base g (without t xs) v' ∧ TmF g v v' w w')) := fun W hB => by
    refine (drop_any base g xs v t W (h.later hB) (by omega)).mono ?_
    rintro e w' ⟨rfl, v', hq, hT⟩
    exact ⟨rfl, v', hq, ((TmF.refl g v w).later hB).trans hT⟩
  clear h hf
  go_enter Try.func57, Try.ntmps57
  go_wp2_with (first
    | (go_at_call 92; refine FI.out.mono ?_; rintro e w1 ⟨rfl, hB1⟩; have HB1 := Lib.hid hB1; clear hB1)
    | (go_at_call 93; refine (DR.out _ (HB1.out.alloc HB1.out.size _)).mono ?_; rintro e w2 ⟨rfl, v', hP⟩))
  go_ret
  exact ⟨rfl, v', hP.out⟩
end Go.Proofs.Ytdlnmhobhafobaa
