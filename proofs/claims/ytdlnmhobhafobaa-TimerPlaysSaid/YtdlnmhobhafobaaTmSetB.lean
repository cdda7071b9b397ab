/-
  The method Set: refused; Set of anything.
-/
import Derived.Test.YtdlnmhobhafobaaTmSetA
namespace Go.Proofs.Ytdlnmhobhafobaa
open Go.RowKit Go.Shelf
set_option maxRecDepth 100000
set_option maxHeartbeats 2000000
set_option linter.unusedSimpArgs false
set_option linter.unusedVariables false

theorem set_full (base g : Nat) (xs : List T2) (v : Value) (id at' : Int) (w : World) (h : Qs w base g xs v) (hm : xs.length = 64) (h1 : 0 ≤ id) (h2 : id ≤ 65535) (h3 : 0 ≤ at') (h4 : at' ≤ 1099511627776) (hf : fnd id xs = none) :
    Calls Try.prog 53 #[.pointer (some ⟨g, 0, none⟩), .int .i64 id, .int .i64 at'] w fun e w' =>
      e = .returned (.int .i64 7) ∧ Below w.heap.size w w' := by
  have hgl := Blk.lt h.blk
  have IT := Lib.hid (fun W => isTime_any at' W (by rw [IntKind.wrap_i64]; omega))
  have hd : decide (0 ≤ at' ∧ at' ≤ 1099511627776) = true := by simp [h3, h4]
  rw [hd] at IT
  obtain ⟨A, c, hsl, hcl⟩ := h.own.slice
  rw [hm] at hsl
  subst hsl
  have FI : Hid (Calls Try.prog 92 #[.pointer (some ⟨g, 0, none⟩), .int .i64 id] w fun e w' =>
      e = .returned (.tuple #[.agg #[.int .i64 0, .int .i64 0], .bool false]) ∧ Below w.heap.size w w' ∧ w'.cell? ⟨g, 0, none⟩ = some (.slice A 64 c)) := by
    refine (find_any base g xs _ id w h (by omega)).mono ?_
    rintro e w' ⟨rfl, hB⟩
    rw [hf]
    exact ⟨rfl, hB, Blk.cell (show Blk w' g 92 _ from (hB.block g hgl).trans h.blk) 0⟩
  have h1' : ¬ (id < 0) := by omega
  have h2' : ¬ (65535 < id) := by omega
  clear h hm hf hd hcl h3 h4
  go_enter Try.func53, Try.ntmps53
  go_wp2_with (first
    | (go_at_call 91; refine (IT.out _).mono ?_; rintro e w' ⟨rfl, rfl⟩)
    | (go_at_call 92; refine FI.out.mono ?_; rintro e w1 ⟨rfl, hB1, hc1⟩; have hg1 : g < w1.heap.size := Nat.lt_of_lt_of_le hgl hB1.size; have HB1 := Lib.hid hB1; clear hB1))
  go_ret
  exact ⟨rfl, HB1.out.alloc HB1.out.size _⟩
def okT (id at' : Int) : Prop := 0 ≤ id ∧ id ≤ 65535 ∧ 0 ≤ at' ∧ at' ≤ 1099511627776
theorem set_bad (g : Nat) (id at' : Int) (w : World) (hw : IntKind.i64.wrap at' = at') (h : ¬ okT id at') :
    Calls Try.prog 53 #[.pointer (some ⟨g, 0, none⟩), .int .i64 id, .int .i64 at'] w fun e w' =>
      e = .returned (.int .i64 1) ∧ w = w' := by
  by_cases h1 : id < 0
  · clear h
    go_enter Try.func53, Try.ntmps53
    go_wp2
    go_ret
    exact ⟨rfl, rfl⟩
  by_cases h2 : 65535 < id
  · clear h
    go_enter Try.func53, Try.ntmps53
    go_wp2
    go_ret
    exact ⟨rfl, rfl⟩
  have hn : ¬ (0 ≤ at' ∧ at' ≤ 1099511627776) := fun x => h ⟨by omega, by omega, x.1, x.2⟩
  have IT := Lib.hid (fun W => isTime_any at' W hw)
  have hd : decide (0 ≤ at' ∧ at' ≤ 1099511627776) = false := by simpa using hn
  rw [hd] at IT
  clear h hn hd hw
  go_enter Try.func53, Try.ntmps53
  go_wp2_with (go_at_call 91; refine (IT.out _).mono ?_; rintro e w' ⟨rfl, rfl⟩)
  go_ret
  exact ⟨rfl, rfl⟩
open Classical in
/-- what Set answers, and what it leaves -/
noncomputable def setQ (id at' : Int) (xs : List T2) : Int × List T2 :=
  if okT id at' then match fnd id xs with
    | some t => (0, ins (cnt at' (without t xs)) (id, at') (without t xs))
    | none => if xs.length = 64 then (7, xs) else (0, ins (cnt at' xs) (id, at') xs)
  else (1, xs)
theorem set_any (base g : Nat) (xs : List T2) (v : Value) (id at' : Int) (w : World) (h : Qs w base g xs v) (hb : base ≤ w.heap.size) (hm : xs.length ≤ 64) (hw : IntKind.i64.wrap at' = at') :
    Calls Try.prog 53 #[.pointer (some ⟨g, 0, none⟩), .int .i64 id, .int .i64 at'] w fun e w' =>
      e = .returned (.int .i64 (setQ id at' xs).1) ∧ ∃ v', Qs w' base g (setQ id at' xs).2 v' ∧ TmF g v v' w w' := by
  by_cases ho : okT id at'
  · obtain ⟨h1, h2, h3, h4⟩ := ho
    cases hf : fnd id xs with
    | some t =>
      have e : setQ id at' xs = (0, ins (cnt at' (without t xs)) (id, at') (without t xs)) := by simp [setQ, okT, h1, h2, h3, h4, hf]
      rw [e]
      exact set_again base g xs v id at' t w h hb hm h1 h2 h3 h4 hf
    | none =>
      by_cases h64 : xs.length = 64
      · have e : setQ id at' xs = (7, xs) := by simp [setQ, okT, h1, h2, h3, h4, hf, h64]
        rw [e]
        refine (set_full base g xs v id at' w h h64 h1 h2 h3 h4 hf).mono ?_
        rintro e w' ⟨rfl, hB⟩
        exact ⟨rfl, v, h.later hB, (TmF.refl g v w).later hB⟩
      · have e : setQ id at' xs = (0, ins (cnt at' xs) (id, at') xs) := by simp [setQ, okT, h1, h2, h3, h4, hf, h64]
        rw [e]
        exact set_put base g xs v id at' w h hb (by omega) h1 h2 h3 h4 hf
  · have e : setQ id at' xs = (1, xs) := by simp [setQ, ho]
    rw [e]
    refine (set_bad g id at' w hw ho).mono ?_
    rintro e w' ⟨rfl, rfl⟩
    exact ⟨rfl, v, h, TmF.refl g v w⟩
end Go.Proofs.Ytdlnmhobhafobaa
