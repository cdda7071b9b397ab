/-
  What the calls do in a state: deeds, and the six calls' choice among them.
-/
import Derived.Test.YtdjifjlkpimiaaaPoDeed
import Derived.Laws.EntriesVeiled
namespace Go.Proofs.Ytdjifjlkpimiaaa
open Go.RowKit
set_option maxRecDepth 100000
set_option maxHeartbeats 2000000
set_option linter.unusedSimpArgs false
set_option linter.unusedVariables false

/-- what a call does: none or a function -/
def fvO (g : Nat) : Option Nat → Value
  | none => .nilFunc
  | some f => fnV g f
/-- the deed of a call (0 Start, 1 Packet, 2 Up, 3 Down, 4 LinkUp, 5 LinkDown) in a state -/
def pick (k : Nat) (x : PoS) : Option Nat :=
  if x.st = 0 then (match k with | 0 => if x.dem then none else some 55 | 1 => if x.dem then some 55 else none | 2 => some 58 | 3 => some 59 | _ => none)
  else if x.st = 1 then (match k with | 1 => if x.dem then some 60 else none | 2 => some 61 | 3 => some 59 | _ => none)
  else if x.st = 2 then (match k with | 3 => some 62 | 4 => some 63 | 5 => some 64 | _ => none)
  else if x.st = 3 then (match k with | 1 => some 65 | 3 => some 62 | 5 => some 66 | _ => none)
  else if x.st = 4 then (match k with | 1 => if x.dem then some 60 else none | 2 => some 61 | 3 => some 59 | 5 => some 67 | _ => none)
  else (match k with | 2 => some 68 | 3 => some 59 | _ => none)
def deedsV (g : Nat) (x : PoS) : Value := .agg #[fvO g (pick 0 x), fvO g (pick 1 x), fvO g (pick 2 x), fvO g (pick 3 x), fvO g (pick 4 x), fvO g (pick 5 x)]
theorem onDemand_any (g : Nat) (x : PoS) (fv : Value) (w : World) (hx : PoB w g x) : Calls Try.prog 57 #[.pointer (some ⟨g, 0, none⟩), fv] w fun e w' => e = .returned (if x.dem then fv else .nilFunc) ∧ w = w' := by
  have c3 : w.cell? ⟨g, 3, none⟩ = some (.bool x.dem) := hx.cell 3
  clear hx
  cases h : x.dem
  all_goals
    rw [h] at c3
    clear h
    go_enter Try.func57, Try.ntmps57
    go_wp2
    go_ret
    exact ⟨rfl, rfl⟩
theorem unless_any (g : Nat) (x : PoS) (fv : Value) (w : World) (hx : PoB w g x) : Calls Try.prog 56 #[.pointer (some ⟨g, 0, none⟩), fv] w fun e w' => e = .returned (if x.dem then .nilFunc else fv) ∧ w = w' := by
  have c3 : w.cell? ⟨g, 3, none⟩ = some (.bool x.dem) := hx.cell 3
  clear hx
  cases h : x.dem
  all_goals
    rw [h] at c3
    clear h
    go_enter Try.func56, Try.ntmps56
    go_wp2
    go_ret
    exact ⟨rfl, rfl⟩
theorem deeds_any (g : Nat) (x : PoS) (w : World) (hx : PoB w g x) (ho : PoOk x) :
    Calls Try.prog 53 #[.pointer (some ⟨g, 0, none⟩)] w fun e w' => e = .returned (deedsV g x) ∧ Below w.heap.size w w' := by
  have c9 : w.cell? ⟨g, 9, none⟩ = some (.int .i64 x.st) := hx.cell 9
  have hb := ho.st
  have HO : Hid (∀ W fv, Below w.heap.size w W → Calls Try.prog 57 #[.pointer (some ⟨g, 0, none⟩), fv] W fun e w' => e = .returned (if x.dem then fv else .nilFunc) ∧ W = w') := fun W fv h => onDemand_any g x fv W (hx.below h)
  have HU : Hid (∀ W fv, Below w.heap.size w W → Calls Try.prog 56 #[.pointer (some ⟨g, 0, none⟩), fv] W fun e w' => e = .returned (if x.dem then .nilFunc else fv) ∧ W = w') := fun W fv h => unless_any g x fv W (hx.below h)
  have hs : x.st = 0 ∨ x.st = 1 ∨ x.st = 2 ∨ x.st = 3 ∨ x.st = 4 ∨ x.st = 5 := by omega
  unfold deedsV pick
  have lg := hx.lt
  clear hx ho hb
  generalize x.st = s at *
  generalize x.dem = d at *
  rcases hs with rfl | rfl | rfl | rfl | rfl | rfl <;> cases d
  all_goals
    go_enter Try.func53, Try.ntmps53
    go_wp2_with (first | (go_at_call 57; refine (HO.out _ _ ?_).mono ?_; exact (Below.refl _ _).alloc (Nat.le_refl _) _; rintro e w1 ⟨rfl, rfl⟩) | (go_at_call 56; refine (HU.out _ _ ?_).mono ?_; exact (Below.refl _ _).alloc (Nat.le_refl _) _; rintro e w1 ⟨rfl, rfl⟩))
    refine bodyPost_ret (v := _) ?h rfl ⟨rfl, ?b⟩
    case h => simp [results, Try.results53, go_sem, fvO, fnV]
    case b => exact (Below.refl _ _).alloc (Nat.le_refl _) _
end Go.Proofs.Ytdjifjlkpimiaaa
