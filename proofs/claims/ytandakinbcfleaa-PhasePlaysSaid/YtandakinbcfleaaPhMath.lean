/-
  phase in numbers: the table, what may pass, a link's state and what each call makes of it.
-/
import Derived.Test.YtandakinbcfleaaAuWords
namespace Go.Proofs.Ytandakinbcfleaa
open Go.RowKit
set_option linter.unusedSimpArgs false
set_option linter.unusedVariables false

/-- the table: 0 where an event can not come, else the next phase and one -/
def phT : List Int := [2, 1, 0, 0, 1, 0, 0, 0, 1, 0, 1, 0, 2, 1, 0, 0, 0, 5, 0, 1, 0, 2, 5, 0, 0, 5, 5, 0, 1, 0, 2, 5, 0, 0, 5, 5, 0, 1, 0, 5, 1, 0, 0, 5, 5]
def phEnt (s e : Int) : Int := numAt phT (s * 9 + e).toNat
def okPE (s e : Int) : Bool := decide (0 ≤ s ∧ s ≤ 4 ∧ 0 ≤ e ∧ e ≤ 8)
def nxPE (s e : Int) : Int := if okPE s e then (if phEnt s e = 0 then 290 else 0) else 1
def nxPS (s e : Int) : Int := if nxPE s e = 0 then phEnt s e - 1 else 0
theorem nxPS_bounds (s e : Int) : 0 ≤ nxPS s e ∧ nxPS s e ≤ 4 := by
  unfold nxPS nxPE okPE
  by_cases h : 0 ≤ s ∧ s ≤ 4 ∧ 0 ≤ e ∧ e ≤ 8
  · have key : ∀ a, a < 5 → ∀ b, b < 9 → 0 ≤ phEnt (Int.ofNat a) (Int.ofNat b) ∧ phEnt (Int.ofNat a) (Int.ofNat b) ≤ 5 := by decide +kernel
    obtain ⟨a, rfl⟩ := Int.eq_ofNat_of_zero_le h.1
    obtain ⟨b, rfl⟩ := Int.eq_ofNat_of_zero_le h.2.2.1
    have := key a (by omega) b (by omega)
    have h1 : (0 : Int) ≤ phEnt (a : Int) (b : Int) ∧ phEnt (a : Int) (b : Int) ≤ 5 := this
    rw [decide_eq_true h]
    simp only [if_true]
    by_cases hq : phEnt (a : Int) (b : Int) = 0
    · rw [if_pos hq, if_neg (by omega)]
      omega
    · rw [if_neg hq, if_pos rfl]
      omega
  · rw [decide_eq_false h]
    simp
def phNames : List (List UInt8) := [[68, 101, 97, 100], [69, 115, 116, 97, 98, 108, 105, 115, 104], [65, 117, 116, 104, 101, 110, 116, 105, 99, 97, 116, 101], [78, 101, 116, 119, 111, 114, 107], [84, 101, 114, 109, 105, 110, 97, 116, 101]]
def phEvents : List (List UInt8) := [[85, 112], [68, 111, 119, 110], [79, 112, 101, 110, 101, 100], [82, 101, 110, 101, 103], [70, 105, 110, 105, 115, 104, 101, 100], [84, 104, 101, 105, 114, 115], [77, 105, 110, 101], [66, 97, 100], [67, 108, 111, 115, 101]]
def nameP (s : Int) : List UInt8 := if decide (0 ≤ s ∧ s ≤ 4) then phNames.getD s.toNat [] else []
def nameEv (s : Int) : List UInt8 := if decide (0 ≤ s ∧ s ≤ 8) then phEvents.getD s.toNat [] else []

/-- a protocol's number -/
def protP (n : Int) : Bool := decide (0 < n ∧ n ≤ 65535 ∧ n % 2 = 1 ∧ n / 256 % 2 = 0)
def ofLinkB (n : Int) : Bool := decide (n = 49185 ∨ n = 49187 ∨ n = 49699 ∨ n = 49703)
def passB (s n : Int) : Bool := if s = 1 ∨ s = 4 then n == 49185 else if s = 2 then ofLinkB n else if s = 3 then (ofLinkB n || (decide (n < 49152) && protP n)) else false

/-- a link: its phase, what must be proved by the other end, by this one, what is, how often each phase was entered -/
structure PhS where
  s : Int
  mt : Bool
  mm : Bool
  pt : Bool
  pm : Bool
  t0 : Int
  t1 : Int
  t2 : Int
  t3 : Int
  t4 : Int
def phZ : PhS := ⟨0, false, false, false, false, 0, 0, 0, 0, 0⟩
def phC (x : PhS) : List Value := [.int .i64 x.s, .bool x.mt, .bool x.mm, .bool x.pt, .bool x.pm, .int .i64 x.t0, .int .i64 x.t1, .int .i64 x.t2, .int .i64 x.t3, .int .i64 x.t4]
/-- what may be: a phase, and times within a bound -/
def PhOk (x : PhS) (k : Int) : Prop := (0 ≤ x.s ∧ x.s ≤ 4) ∧ (0 ≤ x.t0 ∧ x.t0 ≤ k) ∧ (0 ≤ x.t1 ∧ x.t1 ≤ k) ∧ (0 ≤ x.t2 ∧ x.t2 ≤ k) ∧ (0 ≤ x.t3 ∧ x.t3 ≤ k) ∧ (0 ≤ x.t4 ∧ x.t4 ≤ k)
def phIn (x : PhS) (p : Int) : PhS :=
  if x.s = p then x else ⟨p, x.mt, x.mm, x.pt, x.pm, x.t0 + (if p = 0 then 1 else 0), x.t1 + (if p = 1 then 1 else 0), x.t2 + (if p = 2 then 1 else 0), x.t3 + (if p = 3 then 1 else 0), x.t4 + (if p = 4 then 1 else 0)⟩
def phOk (x : PhS) : Bool := (!x.mt || x.pt) && (!x.mm || x.pm)
def phForget (x : PhS) : PhS := ⟨x.s, false, false, false, false, x.t0, x.t1, x.t2, x.t3, x.t4⟩
def phTold (x : PhS) (e : Int) : PhS := ⟨x.s, x.mt, x.mm, if e = 5 then true else x.pt, if e = 6 then true else x.pm, x.t0, x.t1, x.t2, x.t3, x.t4⟩
def phMust (x : PhS) (a b : Bool) : PhS := ⟨x.s, a, b, false, false, x.t0, x.t1, x.t2, x.t3, x.t4⟩
def phAt (x : PhS) : Int := if phOk x then 3 else 2
def phPE (x : PhS) : Int := if x.s = 0 ∨ x.s = 1 then 290 else 0
def phPX (x : PhS) (e : Int) : PhS := if x.s = 2 then phIn (phTold x e) (phAt (phTold x e)) else x
def phDE (x : PhS) (e : Int) : Int := if e = 5 ∨ e = 6 then phPE x else nxPE x.s e
def phDX (x : PhS) (e : Int) : PhS :=
  if e = 5 ∨ e = 6 then phPX x e else if nxPE x.s e = 0 then phIn (if e = 0 ∨ e = 1 ∨ e = 3 ∨ e = 4 then phForget x else x) (nxPS x.s e) else x
def phOE (x : PhS) : Int := if x.s = 1 ∨ x.s = 4 then 0 else 290
def phOX (x : PhS) (a b : Bool) : PhS := if x.s = 1 then phIn (phMust x a b) (phAt (phMust x a b)) else x

theorem phIn_ok {x : PhS} {k : Int} (h : PhOk x k) (p : Int) (hp : 0 ≤ p ∧ p ≤ 4) : PhOk (phIn x p) (k + 1) := by
  unfold PhOk phIn at *
  split
  · omega
  · simp only
    refine ⟨hp, ?_, ?_, ?_, ?_, ?_⟩ <;> (split <;> omega)
theorem PhOk.up {x : PhS} {k j : Int} (h : PhOk x k) (hj : k ≤ j) : PhOk x j := by
  unfold PhOk at *
  omega
theorem phForget_ok {x : PhS} {k : Int} (h : PhOk x k) : PhOk (phForget x) k := h
theorem phTold_ok {x : PhS} {k : Int} (e : Int) (h : PhOk x k) : PhOk (phTold x e) k := h
theorem phMust_ok {x : PhS} {k : Int} (a b : Bool) (h : PhOk x k) : PhOk (phMust x a b) k := h
theorem phAt_bounds (x : PhS) : 0 ≤ phAt x ∧ phAt x ≤ 4 := by
  unfold phAt
  split <;> omega
theorem phPX_ok {x : PhS} {k : Int} (e : Int) (h : PhOk x k) : PhOk (phPX x e) (k + 1) := by
  unfold phPX
  split
  · exact phIn_ok (phTold_ok e h) _ (phAt_bounds _)
  · exact h.up (by omega)
theorem phDX_ok {x : PhS} {k : Int} (e : Int) (h : PhOk x k) : PhOk (phDX x e) (k + 1) := by
  unfold phDX
  split
  · exact phPX_ok e h
  · split
    · refine phIn_ok ?_ _ (nxPS_bounds _ _)
      split
      · exact phForget_ok h
      · exact h
    · exact h.up (by omega)
theorem phOX_ok {x : PhS} {k : Int} (a b : Bool) (h : PhOk x k) : PhOk (phOX x a b) (k + 1) := by
  unfold phOX
  split
  · exact phIn_ok (phMust_ok a b h) _ (phAt_bounds _)
  · exact h.up (by omega)
end Go.Proofs.Ytandakinbcfleaa
