/-
  A packet of one automaton comes to the other: by what is left of the queue's row.
-/
import Derived.Test.YtpkmddagcfjadaaDoorAuDeliver
namespace Go.Proofs.YtpkmddagcfjadaaDoor
open Go.RowKit
set_option maxRecDepth 100000
set_option maxHeartbeats 2000000
set_option linter.unusedSimpArgs false
set_option linter.unusedVariables false

def DoneJ (w : World) (base p q : Nat) (mp mq : Int) (r s : Nat) (vin vout : Value) (code : Int) (W : World) : Prop :=
  Calls Tryd.prog 33 #[.pointer (some ⟨p, 0, none⟩), .int .i64 code] W fun e w2 => ∃ A m c2, e = .returned (.tuple #[.slice A m c2, .int .i64 0]) ∧
        Calls Tryd.prog 22 #[.slice A m c2] w2 fun e w3 => ∃ A3 m3 c3, e = .returned (.slice A3 m3 c3) ∧ ∃ v' w4,
          (Builtin.append_ #[22, 22] 22 #[vout, .slice A3 m3 c3]).run Tryd.prog w3 = .ok v' w4 ∧ base ≤ w4.heap.size ∧ DJ w w4 base p q mp mq (r + 1) s vin v'
theorem deliver2 {w W : World} {base p q : Nat} {mp mq : Int} {r s : Nat} {vin vout : Value} (h : DJ w W base p q mp mq r s vin vout) (hr : r < 2) (hs : s ≤ 2) (h1 : r < 1 + min s 1) (h2 : s ≤ 1 + min r 1) (hp : p < base) (hq : q < base) (hpq : p ≠ q)
    (hb : base ≤ W.heap.size) (hwp : w.heap.size ≤ p) (hT : TabA w) (hC : TabC w) (hmp : 0 ≤ mp ∧ mp ≤ 255) :
    ∃ g off cap n, vin = .slice (some ⟨g, off, none⟩) (n + 1) cap ∧ W.cell? ⟨g, off, none⟩ = some (.int .i64 ((r + 1 : Nat) : Int)) ∧ n + 1 ≤ cap ∧ n ≤ 2 ∧
      (cap = 1 ∧ n = 0 ∧ DoneJ w base p q mp mq r s (.slice (some ⟨g, off, none⟩) 0 0) vout (agV r) W ∨ cap ≠ 1 ∧ DoneJ w base p q mp mq r s (.slice (some ⟨g, off + 1, none⟩) n (cap - 1)) vout (agV r) W) := by
  obtain ⟨g, off, cap, n, e, hc, hcap, d⟩ := deliver h hr hs h1 h2 hp hq hpq hb hwp hT hC hmp
  have hn : n ≤ 2 := by
    obtain ⟨_, _, _, _, _, _, x5, _⟩ := h
    obtain ⟨A, m, c, e2, hm⟩ := x5.form
    rw [e] at e2
    injection e2 with _ e3 _
    have hl : (ag s r).length ≤ 2 := by
      unfold ag
      rw [List.length_drop, List.length_take]
      simp
      omega
    omega
  refine ⟨g, off, cap, n, e, hc, hcap, hn, ?_⟩
  by_cases hc1 : cap = 1
  · obtain rfl : n = 0 := by omega
    refine .inl ⟨hc1, rfl, ?_⟩
    refine d.mono ?_
    rintro e w2 ⟨A, m, c2, rfl, d2⟩
    refine ⟨_, _, _, rfl, d2.mono ?_⟩
    rintro e w3 ⟨A3, m3, c3, rfl, v', w4, hrun, hsz, _, hx⟩
    exact ⟨_, _, _, rfl, v', w4, hrun, hsz, hx hc1⟩
  · refine .inr ⟨hc1, ?_⟩
    refine d.mono ?_
    rintro e w2 ⟨A, m, c2, rfl, d2⟩
    refine ⟨_, _, _, rfl, d2.mono ?_⟩
    rintro e w3 ⟨A3, m3, c3, rfl, v', w4, hrun, hsz, hx, _⟩
    exact ⟨_, _, _, rfl, v', w4, hrun, hsz, hx hc1⟩
end Go.Proofs.YtpkmddagcfjadaaDoor
