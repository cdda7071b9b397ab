/-
  A packet of one automaton comes to the other.
-/
import Derived.Test.YtpkmddagcfjadaaDoorAuQApp
import Derived.Test.YtpkmddagcfjadaaDoorAuSnd
namespace Go.Proofs.YtpkmddagcfjadaaDoor
open Go.RowKit
set_option maxRecDepth 100000
set_option maxHeartbeats 2000000
set_option linter.unusedSimpArgs false
set_option linter.unusedVariables false

/-- the state of an end that has taken r packets -/
def agS (r : Nat) : Int := [6, 8, 9].getD r 9
def agV (r : Nat) : Int := [6, 8].getD r 8
/-- what an end that has taken r packets has sent, behind what the other has taken of it -/
def ag (r s : Nat) : List Int := (([1, 2] : List Int).take (1 + min r 1)).drop s
def agB (r s : Nat) : Bool := if r < 1 + min s 1 ∧ s ≤ 1 + min r 1 then
  decide (nxE (agS r) (agV r) = 0) && decide (nxS (agS r) (agV r) = agS (r + 1)) && decide (ag s r = ((r + 1 : Nat) : Int) :: ag s (r + 1)) && decide (ag (r + 1) s = ag r s ++ snd (nxA (agS r) (agV r))) && decide ((ag r s).length ≤ 2) && decide (r + 1 ≤ 1 + min s 1) && decide (s ≤ 1 + min (r + 1) 1) else true
theorem ag_all : ∀ r, r < 2 → ∀ s, s < 3 → agB r s = true := by decide +kernel
theorem ag_step {r s : Nat} (hr : r < 2) (hs : s ≤ 2) (h1 : r < 1 + min s 1) (h2 : s ≤ 1 + min r 1) (c mc mt : Int) : doE (agS r) c (agV r) = 0 ∧ doS (agS r) c (agV r) = agS (r + 1) ∧ ag s r = ((r + 1 : Nat) : Int) :: ag s (r + 1) ∧ ag (r + 1) s = ag r s ++ snd (doA (agS r) c (agV r)) ∧ (ag r s).length ≤ 2 := by
  have h := ag_all r hr s (by omega)
  unfold agB at h
  rw [if_pos ⟨h1, h2⟩] at h
  simp only [Bool.and_eq_true, decide_eq_true_eq] at h
  obtain ⟨⟨⟨⟨⟨⟨a1, a2⟩, a3⟩, a4⟩, a5⟩, _⟩, _⟩ := h
  have hD : doE (agS r) c (agV r) = 0 := by
    unfold doE
    rw [if_pos a1, if_neg]
    unfold outOf
    have : r = 0 ∨ r = 1 := by omega
    rcases this with rfl | rfl <;> simp [agV]
  obtain ⟨b1, _, b3⟩ := do_done (mc := mc) (mt := mt) hD
  exact ⟨hD, by rw [b1, a2], a3, by rw [b3, a4], a5⟩
theorem event_any (r : Nat) (hr : r < 2) (w : World) : Calls Tryd.prog 37 #[.int .i64 ((r + 1 : Nat) : Int)] w fun e w' => e = .returned (.int .i64 (agV r)) ∧ w = w' := by
  have : r = 0 ∨ r = 1 := by omega
  rcases this with rfl | rfl
  · show Calls Tryd.prog 37 #[.int .i64 1] w fun e w' => e = .returned (.int .i64 6) ∧ w = w'
    go_enter Tryd.func37, Tryd.ntmps37
    go_wp2
    go_ret
    exact ⟨rfl, rfl⟩
  · show Calls Tryd.prog 37 #[.int .i64 2] w fun e w' => e = .returned (.int .i64 8) ∧ w = w'
    go_enter Tryd.func37, Tryd.ntmps37
    go_wp2
    go_ret
    exact ⟨rfl, rfl⟩
def DJ (w W : World) (base p q : Nat) (mp mq : Int) (r s : Nat) (vin vout : Value) : Prop := ∃ cp cq : Int, AuB W p (agS r) cp mp 1 ∧ AuB W q (agS s) cq mq 1 ∧ (0 ≤ cp ∧ cp ≤ 255) ∧ (0 ≤ cq ∧ cq ≤ 255) ∧
  QI W base vin (ag s r) ∧ QI W base vout (ag r s) ∧ (vin.ownBlock = none ∨ vin.ownBlock ≠ vout.ownBlock) ∧ (vout.ownBlock = none ∨ vout.ownBlock ≠ vin.ownBlock) ∧ Below w.heap.size w W
theorem DJ.swap {w W : World} {base p q : Nat} {mp mq : Int} {r s : Nat} {vin vout : Value} (h : DJ w W base p q mp mq r s vin vout) : DJ w W base q p mq mp s r vout vin := by
  obtain ⟨cp, cq, h1, h2, h3, h4, h5, h6, h7, h8, h9⟩ := h
  exact ⟨cq, cp, h2, h1, h4, h3, h6, h5, h8, h7, h9⟩
theorem own_ne {a b : Value} (h : a.ownBlock = none ∨ a.ownBlock ≠ b.ownBlock) {k : Nat} (ha : a.ownBlock = some k) : b.ownBlock ≠ some k := by
  rcases h with h | h
  · rw [h] at ha; cases ha
  · rw [ha] at h; exact fun e => h e.symm
theorem append_back {w3 w4 : World} {base : Nat} {vin vout v' : Value} {l : List Int} (hq : QI w3 base vin l) (hne : vin.ownBlock = none ∨ vin.ownBlock ≠ vout.ownBlock) (hg : w3.grownBy w4 vout.ownBlock) (hv : v'.ownBlock = vout.ownBlock ∨ v'.ownBlock = some w3.heap.size) :
    QI w4 base vin l ∧ (vin.ownBlock = none ∨ vin.ownBlock ≠ v'.ownBlock) ∧ (v'.ownBlock = none ∨ v'.ownBlock ≠ vin.ownBlock) := by
  refine ⟨hq.grown hg hne, ?_, ?_⟩
  · rcases e : vin.ownBlock with _ | k
    · exact .inl rfl
    · refine .inr ?_
      rcases hv with hv | hv
      · rw [hv]
        exact fun e2 => own_ne hne e e2.symm
      · rw [hv]
        have := (hq.block k e).2
        exact fun e2 => by injection e2 with e2; omega
  · rcases e : v'.ownBlock with _ | k
    · exact .inl rfl
    · refine .inr fun e2 => ?_
      rcases hv with hv | hv
      · rw [e] at hv
        exact own_ne hne e2.symm hv.symm
      · rw [e] at hv
        injection hv with hv
        have := (hq.block k e2.symm).2
        omega
theorem deliver {w W : World} {base p q : Nat} {mp mq : Int} {r s : Nat} {vin vout : Value} (h : DJ w W base p q mp mq r s vin vout) (hr : r < 2) (hs : s ≤ 2) (h1 : r < 1 + min s 1) (h2 : s ≤ 1 + min r 1) (hp : p < base) (hq : q < base) (hpq : p ≠ q)
    (hb : base ≤ W.heap.size) (hwp : w.heap.size ≤ p) (hT : TabA w) (hC : TabC w) (hmp : 0 ≤ mp ∧ mp ≤ 255) :
    ∃ g off cap n, vin = .slice (some ⟨g, off, none⟩) (n + 1) cap ∧ W.cell? ⟨g, off, none⟩ = some (.int .i64 ((r + 1 : Nat) : Int)) ∧ n + 1 ≤ cap ∧
      Calls Tryd.prog 33 #[.pointer (some ⟨p, 0, none⟩), .int .i64 (agV r)] W fun e w2 => ∃ A m c2, e = .returned (.tuple #[.slice A m c2, .int .i64 0]) ∧
        Calls Tryd.prog 22 #[.slice A m c2] w2 fun e w3 => ∃ A3 m3 c3, e = .returned (.slice A3 m3 c3) ∧ ∃ v' w4,
          (Builtin.append_ #[22, 22] 22 #[vout, .slice A3 m3 c3]).run Tryd.prog w3 = .ok v' w4 ∧ base ≤ w4.heap.size ∧
          (cap ≠ 1 → DJ w w4 base p q mp mq (r + 1) s (.slice (some ⟨g, off + 1, none⟩) n (cap - 1)) v') ∧ (cap = 1 → DJ w w4 base p q mp mq (r + 1) s (.slice (some ⟨g, off, none⟩) n 0) v') := by
  obtain ⟨cp, cq, x1, x2, x3, x4, x5, x6, x7, x8, x9⟩ := h
  obtain ⟨a1, a2, a3, a4, a5⟩ := ag_step hr hs h1 h2 cp mp 1
  rw [a3] at x5
  obtain ⟨g, off, cap, rfl, hcell, hcap, hn1, hc1⟩ := x5.head
  refine ⟨g, off, cap, _, rfl, hcell, hcap, ?_⟩
  have hlt := hT.lt
  refine (do_any p (agS r) cp mp 1 (agV r) W x1 (hT.keptB x9 hT.lt) hmp (by omega) x3).mono ?_
  rw [a1, a2]
  rintro e w2 ⟨v, rfl, ho, ha, hg2⟩
  obtain ⟨A, c2, rfl, _, _⟩ := ho.slice
  refine ⟨_, _, _, rfl, ?_⟩
  have hB2 : Below w.heap.size w w2 := x9.grown hg2 x9.size (fun k e => by injection e; omega)
  have hs2 := hg2.size
  refine (sends_any A _ c2 w2.heap.size _ w2 ho.rd.1 (Nat.le_refl _) (Nat.le_trans (doA_length _ _ _) (by omega)) (hC.keptB hB2 hC.lt)).mono ?_
  rintro e w3 ⟨v3, rfl, ho3, hb3⟩
  obtain ⟨A3, c3, rfl, _, hz3⟩ := ho3.slice
  refine ⟨_, _, _, rfl, ?_⟩
  have hs3 := hb3.size
  have y6 : QI w3 base vout (ag r s) := (x6.grown hg2 (x6.far hp)).later hb3
  have hsl := Nat.le_trans (snd_length (doA (agS r) cp (agV r))) (doA_length (agS r) cp (agV r))
  obtain ⟨v', w4, hrun, hq4, hg4, hv4⟩ := qi_app y6 ho3.rd.1 hz3 (by omega) (by omega)
  rw [← a4] at hq4
  refine ⟨v', w4, hrun, by have := hg4.size; omega, ?_⟩
  have hB3 : Below w.heap.size w w3 := hB2.trans (hb3.mono hB2.size)
  have hB4 : Below w.heap.size w w4 := hB3.grown hg4 hB3.size (fun k e => by have := y6.block k e; omega)
  have z1 : AuB w4 p (agS (r + 1)) (doC (agS r) cp mp 1 (agV r)) mp 1 := Blk.grown (Blk.below ha hb3 ha.lt) hg4 (fun e => by have := y6.block _ e; omega)
  have w2q : AuB w2 q (agS s) cq mq 1 := Blk.grown x2 hg2 (fun e => by injection e; omega)
  have z2 : AuB w4 q (agS s) cq mq 1 := Blk.grown (Blk.below w2q hb3 w2q.lt) hg4 (fun e => by have := y6.block _ e; omega)
  have fin : ∀ vin', QI W base vin' (ag s (r + 1)) → (vin'.ownBlock = none ∨ vin'.ownBlock ≠ vout.ownBlock) → DJ w w4 base p q mp mq (r + 1) s vin' v' := by
    intro vin' hv1 hv2
    have y5 := (hv1.grown hg2 (hv1.far hp)).later hb3
    obtain ⟨q1, q2, q3⟩ := append_back y5 hv2 hg4 hv4
    exact ⟨_, cq, z1, z2, doC_bounds hmp (by omega) x3, x4, q1, hq4, q2, q3, hB4⟩
  refine ⟨fun hc => fin _ (hn1 hc) ?_, fun hc => fin _ (hc1 hc) ?_⟩
  · exact x7
  · exact x7
end Go.Proofs.YtpkmddagcfjadaaDoor
