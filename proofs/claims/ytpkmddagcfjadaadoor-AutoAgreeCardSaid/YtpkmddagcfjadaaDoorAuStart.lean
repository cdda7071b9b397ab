/-
  Two automata are opened and get up.
-/
import Derived.Test.YtpkmddagcfjadaaDoorAuDeliver
namespace Go.Proofs.YtpkmddagcfjadaaDoor
open Go.RowKit
set_option maxRecDepth 100000
set_option maxHeartbeats 2000000
set_option linter.unusedSimpArgs false
set_option linter.unusedVariables false

def s0 (j : Nat) : Int := [0, 1, 6].getD j 6
def e0 (j : Nat) : Int := [2, 0].getD j 0
def q0 (j : Nat) : List Int := [[], [], [1]].getD j [1]
def startB (j : Nat) : Bool := decide (nxE (s0 j) (e0 j) = 0) && decide (nxS (s0 j) (e0 j) = s0 (j + 1)) && decide (q0 (j + 1) = q0 j ++ snd (nxA (s0 j) (e0 j))) && decide ((q0 j).length ≤ 1)
theorem start_all : ∀ j, j < 2 → startB j = true := by decide +kernel
theorem start_step {j : Nat} (hj : j < 2) (c mc mt : Int) : doE (s0 j) c (e0 j) = 0 ∧ doS (s0 j) c (e0 j) = s0 (j + 1) ∧ q0 (j + 1) = q0 j ++ snd (doA (s0 j) c (e0 j)) ∧ (q0 j).length ≤ 1 := by
  have h := start_all j hj
  unfold startB at h
  simp only [Bool.and_eq_true, decide_eq_true_eq] at h
  obtain ⟨⟨⟨a1, a2⟩, a3⟩, a4⟩ := h
  have hD : doE (s0 j) c (e0 j) = 0 := by
    unfold doE
    rw [if_pos a1, if_neg]
    unfold outOf
    have : j = 0 ∨ j = 1 := by omega
    rcases this with rfl | rfl <;> simp [e0]
  obtain ⟨b1, _, b3⟩ := do_done (mc := mc) (mt := mt) hD
  exact ⟨hD, by rw [b1, a2], by rw [b3, a3], a4⟩
def SJ (w W : World) (ob g h : Nat) (mx mo : Int) (j : Nat) (vB vA : Value) : Prop := ∃ cg ch : Int, AuB W g (s0 j) cg mx 1 ∧ AuB W h (s0 j) ch mo 1 ∧ (0 ≤ cg ∧ cg ≤ 255) ∧ (0 ≤ ch ∧ ch ≤ 255) ∧
  QI W (ob + 1) vB (q0 j) ∧ QI W (ob + 1) vA (q0 j) ∧ (vB.ownBlock = none ∨ vB.ownBlock ≠ vA.ownBlock) ∧ (vA.ownBlock = none ∨ vA.ownBlock ≠ vB.ownBlock) ∧ Below w.heap.size w W ∧ Blk W ob 3 [.int .i64 2, .int .i64 0]
theorem SJ.done {w W : World} {ob g h : Nat} {mx mo : Int} {vB vA : Value} (x : SJ w W ob g h mx mo 2 vB vA) : DJ w W (ob + 1) g h mx mo 0 0 vA vB := by
  obtain ⟨cg, ch, x1, x2, x3, x4, x5, x6, x7, x8, x9, _⟩ := x
  exact ⟨cg, ch, x1, x2, x3, x4, x6, x5, x8, x7, x9⟩
theorem SJ.step {w W : World} {ob g h : Nat} {mx mo : Int} {j : Nat} {vB vA : Value} (x : SJ w W ob g h mx mo j vB vA) (hj : j < 2) (hg : w.heap.size ≤ g) (hh : w.heap.size ≤ h) (hgo : g < ob) (hho : h < ob) (hgh : g ≠ h) (hT : TabA w) (hC : TabC w) (hmx : 0 ≤ mx ∧ mx ≤ 255) (hmo : 0 ≤ mo ∧ mo ≤ 255) :
    Calls Tryd.prog 33 #[.pointer (some ⟨g, 0, none⟩), .int .i64 (e0 j)] W fun e w2 => ∃ A m c, e = .returned (.tuple #[.slice A m c, .int .i64 0]) ∧
      Calls Tryd.prog 33 #[.pointer (some ⟨h, 0, none⟩), .int .i64 (e0 j)] w2 fun e w3 => ∃ A2 m2 c2, e = .returned (.tuple #[.slice A2 m2 c2, .int .i64 0]) ∧
        Calls Tryd.prog 22 #[.slice A m c] w3 fun e w4 => ∃ A3 m3 c3, e = .returned (.slice A3 m3 c3) ∧ ∃ vB' w5,
          (Builtin.append_ #[22, 22] 22 #[vB, .slice A3 m3 c3]).run Tryd.prog w4 = .ok vB' w5 ∧
          Calls Tryd.prog 22 #[.slice A2 m2 c2] w5 fun e w6 => ∃ A4 m4 c4, e = .returned (.slice A4 m4 c4) ∧ ∃ vA' w7,
            (Builtin.append_ #[22, 22] 22 #[vA, .slice A4 m4 c4]).run Tryd.prog w6 = .ok vA' w7 ∧ SJ w w7 ob g h mx mo (j + 1) vB' vA' := by
  obtain ⟨cg, ch, x1, x2, x3, x4, x5, x6, x7, x8, x9, xo⟩ := x
  obtain ⟨a1, a2, a3, a4⟩ := start_step hj cg mx 1
  obtain ⟨b1, b2, b3, _⟩ := start_step hj ch mo 1
  have hob := xo.lt
  refine (do_any g (s0 j) cg mx 1 (e0 j) W x1 (hT.keptB x9 hT.lt) hmx (by omega) x3).mono ?_
  rw [a1, a2]
  rintro e w2 ⟨v, rfl, ho, ha, hg2⟩
  obtain ⟨A, c, rfl, _, _⟩ := ho.slice
  refine ⟨_, _, _, rfl, ?_⟩
  have hs2 := hg2.size
  have hB2 : Below w.heap.size w w2 := x9.grown hg2 x9.size (fun k e => by injection e; omega)
  have y2 : AuB w2 h (s0 j) ch mo 1 := Blk.grown x2 hg2 (fun e => by injection e; omega)
  refine (do_any h (s0 j) ch mo 1 (e0 j) w2 y2 (hT.keptB hB2 hT.lt) hmo (by omega) x4).mono ?_
  rw [b1, b2]
  rintro e w3 ⟨v, rfl, ho2, ha2, hg3⟩
  obtain ⟨A2, c2, rfl, _, _⟩ := ho2.slice
  refine ⟨_, _, _, rfl, ?_⟩
  have hs3 := hg3.size
  have hB3 : Below w.heap.size w w3 := hB2.grown hg3 hB2.size (fun k e => by injection e; omega)
  have farO : ∀ {B : Nat} {v : Value} {l : List Int} {w' : World}, OwnI w' B v l → h < B → v.ownBlock = none ∨ v.ownBlock ≠ some h := by
    intro B v l w' ho hB
    rcases e : v.ownBlock with _ | q
    · exact .inl rfl
    · have := ho.form.2 q e
      exact .inr (fun e => by injection e; omega)
  have o3 := ho.grown hg3 (farO ho (by omega))
  refine (sends_any A _ c w3.heap.size _ w3 o3.rd.1 (Nat.le_refl _) (Nat.le_trans (doA_length _ _ _) (by omega)) (hC.keptB hB3 hC.lt)).mono ?_
  rintro e w4 ⟨v3, rfl, ho3, hb4⟩
  obtain ⟨A3, c3, rfl, _, hz3⟩ := ho3.slice
  refine ⟨_, _, _, rfl, ?_⟩
  have hs4 := hb4.size
  have far2 : ∀ {v : Value} {l : List Int} {w' : World} {p : Nat}, QI w' (ob + 1) v l → p < ob → v.ownBlock = none ∨ v.ownBlock ≠ some p := fun hq hp => hq.far (by omega)
  have z5 : QI w4 (ob + 1) vB (q0 j) := ((x5.grown hg2 (far2 x5 hgo)).grown hg3 (far2 (x5.grown hg2 (far2 x5 hgo)) hho)).later hb4
  have z6 : QI w4 (ob + 1) vA (q0 j) := ((x6.grown hg2 (far2 x6 hgo)).grown hg3 (far2 (x6.grown hg2 (far2 x6 hgo)) hho)).later hb4
  have hl1 := Nat.le_trans (snd_length (doA (s0 j) cg (e0 j))) (doA_length (s0 j) cg (e0 j))
  have hl2 := Nat.le_trans (snd_length (doA (s0 j) ch (e0 j))) (doA_length (s0 j) ch (e0 j))
  obtain ⟨vB', w5, hrun5, hq5, hg5, hv5⟩ := qi_app z5 ho3.rd.1 hz3 (by omega) (by omega)
  rw [← a3] at hq5
  refine ⟨vB', w5, hrun5, ?_⟩
  have hs5 := hg5.size
  obtain ⟨u6, u7, u8⟩ := append_back z6 x8 hg5 hv5
  have hB4 : Below w.heap.size w w4 := hB3.trans (hb4.mono hB3.size)
  have hB5 : Below w.heap.size w w5 := hB4.grown hg5 hB4.size (fun k e => by have := z5.block k e; omega)
  have o5 := (ho2.later hb4).grown hg5 (by
    rcases e : (Value.slice A2 (doA (s0 j) ch (e0 j)).length c2).ownBlock with _ | q
    · exact .inl rfl
    · have h1 := ho2.form.2 q e
      refine .inr (fun e2 => ?_)
      have := x5.block q e2.symm
      omega)
  refine (sends_any A2 _ c2 w5.heap.size _ w5 o5.rd.1 (Nat.le_refl _) (Nat.le_trans (doA_length _ _ _) (by omega)) (hC.keptB hB5 hC.lt)).mono ?_
  rintro e w6 ⟨v4, rfl, ho4, hb6⟩
  obtain ⟨A4, c4, rfl, _, hz4⟩ := ho4.slice
  refine ⟨_, _, _, rfl, ?_⟩
  have hs6 := hb6.size
  have t6 := u6.later hb6
  have t5 := hq5.later hb6
  obtain ⟨vA', w7, hrun7, hq7, hg7, hv7⟩ := qi_app t6 ho4.rd.1 hz4 (by omega) (by omega)
  rw [← b3] at hq7
  refine ⟨vA', w7, hrun7, ?_⟩
  obtain ⟨r5, r7, r8⟩ := append_back t5 u8 hg7 hv7
  have hB6 : Below w.heap.size w w6 := hB5.trans (hb6.mono hB5.size)
  have hB7 : Below w.heap.size w w7 := hB6.grown hg7 hB6.size (fun k e => by have := t6.block k e; omega)
  have keep : ∀ {p t : Nat} {cs : List Value}, Blk w3 p t cs → p ≤ ob → Blk w7 p t cs := by
    intro p t cs hb hp
    have k4 := Blk.below hb hb4 hb.lt
    have k5 := Blk.grown k4 hg5 (fun e => by have := z5.block _ e; omega)
    have k6 := Blk.below k5 hb6 k5.lt
    exact Blk.grown k6 hg7 (fun e => by have := t6.block _ e; omega)
  exact ⟨_, _, keep (Blk.grown ha hg3 (fun e => by injection e; omega)) (by omega), keep ha2 (by omega), doC_bounds hmx (by omega) x3, doC_bounds hmo (by omega) x4, r5, hq7, r7, r8, hB7, keep (Blk.grown (Blk.grown xo hg2 (fun e => by injection e; omega)) hg3 (fun e => by injection e; omega)) (Nat.le_refl _)⟩
end Go.Proofs.YtpkmddagcfjadaaDoor
