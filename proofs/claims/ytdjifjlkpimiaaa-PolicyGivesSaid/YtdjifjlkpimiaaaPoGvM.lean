/-
  What PolicyGives asks of a step, in numbers.
-/
import Derived.Test.YtdjifjlkpimiaaaPoTmM
namespace Go.Proofs.Ytdjifjlkpimiaaa
open Go.RowKit
set_option maxHeartbeats 4000000
set_option linter.unusedSimpArgs false
set_option linter.unusedVariables false

/-- what the law holds in its loop over an answer: where it is, asked, ran -/
abbrev GvT := Int × Bool × Bool
def gvS (kd : Int) (s : GvT) (v : Int) : GvT := if v = 2 then (4, decide (kd = 1 ∨ kd = 2), s.2.2) else (2, s.2.1, false)
def gvOk (kd : Int) (dem per : Bool) (s : GvT) (v : Int) : Prop :=
  (v = 2 ∧ (s.1 = 2 ∨ s.1 = 3)) ∨ (v = 1 ∧ (kd ≠ 5 → s.1 = 0 ∨ s.1 = 1 ∨ s.1 = 5) ∧ (kd = 5 → s.1 ≠ 0 ∧ s.1 ≠ 5) ∧ (dem = true → per = false → s.2.2 = true → s.2.1 = true))
def gvF (kd : Int) (s : GvT) (l : List Int) : GvT := l.foldl (gvS kd) s
def gvA (kd : Int) (dem per : Bool) : GvT → List Int → Prop
  | _, [] => True
  | s, v :: r => gvOk kd dem per s v ∧ gvA kd dem per (gvS kd s v) r
theorem gvA_app {kd : Int} {dem per : Bool} : ∀ (l m : List Int) (s : GvT), gvA kd dem per s l → gvA kd dem per (gvF kd s l) m → gvA kd dem per s (l ++ m)
  | [], m, s, _, h => h
  | v :: r, m, s, h, k => ⟨h.1, gvA_app r m _ h.2 k⟩
theorem gvA_at {kd : Int} {dem per : Bool} : ∀ (l : List Int) (s : GvT) (j : Nat), gvA kd dem per s l → j < l.length → gvOk kd dem per (gvF kd s (l.take j)) (numAt l j)
  | [], s, j, _, h => by simp at h
  | v :: r, s, 0, h, _ => h.1
  | v :: r, s, j + 1, h, hj => by
    have := gvA_at r (gvS kd s v) j h.2 (by simpa using hj)
    simpa [numAt, gvF] using this
theorem gvF_step {kd : Int} (s : GvT) (l : List Int) (j : Nat) (hj : j < l.length) : gvF kd s (l.take (j + 1)) = gvS kd (gvF kd s (l.take j)) (numAt l j) := by
  unfold gvF
  rw [List.take_succ_eq_append_getElem hj, List.foldl_append, numAt_eq hj]
  rfl
structure GvM (kd : Int) (z : PoS) (at' : Int) (asked ran : Bool) : Prop where
  at_ : at' = z.st ∨ (at' = 1 ∧ z.st = 0)
  ran_ : z.st = 2 → ran = false
  wa_ : z.dem = true → z.per = false → ran = true → z.st ≠ 2 → z.st ≠ 3 → z.wa = true → asked = true
  ask_ : kd = 1 ∨ kd = 2 → asked = true
structure GvN (z : PoS) (asked ran : Bool) : Prop where
  ran_ : z.st = 2 → ran = false
  wa_ : z.dem = true → z.per = false → ran = true → z.st ≠ 2 → z.st ≠ 3 → z.wa = true → asked = true
structure GvC (z : PoS) (failed : Int) : Prop where
  lo : 0 ≤ failed
  fa : failed ≤ z.fa
  mf : 0 < z.mf → z.st ≠ 5 → failed < z.mf
theorem gv_due {x : PoS} {kd : Int} {asked ran : Bool} {failed : Int} (hs : 0 ≤ x.st ∧ x.st ≤ 5) (h : GvM kd x x.st asked ran) (hf : GvC x failed) :
    gvA kd x.dem x.per (x.st, asked, ran) (poSetL x) ∧ GvM kd (poSet x) (gvF kd (x.st, asked, ran) (poSetL x)).1 (gvF kd (x.st, asked, ran) (poSetL x)).2.1 (gvF kd (x.st, asked, ran) (poSetL x)).2.2 ∧ GvC (poSet x) failed ∧
    ((poSet x).st = 2 ∨ x.st ≠ 2) ∧ PoT x (poSet x) := by
  obtain ⟨a1, a2, a3, a4⟩ := h
  obtain ⟨f1, f2, f3⟩ := hf
  obtain ⟨z, L, e1, e2, hc⟩ := set_cases x hs
  rw [e1, e2]
  unfold PoT
  rcases hc with ⟨q, q1, ⟨y, rfl⟩, rfl⟩ | ⟨q, q1, rfl, rfl⟩ | ⟨q, q1, q2, rfl, rfl⟩ | ⟨q, q1, q2, rfl, rfl⟩ | ⟨q, q1, rfl, rfl⟩ | ⟨q, q1, rfl, rfl⟩
  · refine ⟨⟨.inl ⟨rfl, .inr q⟩, trivial⟩, ⟨.inl rfl, fun h => by simp [poHang] at h, fun _ _ _ _ _ h => by simp [poHang] at h, fun h => by simpa [gvF, gvS] using h⟩, ⟨f1, f2, fun h _ => f3 h (by omega)⟩, .inr (by omega), rfl, rfl, rfl, rfl, rfl, rfl⟩
  · exact ⟨trivial, ⟨.inl rfl, a2, a3, a4⟩, ⟨f1, f2, f3⟩, .inr (by omega), rfl, rfl, rfl, rfl, rfl, rfl⟩
  · refine ⟨⟨.inr ⟨rfl, fun _ => .inr (.inl q), fun _ => ⟨by simp only; omega, by simp only; omega⟩, fun h1 h2 h3 => a3 h1 h2 h3 (by omega) (by omega) q2⟩, trivial⟩, ⟨.inl rfl, fun _ => rfl, fun _ _ _ h => absurd rfl h, a4⟩, ⟨f1, f2, fun h _ => f3 h (by omega)⟩, .inl rfl, rfl, rfl, rfl, rfl, rfl, rfl⟩
  · refine ⟨trivial, ⟨.inr ⟨q, rfl⟩, fun h => by simp at h, fun h1 h2 h3 _ _ h => a3 h1 h2 h3 (by omega) (by omega) h, a4⟩, ⟨f1, f2, fun h _ => f3 h (by omega)⟩, .inr (by omega), rfl, rfl, rfl, rfl, rfl, rfl⟩
  · exact ⟨trivial, ⟨.inl rfl, a2, a3, a4⟩, ⟨f1, f2, f3⟩, .inr (by omega), rfl, rfl, rfl, rfl, rfl, rfl⟩
  · refine ⟨trivial, ⟨.inl rfl, a2, a3, a4⟩, ⟨f1, f2, f3⟩, Classical.em _, rfl, rfl, rfl, rfl, rfl, rfl⟩
/-- the hold of a link that ended, as the law sees it -/
theorem gv_held {u : PoS} {s : GvT} (hs : s.1 = 2 ∨ s.1 = 3 ∨ s.1 = 4) (hd : u.dem = true → u.per = false → s.2.2 = true → u.wa = true → s.2.1 = true) :
    gvA 5 u.dem u.per s (poSetL (poHeld u)) ∧ GvN (poSet (poHeld u)) (gvF 5 s (poSetL (poHeld u))).2.1 (gvF 5 s (poSetL (poHeld u))).2.2 ∧ (poSet (poHeld u)).fa = u.fa ∧ (poSet (poHeld u)).mf = u.mf ∧ PoT u (poSet (poHeld u)) := by
  unfold PoT
  rcases held_cases u with ⟨q1, q2, q3, q4⟩ | ⟨q1, q2, q3, q4⟩ | ⟨q1, q3, q4⟩
  all_goals rw [q3, q4]
  · exact ⟨⟨.inr ⟨rfl, fun h => absurd rfl h, fun _ => ⟨by omega, by omega⟩, fun h1 h2 h3 => hd h1 h2 h3 q2⟩, trivial⟩, ⟨fun _ => rfl, fun _ _ _ h => absurd rfl h⟩, rfl, rfl, rfl, rfl, rfl, rfl, rfl, rfl⟩
  · exact ⟨trivial, ⟨fun h => by simp at h, fun _ _ _ _ _ h => by simp [poHeld, q2] at h⟩, rfl, rfl, rfl, rfl, rfl, rfl, rfl, rfl⟩
  · exact ⟨trivial, ⟨fun h => by simp [poHeld] at h, fun h1 h2 h3 _ _ h => hd h1 h2 h3 h⟩, rfl, rfl, rfl, rfl, rfl, rfl, rfl, rfl⟩
theorem gv_do {z : PoS} {kd : Int} {s : GvT} {failed : Int} (hz : PoOk z) (h : GvM kd z s.1 s.2.1 s.2.2) (hf : GvC z failed) (hk2 : kd = 2 → failed = 0) (hbig : failed < 1000000) :
    gvA kd z.dem z.per s (poDoL kd z) ∧ GvN (poDo kd z) (gvF kd s (poDoL kd z)).2.1 (gvF kd s (poDoL kd z)).2.2 ∧
    GvC (poDo kd z) (if (poDo kd z).st = 3 then 0 else if kd = 5 ∧ z.st = 2 then failed + 1 else failed) ∧
    (kd = 5 → z.st = 2 → 0 < z.mf → failed + 1 ≤ z.mf ∧ (failed + 1 = z.mf → (poDo kd z).st = 5)) ∧ PoT z (poDo kd z) := by
  have hs := hz.st
  have hfa := hz.fa
  have hmf := hz.mf
  obtain ⟨a1, a2, a3, a4⟩ := h
  obtain ⟨f1, f2, f3⟩ := hf
  have hst : z.st = 0 ∨ z.st = 1 ∨ z.st = 2 ∨ z.st = 3 ∨ z.st = 4 ∨ z.st = 5 := by omega
  have hk : kd = 0 ∨ kd = 1 ∨ kd = 2 ∨ kd = 3 ∨ kd = 4 ∨ kd = 5 ∨ (kd ≠ 0 ∧ kd ≠ 1 ∧ kd ≠ 2 ∧ kd ≠ 3 ∧ kd ≠ 4 ∧ kd ≠ 5) := by omega
  rcases hk with rfl | rfl | rfl | rfl | rfl | rfl | ⟨n0, n1, n2, n3, n4, n5⟩
  · -- Start
    have nb : ¬ ((0 : Int) = 5 ∧ z.st = 2) := by omega
    by_cases hq : z.st = 0 ∧ z.dem = false
    · have e1 : poDo 0 z = poDial z := by simp [poDo, hq]
      have e2 : poDoL 0 z = [1] := by simp [poDoL, hq]
      rw [e1, e2]
      refine ⟨⟨.inr ⟨rfl, fun _ => by omega, fun h => by omega, fun h => by rw [hq.2] at h; cases h⟩, trivial⟩, ⟨fun _ => rfl, fun _ _ _ h => absurd rfl h⟩, ?_, fun h => by omega, rfl, rfl, rfl, rfl, rfl, rfl⟩
      rw [if_neg nb]
      exact ⟨by split <;> omega, by show _ ≤ z.fa; split <;> omega, fun h _ => by have := f3 h (by omega); show _ < z.mf; split <;> omega⟩
    · have e1 : poDo 0 z = z := by simp [poDo, hq]
      have e2 : poDoL 0 z = [] := by simp [poDoL, hq]
      rw [e1, e2]
      refine ⟨trivial, ⟨a2, a3⟩, ?_, fun h => by omega, rfl, rfl, rfl, rfl, rfl, rfl⟩
      rw [if_neg nb]
      exact ⟨by split <;> omega, by split <;> omega, fun h h' => by have := f3 h h'; split <;> omega⟩
  · -- Packet
    have nb : ¬ ((1 : Int) = 5 ∧ z.st = 2) := by omega
    have hA := a4 (.inl rfl)
    by_cases hq : z.st = 0 ∧ z.dem = true
    · have e1 : poDo 1 z = poDial z := by simp [poDo, hq]
      have e2 : poDoL 1 z = [1] := by simp [poDoL, hq]
      rw [e1, e2]
      refine ⟨⟨.inr ⟨rfl, fun _ => by omega, fun h => by omega, fun _ _ _ => hA⟩, trivial⟩, ⟨fun _ => rfl, fun _ _ _ h => absurd rfl h⟩, ?_, fun h => by omega, rfl, rfl, rfl, rfl, rfl, rfl⟩
      rw [if_neg nb]
      exact ⟨by split <;> omega, by show _ ≤ z.fa; split <;> omega, fun h _ => by have := f3 h (by omega); show _ < z.mf; split <;> omega⟩
    · have e2 : poDoL 1 z = [] := by simp [poDoL, hq]
      have e1 : (poDo 1 z).st = z.st ∧ (poDo 1 z).fa = z.fa ∧ (poDo 1 z).mf = z.mf ∧ PoT z (poDo 1 z) := by
        unfold poDo PoT
        simp only [hq]
        by_cases q1 : (z.st = 1 ∨ z.st = 4) ∧ z.dem = true
        · simp [q1, poWant]
        · by_cases q2 : z.st = 3
          · simp [q2, poUse]
          · simp [q1, q2]
      obtain ⟨x1, x2, x3, x4⟩ := e1
      rw [e2]
      refine ⟨trivial, ⟨fun h => a2 (by rw [← x1]; exact h), fun _ _ _ _ _ _ => hA⟩, ?_, fun h => by omega, x4⟩
      rw [if_neg nb]
      exact ⟨by split <;> omega, by rw [x2]; split <;> omega, fun h h' => by have := f3 (by rw [← x3]; exact h) (by rw [← x1]; exact h'); rw [x3]; split <;> omega⟩
  · -- Up
    have nb : ¬ ((2 : Int) = 5 ∧ z.st = 2) := by omega
    have hA := a4 (.inr rfl)
    have h0 := hk2 rfl
    subst h0
    have e0 : (if (poDo 2 z).st = 3 then (0 : Int) else if (2 : Int) = 5 ∧ z.st = 2 then 0 + 1 else 0) = 0 := by rw [if_neg nb]; split <;> rfl
    rw [e0]
    have e2 : poDo 2 z = if z.st = 0 then poDial (poUrge z) else if z.st = 1 ∨ z.st = 4 then poUrge z else if z.st = 5 then poSet (poRev0 z) else z := rfl
    have l2 : poDoL 2 z = if z.st = 0 then [1] else if z.st = 5 then poSetL (poRev0 z) else [] := rfl
    rw [e2, l2]
    rcases hst with h | h | h | h | h | h
    case inr.inr.inr.inr.inr =>
      obtain ⟨y, L, e1, e3, hc⟩ := set_cases (poRev0 z) (by simp [poRev0])
      simp only [h]
      rw [e1, e3]
      rcases hc with ⟨q, _⟩ | ⟨q, _⟩ | ⟨_, q1, q2, rfl, rfl⟩ | ⟨_, q1, q2, rfl, rfl⟩ | ⟨_, q1, rfl, rfl⟩ | ⟨q, _⟩
      · simp [poRev0] at q
      · simp [poRev0] at q
      · exact ⟨⟨.inr ⟨rfl, fun _ => by omega, fun h => by omega, fun _ _ _ => hA⟩, trivial⟩, ⟨fun _ => rfl, fun _ _ _ h => absurd rfl h⟩, ⟨by omega, by simp [poDial, poRev0], fun h _ => h⟩, fun h => by omega, rfl, rfl, rfl, rfl, rfl, rfl⟩
      · simp [poRev0] at q2
      · exact ⟨trivial, ⟨fun h => by simp [poRev0] at h, fun _ _ _ _ _ _ => hA⟩, ⟨by omega, by simp [poRev0], fun h _ => h⟩, fun h => by omega, rfl, rfl, rfl, rfl, rfl, rfl⟩
      · simp [poRev0] at q
    case inl =>
      simp only [h]
      exact ⟨⟨.inr ⟨rfl, fun _ => by omega, fun h => by omega, fun _ _ _ => hA⟩, trivial⟩, ⟨fun _ => rfl, fun _ _ _ h => absurd rfl h⟩, ⟨by omega, by simp [poDial, poUrge], fun h _ => h⟩, fun h => by omega, rfl, rfl, rfl, rfl, rfl, rfl⟩
    case inr.inl =>
      simp only [h]
      exact ⟨trivial, ⟨fun h' => by simp [poUrge, h] at h', fun _ _ _ _ _ _ => hA⟩, ⟨by omega, by simp [poUrge], fun h _ => h⟩, fun h => by omega, rfl, rfl, rfl, rfl, rfl, rfl⟩
    case inr.inr.inr.inr.inl =>
      simp only [h]
      exact ⟨trivial, ⟨fun h' => by simp [poUrge, h] at h', fun _ _ _ _ _ _ => hA⟩, ⟨by omega, by simp [poUrge], fun h _ => h⟩, fun h => by omega, rfl, rfl, rfl, rfl, rfl, rfl⟩
    case inr.inr.inl =>
      have e3 : (if z.st = 0 then poDial (poUrge z) else if z.st = 1 ∨ z.st = 4 then poUrge z else if z.st = 5 then poSet (poRev0 z) else z) = z := by simp [h]
      have e4 : (if z.st = 0 then [1] else if z.st = 5 then poSetL (poRev0 z) else []) = [] := by simp [h]
      rw [e3, e4]
      exact ⟨trivial, ⟨a2, a3⟩, ⟨f1, f2, f3⟩, fun h => by omega, rfl, rfl, rfl, rfl, rfl, rfl⟩
    case inr.inr.inr.inl =>
      have e3 : (if z.st = 0 then poDial (poUrge z) else if z.st = 1 ∨ z.st = 4 then poUrge z else if z.st = 5 then poSet (poRev0 z) else z) = z := by simp [h]
      have e4 : (if z.st = 0 then [1] else if z.st = 5 then poSetL (poRev0 z) else []) = [] := by simp [h]
      rw [e3, e4]
      exact ⟨trivial, ⟨a2, a3⟩, ⟨f1, f2, f3⟩, fun h => by omega, rfl, rfl, rfl, rfl, rfl, rfl⟩
  · -- Down
    have nb : ¬ ((3 : Int) = 5 ∧ z.st = 2) := by omega
    by_cases hq : z.st = 2 ∨ z.st = 3
    · have e1 : poDo 3 z = poHang z wyDown := by simp [poDo, hq]
      have e2 : poDoL 3 z = [2] := by simp [poDoL, hq]
      rw [e1, e2]
      refine ⟨⟨.inl ⟨rfl, by omega⟩, trivial⟩, ⟨fun h => by simp [poHang] at h, fun _ _ _ _ _ h => by simp [poHang] at h⟩, ?_, fun h => by omega, rfl, rfl, rfl, rfl, rfl, rfl⟩
      rw [if_neg nb]
      exact ⟨by split <;> omega, by show _ ≤ z.fa; split <;> omega, fun h _ => by have := f3 h (by omega); show _ < z.mf; split <;> omega⟩
    · have e1 : poDo 3 z = poDrop z := by simp [poDo, hq]
      have e2 : poDoL 3 z = [] := by simp [poDoL, hq]
      rw [e1, e2]
      refine ⟨trivial, ⟨a2, fun _ _ _ _ _ h => by simp [poDrop] at h⟩, ?_, fun h => by omega, rfl, rfl, rfl, rfl, rfl, rfl⟩
      rw [if_neg nb]
      exact ⟨by split <;> omega, by show _ ≤ z.fa; split <;> omega, fun h h' => by have := f3 h h'; show _ < z.mf; split <;> omega⟩
  · -- LinkUp
    have nb : ¬ ((4 : Int) = 5 ∧ z.st = 2) := by omega
    have e2 : poDoL 4 z = [] := by simp [poDoL]
    by_cases hq : z.st = 2
    · have e1 : poDo 4 z = poRun z := by simp [poDo, hq]
      rw [e1, e2]
      refine ⟨trivial, ⟨fun h => by simp [poRun] at h, fun _ _ _ _ h => absurd rfl h⟩, ?_, fun h => by omega, rfl, rfl, rfl, rfl, rfl, rfl⟩
      have e3 : (poRun z).st = 3 := rfl
      rw [if_pos e3]
      exact ⟨by omega, by simp [poRun], fun h _ => h⟩
    · have e1 : poDo 4 z = z := by simp [poDo, hq]
      rw [e1, e2]
      refine ⟨trivial, ⟨a2, a3⟩, ?_, fun h => by omega, rfl, rfl, rfl, rfl, rfl, rfl⟩
      rw [if_neg nb]
      exact ⟨by split <;> omega, by split <;> omega, fun h h' => by have := f3 h h'; split <;> omega⟩
  · -- LinkDown
    rcases hst with h | h | h | h | h | h
    case inr.inr.inl =>
      have h2 := a2 h
      have e1 : poDo 5 z = poMiss z := by simp [poDo, h]
      have e2 : poDoL 5 z = poMissL z := by simp [poDoL, h]
      have pb : (5 : Int) = 5 ∧ z.st = 2 := ⟨rfl, h⟩
      rw [e1, e2, if_pos pb]
      unfold poMiss poMissL
      have hgf : (poFail z).fa = if z.fa + 1 < 2147483647 then z.fa + 1 else 2147483647 := rfl
      have hff : failed + 1 ≤ (poFail z).fa := by rw [hgf]; split <;> omega
      cases hg : poGive z with
      | true =>
        have hg2 := of_decide_eq_true hg
        simp only [if_true]
        refine ⟨trivial, ⟨fun h => by simp [poOver] at h, fun _ _ _ _ _ h => by simp [poOver] at h⟩, ?_, fun _ _ hm => ⟨by have := f3 hm (by omega); omega, fun _ => rfl⟩, rfl, rfl, rfl, rfl, rfl, rfl⟩
        rw [if_neg (by simp [poOver])]
        exact ⟨by omega, hff, fun _ h => absurd rfl h⟩
      | false =>
        have hg2 := of_decide_eq_false hg
        simp only [Bool.false_eq_true, if_false]
        obtain ⟨b1, b2, b3, b4, b5⟩ := gv_held (u := poFail z) (s := s) (by omega) (fun _ _ h3 => by rw [h2] at h3; cases h3)
        have hlt : 0 < z.mf → failed + 1 < z.mf := fun hm => by
          have := f3 hm (by omega)
          rcases Int.lt_or_le (failed + 1) z.mf with h | h
          · exact h
          · exact absurd ⟨by omega, by omega⟩ hg2
        have b4' : (poSet (poHeld (poFail z))).mf = z.mf := b4
        refine ⟨b1, b2, ⟨by split <;> omega, by rw [b3]; split <;> omega, fun hm _ => by rw [b4'] at hm ⊢; have := hlt hm; split <;> omega⟩, fun _ _ hm => ⟨by have := hlt hm; omega, fun e => by have := hlt hm; omega⟩, b5⟩
    case inr.inr.inr.inl =>
      have e1 : poDo 5 z = poLose z := by simp [poDo, h]
      have e2 : poDoL 5 z = poLoseL z := by simp [poDoL, h]
      have nb : ¬ ((5 : Int) = 5 ∧ z.st = 2) := by omega
      rw [e1, e2, if_neg nb]
      unfold poLose poLoseL
      obtain ⟨b1, b2, b3, b4, b5⟩ := gv_held (u := poLose0 z) (s := s) (by omega) (fun _ hp _ hw => by
        have e : z.per = true := hw
        have e' : z.per = false := hp
        rw [e] at e'; cases e')
      have b3' : (poSet (poHeld (poLose0 z))).fa = z.fa := b3
      have b4' : (poSet (poHeld (poLose0 z))).mf = z.mf := b4
      exact ⟨b1, b2, ⟨by split <;> omega, by rw [b3']; split <;> omega, fun hm _ => by rw [b4'] at hm ⊢; have := f3 hm (by omega); split <;> omega⟩, fun _ h => by omega, b5⟩
    case inr.inr.inr.inr.inl =>
      have e1 : poDo 5 z = poEnd z := by simp [poDo, h]
      have e2 : poDoL 5 z = poEndL z := by simp [poDoL, h]
      have nb : ¬ ((5 : Int) = 5 ∧ z.st = 2) := by omega
      rw [e1, e2, if_neg nb]
      unfold poEnd poEndL
      obtain ⟨b1, b2, b3, b4, b5⟩ := gv_held (u := poEnd0 z) (s := s) (by omega) (fun hd hp hr hw => by
        have hp' : z.per = false := hp
        have e : (z.wa || (z.per && !isDown z.wy)) = true := hw
        rw [hp', Bool.false_and, Bool.or_false] at e
        exact a3 hd hp' hr (by omega) (by omega) e)
      have b3' : (poSet (poHeld (poEnd0 z))).fa = z.fa := b3
      have b4' : (poSet (poHeld (poEnd0 z))).mf = z.mf := b4
      exact ⟨b1, b2, ⟨by split <;> omega, by rw [b3']; split <;> omega, fun hm _ => by rw [b4'] at hm ⊢; have := f3 hm (by omega); split <;> omega⟩, fun _ h => by omega, b5⟩
    all_goals
      have e1 : poDo 5 z = z := by simp [poDo, h]
      have e2 : poDoL 5 z = [] := by simp [poDoL, h]
      have nb : ¬ ((5 : Int) = 5 ∧ z.st = 2) := by omega
      rw [e1, e2, if_neg nb]
      exact ⟨trivial, ⟨a2, a3⟩, ⟨by split <;> omega, by split <;> omega, fun hm hn => by have := f3 hm hn; split <;> omega⟩, fun _ h => by omega, rfl, rfl, rfl, rfl, rfl, rfl⟩
  · -- nothing
    have e1 : poDo kd z = z := by simp [poDo, n0, n1, n2, n3, n4, n5]
    have e2 : poDoL kd z = [] := by simp [poDoL, n0, n1, n2, n3, n4, n5]
    rw [e1, e2, if_neg (fun h => n5 h.1 : ¬ (kd = 5 ∧ z.st = 2))]
    exact ⟨trivial, ⟨a2, a3⟩, ⟨by split <;> omega, by split <;> omega, fun h h' => by have := f3 h h'; split <;> omega⟩, fun h => absurd h n5, rfl, rfl, rfl, rfl, rfl, rfl⟩
/-- the law's numbers between two calls -/
structure GvJ (x : PoS) (failed : Int) (asked ran : Bool) : Prop where
  n : GvN x asked ran
  c : GvC x failed
/-- what PolicyGives asks of a step -/
theorem gv_step {x : PoS} {kd t failed : Int} {asked ran : Bool} (ho : PoOk x) (hb : poBad t x = false) (h : GvJ x failed asked ran) (hbig : failed < 1000000) {asked0 : Bool} (ha : asked0 = ((if kd = 5 ∧ x.st = 3 then false else asked) || decide (kd = 1 ∨ kd = 2))) {failed1 : Int} (hf : failed1 = if kd = 2 then 0 else failed) :
    gvA kd x.dem x.per (x.st, asked0, ran) (poStepL kd t x) ∧
    (kd = 5 → x.st = 2 → 0 < x.mf → failed1 + 1 ≤ x.mf ∧ (failed1 + 1 = x.mf → (poStep kd t x).st = 5)) ∧
    GvJ (poStep kd t x) (if (poStep kd t x).st = 3 then 0 else if kd = 5 ∧ x.st = 2 then failed1 + 1 else failed1) (gvF kd (x.st, asked0, ran) (poStepL kd t x)).2.1 (if (poStep kd t x).st = 3 then true else (gvF kd (x.st, asked0, ran) (poStepL kd t x)).2.2) ∧
    PoT x (poStep kd t x) := by
  have hb2 := of_decide_eq_false hb
  have hA : PoOk (poAt x t) := poAt_ok ho (by omega) (by omega)
  obtain ⟨⟨n1, n2⟩, c1, c2, c3⟩ := h
  have hM : GvM kd (poAt x t) (poAt x t).st asked0 ran := by
    refine ⟨.inl rfl, n1, fun d p r s2 s3 w => ?_, fun hk => by rw [ha, decide_eq_true hk, Bool.or_true]⟩
    have s3' : x.st ≠ 3 := s3
    rw [ha, if_neg (fun h => s3' h.2), n2 d p r s2 s3 w, Bool.true_or]
  have hC : GvC (poAt x t) failed1 := by
    rw [hf]
    exact ⟨by split <;> omega, by show _ ≤ x.fa; have := ho.fa; split <;> omega, fun hm hn => by have := c3 hm hn; show _ < x.mf; have hm' : 0 < x.mf := hm; split <;> omega⟩
  obtain ⟨u1, u2, u3, u4, u5⟩ := gv_due hA.st hM hC
  have hz := poSet_ok hA
  have hd : (poSet (poAt x t)).dem = x.dem := u5.1
  have hp : (poSet (poAt x t)).per = x.per := u5.2.1
  have hm : (poSet (poAt x t)).mf = x.mf := u5.2.2.2.2.2
  obtain ⟨v1, v2, v3, v4, v5⟩ := gv_do (kd := kd) (s := gvF kd (x.st, asked0, ran) (poSetL (poAt x t))) hz u2 u3 (fun hk => by rw [hf, if_pos hk]) (by rw [hf]; split <;> omega)
  rw [hd, hp] at v1
  rw [hm] at v4
  have eF : gvF kd (x.st, asked0, ran) (poStepL kd t x) = gvF kd (gvF kd (x.st, asked0, ran) (poSetL (poAt x t))) (poDoL kd (poSet (poAt x t))) := by
    unfold gvF poStepL
    rw [List.foldl_append]
  rw [eF]
  refine ⟨gvA_app _ _ _ u1 v1, fun hk hs => ?_, ⟨⟨fun h => ?_, fun d p r s2 s3 w => ?_⟩, ?_⟩, ?_⟩
  · have hs' : (poSet (poAt x t)).st = 2 := u4.elim id (fun h => absurd hs h)
    exact v4 hk hs'
  · have h' : (poDo kd (poSet (poAt x t))).st = 2 := h
    have h2 : (poStep kd t x).st = 2 := h
    rw [if_neg (by omega)]
    exact v2.ran_ h'
  · have s3' : (poStep kd t x).st ≠ 3 := s3
    rw [if_neg s3'] at r
    exact v2.wa_ d p r s2 s3 w
  · by_cases h3 : (poStep kd t x).st = 3
    · rw [if_pos h3]
      have h3' : (poDo kd (poSet (poAt x t))).st = 3 := h3
      rw [if_pos h3'] at v3
      exact v3
    · rw [if_neg h3]
      have h3' : ¬ (poDo kd (poSet (poAt x t))).st = 3 := h3
      rw [if_neg h3'] at v3
      by_cases hk : kd = 5 ∧ x.st = 2
      · rw [if_pos hk]
        have hs' : (poSet (poAt x t)).st = 2 := u4.elim id (fun h => absurd hk.2 h)
        rw [if_pos ⟨hk.1, hs'⟩] at v3
        exact v3
      · rw [if_neg hk]
        obtain ⟨w1, w2, w3⟩ := v3
        refine ⟨u3.lo, ?_, fun hm hn => ?_⟩
        · show failed1 ≤ (poDo kd (poSet (poAt x t))).fa
          split at w2 <;> omega
        · have := w3 hm hn
          show failed1 < (poDo kd (poSet (poAt x t))).mf
          split at this <;> omega
  · obtain ⟨a1, a2, a3, a4, a5, a6⟩ := u5
    obtain ⟨b1, b2, b3, b4, b5, b6⟩ := v5
    exact ⟨b1.trans a1, b2.trans a2, b3.trans a3, b4.trans a4, b5.trans a5, b6.trans a6⟩
end Go.Proofs.Ytdjifjlkpimiaaa
