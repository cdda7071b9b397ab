/-
  What PolicyTimes and PolicyGives ask of a step, in numbers.
-/
import Derived.Test.YtdjifjlkpimiaaaPoMath
namespace Go.Proofs.Ytdjifjlkpimiaaa
open Go.RowKit
set_option maxHeartbeats 4000000
set_option linter.unusedSimpArgs false
set_option linter.unusedVariables false

/-- what is due, by cases -/
theorem set_cases (x : PoS) (hs : 0 ≤ x.st ∧ x.st ≤ 5) : ∃ z L, poSet x = z ∧ poSetL x = L ∧
    ((x.st = 3 ∧ (x.se ≠ 0 ∧ x.ran + x.se ≤ x.now ∨ x.idl ≠ 0 ∧ x.us + x.idl ≤ x.now) ∧ (∃ y, z = poHang x y) ∧ L = [2]) ∨
     (x.st = 3 ∧ ¬ (x.se ≠ 0 ∧ x.ran + x.se ≤ x.now ∨ x.idl ≠ 0 ∧ x.us + x.idl ≤ x.now) ∧ z = x ∧ L = []) ∨
     (x.st = 1 ∧ x.en + x.ho ≤ x.now ∧ x.wa = true ∧ z = poDial x ∧ L = [1]) ∨
     (x.st = 1 ∧ x.en + x.ho ≤ x.now ∧ x.wa = false ∧ z = { x with st := 0 } ∧ L = []) ∨
     (x.st = 1 ∧ x.now < x.en + x.ho ∧ z = x ∧ L = []) ∨
     (x.st ≠ 1 ∧ x.st ≠ 3 ∧ z = x ∧ L = [])) := by
  refine ⟨_, _, rfl, rfl, ?_⟩
  have s0 : poDue x = 0 → poSet x = x ∧ poSetL x = [] := fun e => by unfold poSet poSetL; rw [e]; exact ⟨rfl, rfl⟩
  have s1 : poDue x = 1 → poSet x = poHang x wySession ∧ poSetL x = [2] := fun e => by unfold poSet poSetL; rw [e]; exact ⟨rfl, rfl⟩
  have s2 : poDue x = 2 → poSet x = poHang x wyIdle ∧ poSetL x = [2] := fun e => by unfold poSet poSetL; rw [e]; exact ⟨rfl, rfl⟩
  have s3 : poDue x = 3 → poSet x = poRel x ∧ poSetL x = poRelL x := fun e => by unfold poSet poSetL; rw [e]; exact ⟨rfl, rfl⟩
  by_cases h3 : x.st = 3
  · have d : poDue x = if x.se ≠ 0 ∧ x.ran + x.se ≤ x.now then 1 else if x.idl ≠ 0 ∧ x.us + x.idl ≤ x.now then 2 else 0 := if_pos h3
    by_cases a : x.se ≠ 0 ∧ x.ran + x.se ≤ x.now
    · have e := s1 (d.trans (if_pos a))
      exact .inl ⟨h3, .inl a, ⟨_, e.1⟩, e.2⟩
    · have d := d.trans (if_neg a)
      by_cases b : x.idl ≠ 0 ∧ x.us + x.idl ≤ x.now
      · have e := s2 (d.trans (if_pos b))
        exact .inl ⟨h3, .inr b, ⟨_, e.1⟩, e.2⟩
      · have e := s0 (d.trans (if_neg b))
        exact .inr (.inl ⟨h3, fun h => h.elim a b, e.1, e.2⟩)
  · have d : poDue x = if x.st = 1 ∧ x.en + x.ho ≤ x.now then 3 else 0 := if_neg h3
    by_cases h1 : x.st = 1
    · by_cases c : x.en + x.ho ≤ x.now
      · have e := s3 (d.trans (if_pos ⟨h1, c⟩))
        cases hw : x.wa with
        | true => exact .inr (.inr (.inl ⟨h1, c, rfl, e.1.trans (by simp [poRel, hw]), e.2.trans (by simp [poRelL, hw])⟩))
        | false => exact .inr (.inr (.inr (.inl ⟨h1, c, rfl, e.1.trans (by simp [poRel, hw]), e.2.trans (by simp [poRelL, hw])⟩)))
      · have e := s0 (d.trans (if_neg (fun h => c h.2)))
        exact .inr (.inr (.inr (.inr (.inl ⟨h1, by omega, e.1, e.2⟩))))
    · have e := s0 (d.trans (if_neg (fun h => h1 h.1)))
      exact .inr (.inr (.inr (.inr (.inr ⟨h1, h3, e.1, e.2⟩))))
/-- the hold of a link that ended -/
theorem held_cases (x : PoS) : (x.ho ≤ 0 ∧ x.wa = true ∧ poSet (poHeld x) = poDial (poHeld x) ∧ poSetL (poHeld x) = [1]) ∨ (x.ho ≤ 0 ∧ x.wa = false ∧ poSet (poHeld x) = { poHeld x with st := 0 } ∧ poSetL (poHeld x) = []) ∨ (0 < x.ho ∧ poSet (poHeld x) = poHeld x ∧ poSetL (poHeld x) = []) := by
  obtain ⟨z, L, e1, e2, h⟩ := set_cases (poHeld x) (by simp [poHeld])
  rw [e1, e2]
  rcases h with ⟨h, _⟩ | ⟨h, _⟩ | ⟨_, h1, h2, h3, h4⟩ | ⟨_, h1, h2, h3, h4⟩ | ⟨_, h1, h3, h4⟩ | ⟨h, _⟩
  · simp [poHeld] at h
  · simp [poHeld] at h
  · exact .inl ⟨by simp only [poHeld] at h1; omega, h2, h3, h4⟩
  · exact .inr (.inl ⟨by simp only [poHeld] at h1; omega, h2, h3, h4⟩)
  · exact .inr (.inr ⟨by simp only [poHeld] at h1; omega, h3, h4⟩)
  · simp [poHeld] at h
def TmJ (x : PoS) (began last ended : Int) : Prop := (x.st = 3 → began = x.ran ∧ last = x.us) ∧ ended ≤ x.now ∧ (0 ≤ ended → (x.st = 0 → ended + x.ho ≤ x.now) ∧ (x.st = 1 ∨ x.st = 5 → ended ≤ x.en))
/-- a call's own step behind what is due -/
theorem tm_do {z : PoS} {k began last ended : Int} (hz : PoOk z) (hJ : TmJ z began last ended) :
    (∀ v ∈ poDoL k z, v = 1 → 0 ≤ ended → z.ho ≤ z.now - ended) ∧
    TmJ (poDo k z) (if k = 4 ∧ (poDo k z).st = 3 ∧ z.st ≠ 3 then z.now else began) (if k = 4 ∧ (poDo k z).st = 3 ∧ z.st ≠ 3 ∨ k = 1 ∧ z.st = 3 then z.now else last) (if k = 5 ∧ 2 ≤ z.st ∧ z.st ≤ 4 then z.now else ended) ∧
    (poDo k z).now = z.now ∧ PoT z (poDo k z) := by
  have hs := hz.st
  have hh := hz.ho
  obtain ⟨j1, j2, j3⟩ := hJ
  have hst : z.st = 0 ∨ z.st = 1 ∨ z.st = 2 ∨ z.st = 3 ∨ z.st = 4 ∨ z.st = 5 := by omega
  have hk : k = 0 ∨ k = 1 ∨ k = 2 ∨ k = 3 ∨ k = 4 ∨ k = 5 ∨ (k ≠ 0 ∧ k ≠ 1 ∧ k ≠ 2 ∧ k ≠ 3 ∧ k ≠ 4 ∧ k ≠ 5) := by omega
  rcases hk with rfl | rfl | rfl | rfl | rfl | rfl | ⟨n0, n1, n2, n3, n4, n5⟩
  · unfold poDo poDoL TmJ PoT
    rcases hst with h | h | h | h | h | h <;> cases hd : z.dem <;> simp [h, hd, poDial] <;> omega
  · unfold poDo poDoL TmJ PoT
    rcases hst with h | h | h | h | h | h <;> cases hd : z.dem <;> simp [h, hd, poDial, poWant, poUse] <;> omega
  · have e2 : poDo 2 z = if z.st = 0 then poDial (poUrge z) else if z.st = 1 ∨ z.st = 4 then poUrge z else if z.st = 5 then poSet (poRev0 z) else z := rfl
    have l2 : poDoL 2 z = if z.st = 0 then [1] else if z.st = 5 then poSetL (poRev0 z) else [] := rfl
    rw [e2, l2]
    unfold TmJ PoT
    rcases hst with h | h | h | h | h | h
    case inr.inr.inr.inr.inr =>
      obtain ⟨y, L, e1, e3, hc⟩ := set_cases (poRev0 z) (by simp [poRev0])
      simp only [h]
      rw [e1, e3]
      rcases hc with ⟨q, _⟩ | ⟨q, _⟩ | ⟨_, q1, q2, rfl, rfl⟩ | ⟨_, q1, q2, rfl, rfl⟩ | ⟨_, q1, rfl, rfl⟩ | ⟨q, _⟩
      · simp [poRev0] at q
      · simp [poRev0] at q
      · simp [poRev0, poDial] at q1 ⊢
        omega
      · simp [poRev0] at q2
      · simp [poRev0] at q1 ⊢
        omega
      · simp [poRev0] at q
    all_goals (simp [h, poDial, poUrge]; try omega)
  · unfold poDo poDoL TmJ PoT
    rcases hst with h | h | h | h | h | h <;> simp [h, poHang, poDrop] <;> omega
  · unfold poDo poDoL TmJ PoT
    rcases hst with h | h | h | h | h | h <;> simp [h, poRun] <;> omega
  · have e2 : poDo 5 z = if z.st = 2 then poMiss z else if z.st = 3 then poLose z else if z.st = 4 then poEnd z else z := rfl
    have l2 : poDoL 5 z = if z.st = 2 then poMissL z else if z.st = 3 then poLoseL z else if z.st = 4 then poEndL z else [] := rfl
    rw [e2, l2]
    unfold TmJ PoT
    rcases hst with h | h | h | h | h | h
    case inr.inr.inl =>
      simp only [h]
      unfold poMiss poMissL
      cases hg : poGive z with
      | true =>
        simp [poOver, poFail]
        try omega
      | false =>
        rcases held_cases (poFail z) with ⟨q1, _, q3, q4⟩ | ⟨q1, _, q3, q4⟩ | ⟨q1, q3, q4⟩
        all_goals
          simp only [Bool.false_eq_true, if_false]
          rw [q3, q4]
          simp [poFail, poHeld, poDial] at q1 ⊢
          try omega
    case inr.inr.inr.inl =>
      simp only [h]
      unfold poLose poLoseL
      rcases held_cases (poLose0 z) with ⟨q1, _, q3, q4⟩ | ⟨q1, _, q3, q4⟩ | ⟨q1, q3, q4⟩
      all_goals
        rw [q3, q4]
        simp [poLose0, poHeld, poDial] at q1 ⊢
        try omega
    case inr.inr.inr.inr.inl =>
      simp only [h]
      unfold poEnd poEndL
      rcases held_cases (poEnd0 z) with ⟨q1, _, q3, q4⟩ | ⟨q1, _, q3, q4⟩ | ⟨q1, q3, q4⟩
      all_goals
        rw [q3, q4]
        simp [poEnd0, poHeld, poDial] at q1 ⊢
        try omega
    all_goals (simp [h]; try omega)
  · unfold poDo poDoL TmJ PoT
    rcases hst with h | h | h | h | h | h <;> simp [h, n0, n1, n2, n3, n4, n5] <;> omega
theorem TmJ.less {y : PoS} {b l e b' l' e' : Int} (h : TmJ y b' l' e') (hb : y.st = 3 → b = b' ∧ l = l') (he : e ≤ e') : TmJ y b l e := by
  obtain ⟨h1, h2, h3⟩ := h
  refine ⟨fun h => ?_, by omega, fun h0 => ?_⟩
  · obtain ⟨e1, e2⟩ := hb h
    obtain ⟨e3, e4⟩ := h1 h
    exact ⟨e1.trans e3, e2.trans e4⟩
  · obtain ⟨h4, h5⟩ := h3 (by omega)
    exact ⟨fun h => by have := h4 h; omega, fun h => by have := h5 h; omega⟩
/-- whether a time is over, as the law has it -/
def overB (se idl t began last : Int) : Bool := decide (0 < se ∧ se ≤ t - began ∨ 0 < idl ∧ idl ≤ t - last)
theorem tm_set {x : PoS} {t began last ended : Int} (ho : PoOk x) (hJ : TmJ x began last ended) (hb : poBad t x = false) :
    TmJ (poSet (poAt x t)) began last ended ∧ (poSet (poAt x t)).now = t ∧ PoT x (poSet (poAt x t)) ∧ (∀ v ∈ poSetL (poAt x t), v = 1 → 0 ≤ ended → x.ho ≤ t - ended) ∧
    (x.st = 3 → overB x.se x.idl t began last = true → poSetL (poAt x t) = [2] ∧ (poSet (poAt x t)).st = 4) ∧
    (x.st = 3 → overB x.se x.idl t began last = false → poSetL (poAt x t) = [] ∧ (poSet (poAt x t)).st = 3) ∧
    (x.st ≠ 3 → (poSet (poAt x t)).st ≠ 3) ∧ (2 ≤ x.st ∧ x.st ≤ 4 → 2 ≤ (poSet (poAt x t)).st ∧ (poSet (poAt x t)).st ≤ 4) := by
  unfold poBad at hb
  have hb2 := of_decide_eq_false hb
  obtain ⟨j1, j2, j3⟩ := hJ
  have hse := ho.se
  have hid := ho.idl
  have hst := ho.st
  have hho := ho.ho
  unfold overB
  obtain ⟨z, L, e1, e2, hc⟩ := set_cases (poAt x t) hst
  rw [e1, e2]
  unfold TmJ PoT
  simp only [decide_eq_true_eq, decide_eq_false_iff_not]
  rcases hc with ⟨q, q1, ⟨y, rfl⟩, rfl⟩ | ⟨q, q1, rfl, rfl⟩ | ⟨q, q1, q2, rfl, rfl⟩ | ⟨q, q1, q2, rfl, rfl⟩ | ⟨q, q1, rfl, rfl⟩ | ⟨q, q1, rfl, rfl⟩
  all_goals
    simp only [poAt] at q q1
    simp [poAt, poHang, poDial, q]
    try omega
theorem head_do {z : PoS} {k : Int} (hz : PoOk z) (h3 : z.st = 3) (h : (poDoL k z).head? = some 2) : k = 3 := by
  unfold poDoL at h
  simp only [h3] at h
  by_cases k0 : k = 0
  · simp [k0] at h
  · by_cases k1 : k = 1
    · simp [k1] at h
    · by_cases k2 : k = 2
      · simp [k2] at h
      · by_cases k3 : k = 3
        · exact k3
        · by_cases k4 : k = 4
          · simp [k4] at h
          · by_cases k5 : k = 5
            · simp only [k5] at h
              unfold poLoseL at h
              rcases held_cases (poLose0 z) with ⟨_, _, _, e⟩ | ⟨_, _, _, e⟩ | ⟨_, _, e⟩ <;> rw [e] at h <;> simp at h
            · simp [k0, k1, k2, k3, k4, k5] at h
theorem do_ends {z : PoS} {k : Int} (h4 : z.st = 4) : (poDo k z).st ≠ 3 := by
  unfold poDo
  simp only [h4]
  have hh : (poEnd z).st ≠ 3 := by
    unfold poEnd
    rcases held_cases (poEnd0 z) with ⟨_, _, e, _⟩ | ⟨_, _, e, _⟩ | ⟨_, e, _⟩ <;> rw [e] <;> simp [poDial, poHeld]
  repeat' split
  all_goals first | exact hh | simp_all [poDial, poWant, poUrge, poDrop, poHang, poUse]
/-- what PolicyTimes asks of a step -/
theorem tm_step {x : PoS} {k t began last ended : Int} (ho : PoOk x) (hJ : TmJ x began last ended) (hb : poBad t x = false) :
    (x.st = 3 → overB x.se x.idl t began last = true → (poStepL k t x).head? = some 2 ∧ (poStep k t x).st ≠ 3) ∧
    (x.st = 3 → overB x.se x.idl t began last = false → (poStepL k t x).head? = some 2 → k = 3) ∧
    (∀ v ∈ poStepL k t x, v = 1 → 0 ≤ ended → x.ho ≤ t - ended) ∧
    TmJ (poStep k t x) (if k = 4 ∧ x.st ≠ 3 ∧ (poStep k t x).st = 3 then t else began) (if k = 4 ∧ x.st ≠ 3 ∧ (poStep k t x).st = 3 then t else if k = 1 ∧ x.st = 3 then t else last) (if k = 5 ∧ 2 ≤ x.st ∧ x.st ≤ 4 then t else ended) ∧
    (poStep k t x).now = t ∧ PoT x (poStep k t x) := by
  obtain ⟨s1, s2, s3, s4, s5, s6, s7, s8⟩ := tm_set ho hJ hb
  have hb2 := of_decide_eq_false hb
  have hz : PoOk (poSet (poAt x t)) := poSet_ok (poAt_ok ho (by omega) (by omega))
  unfold poStep poStepL
  have hj2 := hJ.2.1
  generalize poSet (poAt x t) = z at *
  generalize poSetL (poAt x t) = L at *
  obtain ⟨d1, d2, d3, d4⟩ := tm_do (k := k) hz s1
  rw [s2] at d1 d2 d3
  have hzho : z.ho = x.ho := s3.2.2.1
  rw [hzho] at d1
  refine ⟨fun h3 hov => ?_, fun h3 hov hh => ?_, fun v hv h1 h0 => ?_, ?_, d3, ?_⟩
  · obtain ⟨e1, e2⟩ := s5 h3 hov
    rw [e1]
    exact ⟨rfl, do_ends e2⟩
  · obtain ⟨e1, e2⟩ := s6 h3 hov
    rw [e1, List.nil_append] at hh
    exact head_do hz e2 hh
  · rcases List.mem_append.1 hv with h | h
    · exact s4 v h h1 h0
    · exact d1 v h h1 h0
  · refine d2.less (fun hy => ?_) ?_
    · by_cases hx : x.st = 3
      · by_cases hz3 : z.st = 3
        · simp [hx, hz3]
        · exfalso
          cases hov : overB x.se x.idl t began last with
          | true => exact do_ends (s5 hx hov).2 hy
          | false => exact hz3 (s6 hx hov).2
      · have hz3 := s7 hx
        simp [hx, hz3, hy]
    · by_cases hk : k = 5 ∧ 2 ≤ x.st ∧ x.st ≤ 4
      · rw [if_pos hk, if_pos ⟨hk.1, s8 hk.2⟩]
        exact Int.le_refl _
      · rw [if_neg hk]
        split <;> omega
  · obtain ⟨a1, a2, a3, a4, a5, a6⟩ := s3
    obtain ⟨b1, b2, b3, b4, b5, b6⟩ := d4
    exact ⟨b1.trans a1, b2.trans a2, b3.trans a3, b4.trans a4, b5.trans a5, b6.trans a6⟩
end Go.Proofs.Ytdjifjlkpimiaaa
