/-
  LcpFits: what a judgement is, told option by option.
-/
import Derived.Test.YtonbdcajepmgbaaLcGiven
import Derived.Test.YtonbdcajepmgbaaLcJudge
namespace Go.Proofs.Ytonbdcajepmgbaa
open Go.RowKit
set_option maxRecDepth 100000
set_option maxHeartbeats 1000000
set_option linter.unusedSimpArgs false
set_option linter.unusedVariables false

/-- where a type stands first -/
def PlaceAt (s : List Opt) (K : Int) (p : Nat) : Prop := (kinds s)[p]? = some K ∧ ∀ j, j < p → (kinds s)[j]? ≠ some K
def NakI (s : List Opt) (k : Nat) (N : List Opt) : Prop := ∃ p : Nat → Nat, ∀ j, j < N.length → (∃ K, (kinds N)[j]? = some K ∧ PlaceAt s K (p j)) ∧ p j < k ∧ ∀ i, i < j → p i < p j
/-- nothing that isn't borne -/
def Borne (cc : CV) (mine o : LOpts) : Prop := (o.pfc = true → cc.pfc = true) ∧ (o.acfc = true → cc.acfc = true) ∧ (o.magic ≠ 0 → cc.mg = true ∧ o.magic ≠ mine.magic) ∧ (o.auth = 0 ∨ o.auth ∈ cc.acc)
def ReadI (cc : CV) (mine : LOpts) (s : List Opt) (k : Nat) : Prop := ∃ o, readL (s.take k) = some (o, kinds (s.take k)) ∧ Borne cc mine o
def FoldI (cc : CV) (mine : LOpts) (s : List Opt) (k : Nat) (st : List Int × List Opt × List Opt × List Opt) : Prop :=
  st.1 = kinds (s.take k) ∧ st.2.1.Sublist (s.take k) ∧ st.2.2.1.Sublist (s.take k) ∧ kinds st.2.2.2 = kinds st.2.2.1 ∧ (st.2.1 = [] → NakI s k st.2.2.2) ∧ (st.2.1 = [] → st.2.2.2 = [] → ReadI cc mine s k)
theorem kinds_len (s : List Opt) : (kinds s).length = s.length := by unfold kinds; simp
theorem borne_step {cc : CV} {mine o : LOpts} {magic K : Int} {l u : List UInt8} (h : Borne cc mine o) (hb : bears cc mine magic K l = some (u, false)) : ∃ o', withO o (K, l) = some o' ∧ Borne cc mine o' := by
  obtain ⟨b1, b2, b3, b4⟩ := h
  unfold bears at hb
  unfold withO
  by_cases k1 : K = 1
  · rw [if_pos k1] at hb
    rw [if_pos k1]
    unfold bMru at hb
    by_cases hl : l.length = 2
    · rw [if_pos hl] at hb
      injection hb with hb
      injection hb with _ hb
      have hn : near (num l 2) = num l 2 := by simpa using hb
      unfold near at hn
      exact ⟨_, if_pos (show l.length = 2 ∧ 64 ≤ num l 2 ∧ num l 2 ≤ 16384 by omega), b1, b2, b3, b4⟩
    · rw [if_neg hl] at hb; cases hb
  rw [if_neg k1] at hb
  rw [if_neg (show ¬ (K, l).1 = 1 from k1)]
  by_cases k2 : K = 2
  · rw [if_pos k2] at hb
    rw [if_pos (show (K, l).1 = 2 from k2)]
    unfold bSize at hb
    by_cases hl : l.length = 4
    · exact ⟨_, if_pos hl, b1, b2, b3, b4⟩
    · rw [if_neg hl] at hb; cases hb
  rw [if_neg k2] at hb
  rw [if_neg (show ¬ (K, l).1 = 2 from k2)]
  by_cases k3 : K = 3 ∧ cc.acc ≠ []
  · rw [if_pos k3] at hb
    rw [if_pos (show (K, l).1 = 3 from k3.1)]
    unfold bAmong at hb
    by_cases hl : 2 ≤ l.length
    · rw [if_pos hl] at hb
      injection hb with hb
      injection hb with _ hb
      have hm : mth l ≠ 0 ∧ cc.acc.contains (mth l) = true := by
        constructor
        · intro e; simp [e] at hb
        · rcases hcc : cc.acc.contains (mth l) with _ | _
          · rw [hcc] at hb; simp at hb
          · rfl
      exact ⟨_, if_pos hm.1, b1, b2, b3, .inr (by simpa using hm.2)⟩
    · rw [if_neg hl] at hb; cases hb
  rw [if_neg k3] at hb
  by_cases k5 : K = 5 ∧ cc.mg = true
  · rw [if_pos k5] at hb
    have e5 := k5.1
    subst e5
    rw [if_neg (show ¬ (5 : Int) = 3 by decide), if_pos rfl]
    unfold bUnlike at hb
    by_cases hl : l.length = 4
    · rw [if_pos hl] at hb
      injection hb with hb
      injection hb with _ hb
      have hz : num l 4 ≠ 0 ∧ num l 4 ≠ mine.magic := by
        constructor
        · intro e; simp [e] at hb
        · intro e; simp [e] at hb
      exact ⟨_, if_pos ⟨hl, hz.1⟩, b1, b2, fun _ => ⟨k5.2, hz.2⟩, b4⟩
    · rw [if_neg hl] at hb; cases hb
  rw [if_neg k5] at hb
  by_cases k7 : (K = 7 ∧ cc.pfc = true) ∨ (K = 8 ∧ cc.acfc = true)
  · rw [if_pos k7] at hb
    unfold bSize at hb
    by_cases hl : l.length = 0
    · rcases k7 with ⟨e, hp⟩ | ⟨e, hp⟩
      · subst e
        rw [if_neg (show ¬ (7 : Int) = 3 by decide), if_neg (show ¬ (7 : Int) = 5 by decide), if_pos rfl]
        exact ⟨_, if_pos hl, fun _ => hp, b2, b3, b4⟩
      · subst e
        rw [if_neg (show ¬ (8 : Int) = 3 by decide), if_neg (show ¬ (8 : Int) = 5 by decide), if_neg (show ¬ (8 : Int) = 7 by decide), if_pos rfl]
        exact ⟨_, if_pos hl, b1, fun _ => hp, b3, b4⟩
    · rw [if_neg hl] at hb; cases hb
  rw [if_neg k7] at hb
  cases hb
theorem take_snoc (s : List Opt) (k : Nat) (h : k < s.length) : s.take (k + 1) = s.take k ++ [s[k]] := List.take_succ_eq_append_getElem h
theorem place_new {s : List Opt} {k : Nat} (h : k < s.length) (hc : (kinds (s.take k)).contains s[k].1 = false) : PlaceAt s s[k].1 k := by
  refine ⟨by unfold kinds; rw [List.getElem?_map, List.getElem?_eq_getElem h]; rfl, fun j hj e => ?_⟩
  have hm : s[k].1 ∈ kinds (s.take k) := by
    unfold kinds at e ⊢
    rw [List.getElem?_map] at e
    have hj2 : j < s.length := by omega
    rw [List.getElem?_eq_getElem hj2] at e
    rw [List.mem_map]
    refine ⟨s[j], ?_, by simpa using e⟩
    rw [List.mem_take_iff_getElem]
    exact ⟨j, by omega, rfl⟩
  rw [List.contains_iff_mem.mpr hm] at hc
  cases hc
theorem fold_inv (cc : CV) (mine : LOpts) (magic : Int) (s : List Opt) : ∀ k, k ≤ s.length → FoldI cc mine s k (foldJ cc mine magic (s.take k))
  | 0, _ => by
    refine ⟨rfl, List.nil_sublist _, List.nil_sublist _, rfl, fun _ => ⟨fun _ => 0, fun j hj => absurd hj (Nat.not_lt_zero _)⟩, fun _ _ => ⟨dflt, rfl, ?_⟩⟩
    exact ⟨(fun h => by cases h), (fun h => by cases h), (fun h => absurd rfl h), .inl rfl⟩
  | k + 1, h => by
    have ih := fold_inv cc mine magic s k (by omega)
    unfold FoldI at ih ⊢
    rw [foldJ_take cc mine magic s k h]
    generalize foldJ cc mine magic (s.take k) = st at ih ⊢
    obtain ⟨ks, R, S, N⟩ := st
    obtain ⟨h1, h2, h3, h4, h5, h6⟩ := ih
    simp only at h1 h2 h3 h4 h5 h6
    subst h1
    have hR : ((kinds (s.take k)) ++ [s[k].1], R ++ [s[k]], S, N) = stepJ cc mine magic (kinds (s.take k), R, S, N) s[k] →
        FoldI cc mine s (k + 1) (stepJ cc mine magic (kinds (s.take k), R, S, N) s[k]) := by
      intro e
      rw [← e]
      refine ⟨(kinds_take s k h).symm, ?_, ?_, h4, fun e => ?_, fun e => ?_⟩
      · rw [take_snoc s k h]; exact h2.append (List.Sublist.refl _)
      · rw [take_snoc s k h]; exact h3.trans (List.sublist_append_left _ _)
      · simp at e
      · simp at e
    by_cases hc : (kinds (s.take k)).contains s[k].1 = true
    · refine hR ?_
      unfold stepJ
      simp only [hc, if_true]
    · have hc' : (kinds (s.take k)).contains s[k].1 = false := by simpa using hc
      have e0 := stepJ_no cc mine magic (kinds (s.take k)) R S N s[k] hc'
      rcases hb : bears cc mine magic s[k].1 s[k].2 with _ | ⟨u, _ | _⟩
      · rw [hb] at e0
        exact hR e0.symm
      · rw [hb] at e0
        rw [e0]
        refine ⟨(kinds_take s k h).symm, ?_, ?_, h4, fun e => ?_, fun e e2 => ?_⟩
        · rw [take_snoc s k h]; exact h2.trans (List.sublist_append_left _ _)
        · rw [take_snoc s k h]; exact h3.trans (List.sublist_append_left _ _)
        · obtain ⟨p, hp⟩ := h5 e
          exact ⟨p, fun j hj => ⟨(hp j hj).1, by have := (hp j hj).2.1; omega, (hp j hj).2.2⟩⟩
        · obtain ⟨o, hL, hB⟩ := h6 e e2
          obtain ⟨o', hw, hB'⟩ := borne_step hB hb
          refine ⟨o', ?_, hB'⟩
          rw [readL_take s k h, hL, kinds_take s k h]
          unfold stepR
          have hw' : withO o s[k] = some o' := hw
          simp only [hc', hw']
          rfl
      · rw [hb] at e0
        rw [e0]
        refine ⟨(kinds_take s k h).symm, ?_, ?_, ?_, fun e => ?_, fun e e2 => ?_⟩
        · rw [take_snoc s k h]; exact h2.trans (List.sublist_append_left _ _)
        · rw [take_snoc s k h]; exact h3.append (List.Sublist.refl _)
        · show kinds (N ++ [(s[k].1, u)]) = kinds (S ++ [s[k]])
          unfold kinds at h4 ⊢
          rw [List.map_append, List.map_append, h4]
          rfl
        · obtain ⟨p, hp⟩ := h5 e
          have hk : kinds (N ++ [(s[k].1, u)]) = kinds N ++ [s[k].1] := by unfold kinds; rw [List.map_append]; rfl
          refine ⟨fun j => if j < N.length then p j else k, fun j hj => ?_⟩
          have hj' : j < N.length + 1 := by
            have : j < (N ++ [(s[k].1, u)]).length := hj
            simpa using this
          show (∃ K, (kinds (N ++ [(s[k].1, u)]))[j]? = some K ∧ _) ∧ _
          rw [hk]
          by_cases hjn : j < N.length
          · simp only [hjn, if_true]
            obtain ⟨⟨K, u1, u2⟩, u3, u4⟩ := hp j hjn
            refine ⟨⟨K, ?_, u2⟩, by omega, fun i hi => ?_⟩
            · rw [List.getElem?_append_left (by rw [kinds_len]; exact hjn)]; exact u1
            · rw [if_pos (by omega)]; exact u4 i hi
          · have ej : j = N.length := by omega
            subst ej
            simp only [Nat.lt_irrefl, if_false]
            refine ⟨⟨s[k].1, ?_, place_new h hc'⟩, by omega, fun i hi => ?_⟩
            · rw [List.getElem?_append_right (by rw [kinds_len]; exact Nat.le_refl _), kinds_len, Nat.sub_self]; rfl
            · rw [if_pos hi]; exact (hp i hi).2.1
        · exact absurd e2 (by show N ++ [(s[k].1, u)] ≠ []; simp)
theorem bears_len {cc : CV} {mine : LOpts} {magic K : Int} {l u : List UInt8} {t : Bool} (h : bears cc mine magic K l = some (u, t)) : u.length ≤ 4 := by
  unfold bears bMru bSize bAmong bUnlike at h
  repeat' split at h
  all_goals first
    | (simp only [Option.some.injEq, Prod.mk.injEq] at h; obtain ⟨rfl, -⟩ := h; first | (rw [putB_length]; omega) | (exact Nat.le_trans (authB_len _) (by omega)) | simp)
    | cases h
theorem fold_short (cc : CV) (mine : LOpts) (magic : Int) (s : List Opt) : ∀ k, k ≤ s.length → ∀ y ∈ (foldJ cc mine magic (s.take k)).2.2.2, y.2.length ≤ 4
  | 0, _ => fun y hy => by cases hy
  | k + 1, h => by
    have ih := fold_short cc mine magic s k (by omega)
    rw [foldJ_take cc mine magic s k h]
    generalize foldJ cc mine magic (s.take k) = st at ih ⊢
    obtain ⟨ks, R, S, N⟩ := st
    simp only at ih
    by_cases hc : ks.contains s[k].1 = true
    · unfold stepJ
      simp only [hc, if_true]
      exact ih
    · rw [stepJ_no cc mine magic ks R S N s[k] (by simpa using hc)]
      rcases hb : bears cc mine magic s[k].1 s[k].2 with _ | ⟨u, _ | _⟩
      · exact ih
      · exact ih
      · intro y hy
        rcases List.mem_append.1 hy with h1 | h1
        · exact ih y h1
        · rw [List.mem_singleton] at h1
          subst h1
          exact bears_len hb
theorem judge_short (cc : CV) (mine : LOpts) (magic naks : Int) (s : List Opt) (M : Nat) (hM : 4 ≤ M) (hs : ∀ y ∈ s, y.2.length ≤ M) : ∀ y ∈ (judgeL cc mine magic naks s).2, y.2.length ≤ M := by
  have H := fold_inv cc mine magic s s.length (Nat.le_refl _)
  have F := fold_short cc mine magic s s.length (Nat.le_refl _)
  rw [List.take_length] at H F
  unfold judgeL
  generalize foldJ cc mine magic s = st at H F ⊢
  obtain ⟨ks, R, S, N⟩ := st
  obtain ⟨h1, h2, h3, -⟩ := H
  simp only at h2 h3 F ⊢
  rw [List.take_length] at h2 h3
  intro y hy
  split at hy
  · exact hs y (h2.subset hy)
  · split at hy
    · have := F y hy; omega
    · split at hy
      · exact hs y (h3.subset hy)
      · exact hs y hy
/-- what is asked of an answer -/
def FitsI (cc : CV) (mine : LOpts) (s : List Opt) (k : Int) (x : List Opt) : Prop :=
  (k = 2 ∧ x = s ∧ ∃ o, readL s = some (o, kinds s) ∧ Borne cc mine o) ∨ (k = 4 ∧ x ≠ [] ∧ s.foldl eat x = []) ∨ (k = 3 ∧ x ≠ [] ∧ NakI s s.length x)
theorem judge_fits (cc : CV) (mine : LOpts) (magic naks : Int) (s : List Opt) : FitsI cc mine s (judgeL cc mine magic naks s).1 (judgeL cc mine magic naks s).2 := by
  have H := fold_inv cc mine magic s s.length (Nat.le_refl _)
  rw [List.take_length] at H
  unfold judgeL
  generalize foldJ cc mine magic s = st at H ⊢
  obtain ⟨ks, R, S, N⟩ := st
  obtain ⟨h1, h2, h3, h4, h5, h6⟩ := H
  simp only at h1 h2 h3 h4 h5 h6 ⊢
  rw [List.take_length] at h2 h3
  by_cases hR : R = []
  · rw [if_neg (show ¬ R ≠ [] from fun h => h hR)]
    by_cases hN : N = []
    · rw [if_neg (show ¬ (N ≠ [] ∧ naks < cc.mf) from fun h => h.1 hN), if_neg (show ¬ N ≠ [] from fun h => h hN)]
      refine .inl ⟨rfl, rfl, ?_⟩
      obtain ⟨o, e, hB⟩ := h6 hR hN
      rw [List.take_length] at e
      exact ⟨o, e, hB⟩
    · by_cases hm : naks < cc.mf
      · rw [if_pos ⟨hN, hm⟩]
        exact .inr (.inr ⟨rfl, hN, h5 hR⟩)
      · rw [if_neg (show ¬ (N ≠ [] ∧ naks < cc.mf) from fun h => hm h.2), if_pos hN]
        refine .inr (.inl ⟨rfl, fun e => hN ?_, eat_all _ _ h3⟩)
        have : kinds N = [] := by rw [h4]; show kinds S = []; rw [show S = [] from e]; rfl
        unfold kinds at this
        simpa using this
  · rw [if_pos hR]
    exact .inr (.inl ⟨rfl, hR, eat_all _ _ h2⟩)
end Go.Proofs.Ytonbdcajepmgbaa
