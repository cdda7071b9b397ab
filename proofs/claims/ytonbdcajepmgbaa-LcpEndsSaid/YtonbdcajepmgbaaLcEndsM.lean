/-
  LcpEnds: how what is asked is judged, where each bears what the other one requires.
-/
import Derived.Test.YtonbdcajepmgbaaLcGiven
import Derived.Test.YtonbdcajepmgbaaLcJudge
namespace Go.Proofs.Ytonbdcajepmgbaa
open Go.RowKit
set_option maxRecDepth 100000
set_option maxHeartbeats 1000000
set_option linter.unusedSimpArgs false
set_option linter.unusedVariables false

/-- what is refused of it -/
def badOf (cc : CV) (o : LOpts) : List Opt := ((if cc.mg then [] else opt4 o) ++ (if cc.pfc then [] else opt5 o)) ++ (if cc.acfc then [] else opt6 o)
def EndI (cc : CV) (mine o : LOpts) : Prop := o.can ∧ (o.auth = 0 ∨ o.auth ∈ cc.acc) ∧ (o.magic ≠ 0 → o.magic ≠ mine.magic)
def foldK (cc : CV) (mine : LOpts) (magic : Int) (st : List Int × List Opt × List Opt × List Opt) (s : List Opt) : List Int × List Opt × List Opt × List Opt := s.foldl (stepJ cc mine magic) st
theorem foldK_app (cc : CV) (mine : LOpts) (magic : Int) (st : List Int × List Opt × List Opt × List Opt) (s t : List Opt) : foldK cc mine magic st (s ++ t) = foldK cc mine magic (foldK cc mine magic st s) t := List.foldl_append
theorem jmaybe {cc : CV} {mine : LOpts} {magic : Int} {ks : List Int} {n K : Int} {l : List UInt8} {R : List Opt} {b ok : Bool} {u : List UInt8} (h : KB ks n) (hK : n ≤ K) (hw : b = true → bears cc mine magic K l = if ok then some (u, false) else none) :
    ∃ ks', foldK cc mine magic (ks, R, [], []) (if b = true then [(K, l)] else []) = (ks', R ++ (if ok then [] else if b = true then [(K, l)] else []), [], []) ∧ KB ks' (K + 1) := by
  cases b
  · exact ⟨ks, by cases ok <;> simp [foldK], h.up (by omega)⟩
  · refine ⟨ks ++ [K], ?_, h.more hK⟩
    show stepJ cc mine magic (ks, R, [], []) (K, l) = _
    rw [stepJ_no cc mine magic ks R [] [] (K, l) (h.no hK)]
    show afterJ ks R [] [] (K, l) (bears cc mine magic K l) = _
    rw [hw rfl]
    cases ok
    · rfl
    · show (ks ++ [K], R, [], []) = _
      simp
theorem jok {cc : CV} {mine : LOpts} {magic : Int} {ks : List Int} {n K : Int} {l : List UInt8} {R : List Opt} {b : Bool} {u : List UInt8} (h : KB ks n) (hK : n ≤ K) (hw : b = true → bears cc mine magic K l = some (u, false)) :
    ∃ ks', foldK cc mine magic (ks, R, [], []) (if b = true then [(K, l)] else []) = (ks', R, [], []) ∧ KB ks' (K + 1) := by
  obtain ⟨ks', e, hk⟩ := jmaybe (R := R) (ok := true) h hK hw
  refine ⟨ks', ?_, hk⟩
  rw [e]
  simp
theorem auth_back (a : Int) (h0 : 0 ≤ a) (h3 : a ≤ 3) (hb : (!(authB a).isEmpty) = true) : mth (authB a) = a ∧ a ≠ 0 ∧ 2 ≤ (authB a).length := by
  have : a = 0 ∨ a = 1 ∨ a = 2 ∨ a = 3 := by omega
  rcases this with rfl | rfl | rfl | rfl
  · exact absurd hb (by decide)
  · decide
  · decide
  · decide
theorem fold_opts (cc : CV) (mine o : LOpts) (magic : Int) (h : EndI cc mine o) : ∃ ks, foldJ cc mine magic (optsOf o) = (ks, badOf cc o, [], []) := by
  obtain ⟨⟨⟨a1, a2⟩, ⟨b1, b2⟩, ⟨c1, c2⟩, ⟨d1, d2⟩⟩, ha, hm⟩ := h
  have n2 : ∀ x : Int, 0 ≤ x → x ≤ 65535 → num (putB (u64 x).toNat 2) 2 = x := fun x h0 h1 => by
    rw [u64_small h0 (by omega), num_putB 2 x.toNat (by omega)]
    omega
  have n4 : ∀ x : Int, 0 ≤ x → x ≤ 4294967295 → num (putB (u64 x).toNat 4) 4 = x := fun x h0 h1 => by
    rw [u64_small h0 (by omega), num_putB 4 x.toNat (by omega)]
    omega
  show ∃ ks, foldK cc mine magic ([], [], [], []) (optsOf o) = _
  unfold optsOf
  simp only [foldK_app]
  obtain ⟨k1, e1, h1⟩ := jok (cc := cc) (mine := mine) (magic := magic) (ks := []) (n := 1) (K := 1) (R := []) (u := putB (near o.mru).toNat 2) (l := putB (u64 o.mru).toNat 2) (b := o.mru != 1500) (fun k hk => by simp at hk) (by omega)
    (fun _ => by
      have hn : near o.mru = o.mru := by unfold near; omega
      simp [bears, bMru, putB_length, n2 o.mru (by omega) (by omega), hn])
  rw [show foldK cc mine magic ([], [], [], []) (opt1 o) = _ from e1]
  obtain ⟨k2, e2, h2⟩ := jok (cc := cc) (mine := mine) (magic := magic) (K := 2) (R := []) (u := []) (l := putB (u64 o.accm).toNat 4) (b := o.accm != 4294967295) h1 (by omega)
    (fun _ => by simp [bears, bSize, putB_length])
  rw [show foldK cc mine magic (k1, _, [], []) (opt2 o) = _ from e2]
  obtain ⟨k3, e3, h3⟩ := jok (cc := cc) (mine := mine) (magic := magic) (K := 3) (R := []) (u := authB (numAt cc.acc 0)) (l := authB o.auth) (b := !(authB o.auth).isEmpty) h2 (by omega)
    (fun hb => by
      obtain ⟨m1, m2, m3⟩ := auth_back o.auth c1 c2 hb
      have hin : o.auth ∈ cc.acc := ha.resolve_left m2
      have hne : cc.acc ≠ [] := fun e => by rw [e] at hin; cases hin
      simp [bears, bAmong, m1, m2, m3, hne, hin])
  rw [show foldK cc mine magic (k2, _, [], []) (opt3 o) = _ from e3]
  obtain ⟨k4, e4, h4⟩ := jmaybe (cc := cc) (mine := mine) (magic := magic) (K := 5) (R := []) (ok := cc.mg) (u := putB magic.toNat 4) (l := putB (u64 o.magic).toNat 4) (b := o.magic != 0) h3 (by omega)
    (fun hb => by
      have hz : o.magic ≠ 0 := by simpa using hb
      cases hg : cc.mg
      · simp [bears, hg]
      · simp [bears, bUnlike, hg, putB_length, n4 o.magic (by omega) (by omega), hz, hm hz])
  rw [show foldK cc mine magic (k3, _, [], []) (opt4 o) = _ from e4]
  obtain ⟨k5, e5, h5⟩ := jmaybe (cc := cc) (mine := mine) (magic := magic) (K := 7) (R := [] ++ if cc.mg then [] else (if (o.magic != 0) = true then [(5, putB (u64 o.magic).toNat 4)] else [])) (ok := cc.pfc) (u := []) (l := []) (b := o.pfc) h4 (by omega)
    (fun hb => by cases hg : cc.pfc <;> simp [bears, bSize, hg])
  rw [show foldK cc mine magic (k4, _, [], []) (opt5 o) = _ from e5]
  obtain ⟨k6, e6, h6⟩ := jmaybe (cc := cc) (mine := mine) (magic := magic) (K := 8) (R := ([] ++ if cc.mg then [] else (if (o.magic != 0) = true then [(5, putB (u64 o.magic).toNat 4)] else [])) ++ if cc.pfc then [] else (if o.pfc = true then [(7, [])] else [])) (ok := cc.acfc) (u := []) (l := []) (b := o.acfc) h5 (by omega)
    (fun hb => by cases hg : cc.acfc <;> simp [bears, bSize, hg])
  exact ⟨k6, e6⟩
theorem judge_ends (cc : CV) (mine o : LOpts) (magic naks : Int) (h : EndI cc mine o) : judgeL cc mine magic naks (optsOf o) = if badOf cc o = [] then (2, optsOf o) else (4, badOf cc o) := by
  obtain ⟨ks, e⟩ := fold_opts cc mine o magic h
  unfold judgeL
  rw [e]
  by_cases hb : badOf cc o = []
  · simp [hb]
  · simp [hb]
/-- what is asked behind a refusal -/
def rejS (o : LOpts) (K : Int) : LOpts := if K = 1 then { o with mru := 1500 } else if K = 2 then { o with accm := 4294967295 } else if K = 5 then { o with magic := 0 } else if K = 7 then { o with pfc := false } else if K = 8 then { o with acfc := false } else o
def rejF (o : LOpts) (s : List Opt) : LOpts := s.foldl (fun o y => rejS o y.1) o
theorem rejF_take (o : LOpts) (s : List Opt) (k : Nat) (h : k < s.length) : rejF o (s.take (k + 1)) = rejS (rejF o (s.take k)) s[k].1 := by
  unfold rejF
  rw [List.take_succ_eq_append_getElem h, List.foldl_append]
  rfl
theorem rejF_app (o : LOpts) (s t : List Opt) : rejF o (s ++ t) = rejF (rejF o s) t := List.foldl_append
def fixO (cc : CV) (o : LOpts) : LOpts := { o with magic := if cc.mg then o.magic else 0, pfc := o.pfc && cc.pfc, acfc := o.acfc && cc.acfc }
theorem rej_bad (cc : CV) (o : LOpts) : rejF o (badOf cc o) = fixO cc o := by
  unfold badOf
  rw [rejF_app, rejF_app]
  obtain ⟨mru, accm, auth, magic, pfc, acfc⟩ := o
  have e4 : rejF ⟨mru, accm, auth, magic, pfc, acfc⟩ (if cc.mg then [] else opt4 ⟨mru, accm, auth, magic, pfc, acfc⟩) = ⟨mru, accm, auth, if cc.mg then magic else 0, pfc, acfc⟩ := by
    cases cc.mg
    · by_cases h : magic = 0
      · simp [rejF, opt4, h]
      · have h' : (magic != 0) = true := by simpa using h
        simp [rejF, opt4, h', rejS]
    · rfl
  rw [e4]
  show _ = (⟨mru, accm, auth, if cc.mg then magic else 0, pfc && cc.pfc, acfc && cc.acfc⟩ : LOpts)
  generalize (if cc.mg then magic else 0 : Int) = m
  cases cc.pfc <;> cases cc.acfc <;> cases pfc <;> cases acfc <;> rfl
theorem bad_fix (cc : CV) (o : LOpts) : badOf cc (fixO cc o) = [] := by
  unfold badOf fixO opt4 opt5 opt6
  cases cc.mg <;> cases cc.pfc <;> cases cc.acfc <;> simp
theorem fix_end (cc : CV) (mine o : LOpts) (h : EndI cc mine o) : EndI cc mine (fixO cc o) := by
  obtain ⟨⟨a, b, c, d⟩, ha, hm⟩ := h
  refine ⟨⟨a, b, c, ?_⟩, ha, ?_⟩
  · show 0 ≤ (if cc.mg then o.magic else 0 : Int) ∧ (if cc.mg then o.magic else 0 : Int) ≤ 4294967295
    split <;> omega
  · show (if cc.mg then o.magic else 0 : Int) ≠ 0 → (if cc.mg then o.magic else 0 : Int) ≠ mine.magic
    intro hz
    by_cases hg : cc.mg = true
    · rw [if_pos hg] at hz ⊢
      exact hm hz
    · rw [if_neg hg] at hz
      exact absurd rfl hz
theorem bad_three (cc : CV) (o : LOpts) : ∀ y ∈ badOf cc o, y.1 = 5 ∨ y.1 = 7 ∨ y.1 = 8 := by
  intro y hy
  unfold badOf opt4 opt5 opt6 at hy
  simp only [List.mem_append] at hy
  rcases hy with (hy | hy) | hy
  · split at hy
    · cases hy
    · split at hy
      · simp at hy; subst hy; exact .inl rfl
      · cases hy
  · split at hy
    · cases hy
    · split at hy
      · simp at hy; subst hy; exact .inr (.inl rfl)
      · cases hy
  · split at hy
    · cases hy
    · split at hy
      · simp at hy; subst hy; exact .inr (.inr rfl)
      · cases hy
theorem bad_len (cc : CV) (o : LOpts) : (badOf cc o).length ≤ 3 := by
  unfold badOf opt4 opt5 opt6
  simp only [List.length_append]
  have : ∀ (a b : Bool) (x : Opt), (if a = true then [] else if b = true then [x] else []).length ≤ 1 := fun a b x => by cases a <;> cases b <;> simp
  have h1 := this cc.mg (o.magic != 0) (5, putB (u64 o.magic).toNat 4)
  have h2 := this cc.pfc o.pfc (7, [])
  have h3 := this cc.acfc o.acfc (8, [])
  omega
end Go.Proofs.Ytonbdcajepmgbaa
