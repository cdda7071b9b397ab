/-
  tetherref12.Same of any two packets (over strOf; for eap).
  eap: what Take answers, of any packet, at either end.
  eap: what is written reads as it was; the state of one end while the other one works.
-/
import Derived.Test.YtjimoegegigoiaaDoorMdConv
import Derived.Test.YtjimoegegigoiaaDoorPkBase
import Derived.Test.YtjimoegegigoiaaDoorSeTab
import Derived.Test.YtjimoegegigoiaaDoorEaPTake
namespace Go.Proofs.YtjimoegegigoiaaDoor
open Go.RowKit Go.Shelf
set_option maxRecDepth 100000
set_option maxHeartbeats 4000000
set_option linter.unusedSimpArgs false
set_option linter.unusedVariables false

theorem strOf_self (s : ByteArray) : strOf s.data.toList = s := by
  cases s
  simp [strOf, strOfNums, Function.comp_def]
theorem strOf_inj {l m : List UInt8} (h : strOf l = strOf m) : l = m := by
  have h1 := strOf_self ⟨l.toArray⟩
  have h2 := strOf_self ⟨m.toArray⟩
  simp only at h1 h2
  have h3 := h1.symm.trans (h.trans h2)
  have h4 := congrArg (fun s : ByteArray => s.data.toList) h3
  simpa using h4
theorem strOf_eq (l m : List UInt8) : ((strOf l).toList == (strOf m).toList) = decide (l = m) := by
  rw [word_eq]
  by_cases h : l = m
  · rw [h]; simp
  · rw [decide_eq_false h, decide_eq_false (fun e => h (strOf_inj e))]
/-- are two packets alike? -/
def sameP (c i : Int) (l : List UInt8) (c' i' : Int) (l' : List UInt8) : Bool := decide (c = c') && (decide (i = i') && decide (l = l'))
theorem sameP_iff {c i c' i' : Int} {l l' : List UInt8} : sameP c i l c' i' l' = true ↔ c = c' ∧ i = i' ∧ l = l' := by simp [sameP]
theorem psame_any (c i c' i' : Int) (A A' : Option Addr) (n d n' d' B : Nat) (l l' : List UInt8) (w : World) (h : Rd w B A n l) (h' : Rd w B A' n' l') (hB : B ≤ w.heap.size) :
    Calls Tryd.prog 16 #[.agg #[.int .i64 c, .int .i64 i, .slice A n d], .agg #[.int .i64 c', .int .i64 i', .slice A' n' d']] w fun e w' => e = .returned (.bool (sameP c i l c' i' l')) ∧ Below w.heap.size w w' := by
  obtain ⟨V, hV⟩ : ∃ V, (w.alloc (.cells #[.int .i64 c, .int .i64 i, .slice A n d] 24)).alloc (.cells #[.int .i64 c', .int .i64 i', .slice A' n' d'] 24) = V := ⟨_, rfl⟩
  have bV : Below w.heap.size w V := by rw [← hV]; exact ((Below.refl _ _).alloc (Nat.le_refl _) _).alloc (by simp) _
  have h0 : Blk V w.heap.size 24 [.int .i64 c, .int .i64 i, .slice A n d] := by
    rw [← hV]
    exact (Below.heap_alloc _ _ _ (by simp)).trans (heap_alloc_new w _)
  have h1 : Blk V (w.heap.size + 1) 24 [.int .i64 c', .int .i64 i', .slice A' n' d'] := by
    rw [← hV]
    have h := heap_alloc_new (w.alloc (.cells #[.int .i64 c, .int .i64 i, .slice A n d] 24)) (.cells #[.int .i64 c', .int .i64 i', .slice A' n' d'] 24)
    rw [World.size_alloc] at h
    exact h
  have x0 := h0.cell 0
  have x1 := h0.cell 1
  have x2 := h0.cell 2
  have y0 := h1.cell 0
  have y1 := h1.cell 1
  have y2 := h1.cell 2
  have c1 := conv_run (h.below (bV.mono hB)) d
  have c2 := conv_run (h'.below (bV.mono hB)) d'
  have q := strOf_eq l l'
  have HV := Lib.hid hV
  have FN := Lib.hid bV
  clear h h' hV bV h0 h1
  obtain ⟨r, hr⟩ : ∃ r, sameP c i l c' i' l' = r := ⟨_, rfl⟩
  rw [hr]
  unfold sameP at hr
  by_cases hc : c = c'
  · by_cases hi : i = i'
    · have e1 : (c == c') = true := by simpa using hc
      have e2 : (i == i') = true := by simpa using hi
      have HR : Hid (decide (l = l') = r) := by rw [← hr]; show _ = _; simp [hc, hi]
      clear hr hc hi
      go_enter Tryd.func16, Tryd.ntmps16
      go_wp2_with (first
        | (rw [HV.out])
        | (rw [c1])
        | (rw [c2]))
      rw [HR.out]
      go_ret
      exact ⟨rfl, FN.out⟩
    · have e1 : (c == c') = true := by simpa using hc
      have e2 : (i == i') = false := by simpa using hi
      have HR : Hid (r = false) := by rw [← hr]; show _ = _; simp [hc, hi]
      clear hr hc hi
      go_enter Tryd.func16, Tryd.ntmps16
      go_wp2_with (first
        | (rw [HV.out]))
      go_ret
      exact ⟨by rw [HR.out]; rfl, FN.out⟩
  · have e1 : (c == c') = false := by simpa using hc
    have HR : Hid (r = false) := by rw [← hr]; show _ = _; simp [hc]
    clear hr hc
    go_enter Tryd.func16, Tryd.ntmps16
    go_wp2_with (first
      | (rw [HV.out]))
    go_ret
    exact ⟨by rw [HR.out]; rfl, FN.out⟩
end Go.Proofs.YtjimoegegigoiaaDoor
namespace Go.Proofs.YtjimoegegigoiaaDoor
open Go.RowKit Go.Shelf
set_option maxRecDepth 100000
set_option maxHeartbeats 1000000
set_option linter.unusedSimpArgs false
set_option linter.unusedVariables false

theorem krS_size (C T : Int) (r : List UInt8) : (krS C T r).size ≤ r.length := by
  unfold krS rvS
  split
  · exact Nat.zero_le _
  · split
    · rw [strOf_size]; exact Nat.le_refl _
    · split
      · rw [strOf_size]; exact Nat.le_refl _
      · split
        · exact Nat.zero_le _
        · split
          · rw [strOf_size, List.length_drop]; omega
          · exact Nat.zero_le _
theorem rdR_len (C : Int) (l : List UInt8) : (rdR C l).length ≤ l.length := by
  unfold rdR
  split
  · rw [List.length_drop]; omega
  · exact Nat.le_refl _
theorem krV_len (C T : Int) (r : List UInt8) : (krV C T r).length ≤ r.length := by
  unfold krV rvV
  split
  · exact Nat.zero_le _
  · split
    · exact Nat.zero_le _
    · split
      · exact Nat.zero_le _
      · split
        · exact Nat.le_refl _
        · split
          · rw [List.length_take, List.length_drop]; omega
          · exact Nat.le_refl _
theorem rdE_zero {C I : Int} {l : List UInt8} (h : rdE C I l = 0) : 0 ≤ I ∧ I ≤ 255 ∧ 1 ≤ C ∧ C ≤ 4 ∧ (tyB C = true → ¬ l.length < 1 ∧ krE C (rvN l) (l.drop 1) = 0) := by
  unfold rdE at h
  cases hi : idB I
  · rw [hi, if_pos rfl] at h
    cases h
  · rw [hi, if_neg (by simp)] at h
    unfold idB at hi
    cases hc : cdB C
    · rw [hc, if_pos rfl] at h
      cases h
    · rw [hc, if_neg (by simp)] at h
      unfold cdB at hc
      simp at hi hc
      refine ⟨hi.1, hi.2, hc.1, hc.2, fun ht => ?_⟩
      rw [if_pos ht] at h
      split at h
      · cases h
      · exact ⟨‹_›, h⟩
/-- the challenge of the last request -/
def chOf (s : SvS) : List UInt8 := krV s.lc (rdT s.lc s.L) (rdR s.lc s.L)
def tkT (l : List UInt8) : ByteArray := krS 2 (rdT 2 l) (rdR 2 l)
def tkV (l : List UInt8) : List UInt8 := krV 2 (rdT 2 l) (rdR 2 l)
/-- a name is taken; a proof is taken -/
noncomputable def tkA (ss : List Sec) (name : ByteArray) (s : SvS) (l : List UInt8) (n2 : Nat) : Bool := decide (rdT 2 l = 1 ∧ s.st = 1 ∧ knB ss name (tkT l) = true ∧ chB n2 = true)
noncomputable def tkP (ss : List Sec) (name : ByteArray) (s : SvS) (l : List UInt8) : Bool := decide (rdT 2 l = 4 ∧ s.st = 2 ∧ pvB ss name s (chOf s) (tkV l) = true)
noncomputable def tkS (ss : List Sec) (name : ByteArray) (s : SvS) (l : List UInt8) (n2 : Nat) (chal : List UInt8) : SvS := if tkA ss name s l n2 = true then askS { s with cl := tkT l } 2 (dtL 1 4 chal name) else if tkP ss name s l = true then fnS s 3 s.cl else fnS s 4 ⟨#[]⟩
noncomputable def tkC (ss : List Sec) (name : ByteArray) (s : SvS) (l : List UInt8) (n2 : Nat) : Int := if tkA ss name s l n2 = true then 1 else if tkP ss name s l = true then 3 else 4
noncomputable def tkI (ss : List Sec) (name : ByteArray) (s : SvS) (l : List UInt8) (n2 : Nat) : Int := if tkA ss name s l n2 = true then (s.li + 1) % 256 else s.li
noncomputable def tkL (ss : List Sec) (name : ByteArray) (s : SvS) (l : List UInt8) (n2 : Nat) (chal : List UInt8) : List UInt8 := if tkA ss name s l n2 = true then dtL 1 4 chal name else []
theorem tkE_zero {s : SvS} {C I : Int} {l : List UInt8} (he : tkE s C I l = 0) : rdE C I l = 0 ∧ C = 2 ∧ wtB s = true ∧ I = s.li := by
  unfold tkE at he
  split at he
  · contradiction
  · rename_i h1
    split at he
    · cases he
    · rename_i h0
      split at he
      · cases he
      · rename_i h2
        split at he
        · cases he
        · rename_i h3
          exact ⟨by simpa using h1, by simpa using h0, by simpa using h2, by simpa using h3⟩
theorem stake_any (lo g tb : Nat) (name : ByteArray) (tries : Int) (ss : List Sec) (s : SvS) (I : Int) (A : Option Addr) (n c B : Nat) (l : List UInt8) (A2 : Option Addr) (n2 c2 B2 : Nat) (chal : List UInt8) (w : World) (h : SvAt w lo g tb name tries ss s) (ok : SvOk s) (hnm : name.size ≤ 64) (hr : Rd w B A n l) (hB : B ≤ w.heap.size) (hn : n ≤ 140737488351232)
    (hr2 : Rd w B2 A2 n2 chal) (hB2 : B2 ≤ w.heap.size) (hnil : A2 = none → c2 = 0) (hv : s.st = 2 → s.L.length ≤ 140737488351232 ∧ rdE s.lc s.li s.L = 0 ∧ (chOf s).length ≤ 35184372088832) (he : tkE s 2 I l = 0) :
    Calls Tryd.prog 21 #[.pointer (some ⟨g, 0, none⟩), .agg #[.int .i64 2, .int .i64 I, .slice A n c], .slice A2 n2 c2] w (TakeR w lo g tb name tries ss (tkS ss name s l n2 chal) (tkC ss name s l n2) (tkI ss name s l n2) (tkL ss name s l n2 chal)) := by
  obtain ⟨_, _, _, hI⟩ := tkE_zero he
  have hl := hr.1
  have hts := krS_size 2 (rdT 2 l) (rdR 2 l)
  have hrl := rdR_len 2 l
  have htm : (tkT l).size ≤ maxLen := by unfold tkT maxLen; omega
  refine stake_yes lo g tb name tries ss s _ I (rdT 2 l) _ _ A n c B l _ (tkV l) (tkT l) A2 n2 c2 w h hr hB hn he rfl rfl rfl ?_
  intro W D k d hW rW hkd
  have hs := h.later hW
  by_cases h1 : rdT 2 l = 1
  · have hkt : knT 2 1 = 122 := rfl
    have hP : tkP ss name s l = false := by unfold tkP; rw [decide_eq_false]; omega
    rw [h1, hkt]
    cases hA : tkA ss name s l n2
    · have hno : ¬ (s.st = 1 ∧ knB ss name (tkT l) = true ∧ chB n2 = true) := by
        intro hc
        unfold tkA at hA
        rw [decide_eq_true ⟨h1, hc⟩] at hA
        cases hA
      unfold tkS tkC tkI tkL
      rw [hA, hP]
      exact judge_id_no lo g tb name tries ss s 2 I D k d (tkT l) A2 n2 c2 W hs htm (by unfold maxLen; omega) hno
    · have hyes : s.st = 1 ∧ knB ss name (tkT l) = true ∧ chB n2 = true := by
        unfold tkA at hA
        exact (of_decide_eq_true hA).2
      unfold tkS tkC tkI tkL
      rw [hA]
      exact judge_id_yes lo g tb name tries ss s 2 I D k d (tkT l) A2 n2 c2 W.heap.size chal W hs ok htm hnm ((hr2.below (hW.mono hB2)).wide (Nat.le_trans hB2 hW.size)) (Nat.le_refl _) hnil hyes.1 hyes.2.1 hyes.2.2
  · have hA : tkA ss name s l n2 = false := by unfold tkA; rw [decide_eq_false]; exact fun hc => h1 hc.1
    unfold tkS tkC tkI tkL
    rw [hA]
    by_cases h4 : rdT 2 l = 4
    · have hkt : knT 2 4 = 125 := rfl
      have hk := rW.1
      have hvl : (tkV l).length ≤ l.length := Nat.le_trans (krV_len _ _ _) hrl
      have hkm : k ≤ maxLen := by unfold maxLen; omega
      have hv2 : s.st = 2 → s.L.length ≤ 140737488351232 ∧ rdE s.lc s.li s.L = 0 ∧ krV s.lc (rdT s.lc s.L) (rdR s.lc s.L) = chOf s ∧ (chOf s).length ≤ 35184372088832 := fun e => ⟨(hv e).1, (hv e).2.1, rfl, (hv e).2.2⟩
      rw [h4, hkt]
      cases hP : tkP ss name s l
      · have hno : ¬ (s.st = 2 ∧ pvB ss name s (chOf s) (tkV l) = true) := by
          intro hc
          unfold tkP at hP
          rw [decide_eq_true ⟨h4, hc⟩] at hP
          cases hP
        exact judge_pf_no lo g tb name tries ss s 2 I D k d W.heap.size (tkT l) A2 n2 c2 (tkV l) (chOf s) W hs ok (by unfold maxLen; omega) rW (Nat.le_refl _) hkm hv2 hno
      · have hyes : s.st = 2 ∧ pvB ss name s (chOf s) (tkV l) = true := by
          unfold tkP at hP
          exact (of_decide_eq_true hP).2
        have := judge_pf_yes lo g tb name tries ss s 2 I D k d W.heap.size (tkT l) A2 n2 c2 (tkV l) (chOf s) W hs ok (by unfold maxLen; omega) rW (Nat.le_refl _) hkm hv2 hyes.1 hyes.2
        rw [hI] at this ⊢
        exact this
    · have hP : tkP ss name s l = false := by unfold tkP; rw [decide_eq_false]; exact fun hc => h4 hc.1
      rw [hP]
      have k1 : knT 2 (rdT 2 l) ≠ 122 := by
        unfold knT
        rw [if_neg (by decide), if_neg h1, if_neg h4]
        split
        · decide
        · split <;> decide
      have k2 : knT 2 (rdT 2 l) ≠ 125 := by
        unfold knT
        rw [if_neg (by decide), if_neg h1, if_neg h4]
        split
        · decide
        · split <;> decide
      exact judge_other lo g tb name tries ss s _ _ A2 n2 c2 W hs k1 k2
def paT (C : Int) (l : List UInt8) : ByteArray := krS C (rdT C l) (rdR C l)
def paV (C : Int) (l : List UInt8) : List UInt8 := krV C (rdT C l) (rdR C l)
noncomputable def paS (ss : List Sec) (name : ByteArray) (st C : Int) (l : List UInt8) : Int := if C = 1 then (if rdT 1 l = 1 then 1 else if rdT 1 l = 4 ∧ wdB ss (bst ss name (paT 1 l)) = true then 2 else st) else enS st C
def paN (no : ByteArray) (C : Int) (l : List UInt8) : ByteArray := if C = 1 ∧ rdT 1 l = 2 then paT 1 l else no
def paC (C : Int) : Int := if C = 1 then 2 else 0
def paI (C I : Int) : Int := if C = 1 then I else 0
noncomputable def paL (ss : List Sec) (name : ByteArray) (C I : Int) (l : List UInt8) : List UInt8 :=
  if C = 1 then (if rdT 1 l = 1 then dtL 2 1 [] name else if rdT 1 l = 2 then dtL 2 2 [] ⟨#[]⟩ else if rdT 1 l = 4 then (if wdB ss (bst ss name (paT 1 l)) = true then dtL 2 4 (digL I (wdS ss (bst ss name (paT 1 l))) (paV 1 l)) name else dtL 2 3 [0] ⟨#[]⟩) else dtL 2 3 [4] ⟨#[]⟩) else []
def paOk (C : Int) : Bool := decide (C = 1)
def paE (st C : Int) : Int := if C = 1 then 0 else enE st C
theorem ptE_zero {C I : Int} {l : List UInt8} (he : ptE C I l = 0) : rdE C I l = 0 ∧ C ≠ 2 := by
  unfold ptE at he
  split at he
  · contradiction
  · rename_i h1
    split at he
    · cases he
    · rename_i h2
      exact ⟨by simpa using h1, h2⟩
theorem ptake_any (lo g tb : Nat) (name : ByteArray) (ss : List Sec) (st : Int) (no : ByteArray) (C I : Int) (A : Option Addr) (n c B : Nat) (l : List UInt8) (w : World) (h : PvAt w lo g tb name ss st no) (hnm : name.size ≤ 64) (hr : Rd w B A n l) (hB : B ≤ w.heap.size) (hn : n ≤ 35184372088832) (he : ptE C I l = 0) :
    Calls Tryd.prog 28 #[.pointer (some ⟨g, 0, none⟩), .agg #[.int .i64 C, .int .i64 I, .slice A n c]] w (PtR w lo g tb name ss (paS ss name st C l) (paN no C l) (paC C) (paI C I) (paL ss name C I l) (paOk C) (paE st C)) := by
  obtain ⟨hz, hC2⟩ := ptE_zero he
  obtain ⟨i0, i1, c1, c4, hty⟩ := rdE_zero hz
  have hl := hr.1
  have hts := krS_size C (rdT C l) (rdR C l)
  have hvs := krV_len C (rdT C l) (rdR C l)
  have hrl := rdR_len C l
  have htm : (paT C l).size ≤ maxLen := by unfold paT maxLen; omega
  refine ptake_yes lo g tb name ss st no C I A n c B l w h hr hB (by omega) he (rdT C l) (paV C l) _ (paT C l) _ _ _ _ _ _ rfl rfl rfl ?_
  intro W D k d hW rW hkd hnil
  have hs := h.later hW
  have hk := rW.1
  have hkm : k ≤ 35184372088832 := by unfold paV at hk; omega
  by_cases h1 : C = 1
  · subst h1
    obtain ⟨hl1, hk0⟩ := hty rfl
    have hT : rdT 1 l = rvN l := by unfold rdT; rw [if_pos (by decide)]
    rw [show paC 1 = 2 from rfl, show paI 1 I = I from rfl, show paOk 1 = true from rfl, show paE st 1 = 0 from rfl]
    by_cases t1 : rdT 1 l = 1
    · rw [show paS ss name st 1 l = 1 by unfold paS; rw [if_pos rfl, if_pos t1], show paN no 1 l = no by unfold paN; rw [if_neg (by omega)], show paL ss name 1 I l = dtL 2 1 [] name by unfold paL; rw [if_pos rfl, if_pos t1], t1]
      exact hear_identity lo g tb name ss st no 1 I 1 D k d (paT 1 l) W hs i0 i1 hnm
    by_cases t2 : rdT 1 l = 2
    · rw [show paS ss name st 1 l = st by unfold paS; rw [if_pos rfl, if_neg t1, if_neg (by omega)], show paN no 1 l = paT 1 l by unfold paN; rw [if_pos ⟨rfl, t2⟩], show paL ss name 1 I l = dtL 2 2 [] ⟨#[]⟩ by unfold paL; rw [if_pos rfl, if_neg t1, if_pos t2], t2]
      exact hear_notice lo g tb name ss st no 1 I 2 D k d (paT 1 l) W hs i0 i1 hnm
    rw [show paN no 1 l = no by unfold paN; rw [if_neg (fun hc => t2 hc.2)]]
    by_cases t4 : rdT 1 l = 4
    · rw [t4]
      cases hw : wdB ss (bst ss name (paT 1 l))
      · rw [show paS ss name st 1 l = st by unfold paS; rw [if_pos rfl, if_neg t1, if_neg (by rw [hw]; simp)], show paL ss name 1 I l = dtL 2 3 [0] ⟨#[]⟩ by unfold paL; rw [if_pos rfl, if_neg t1, if_neg t2, if_pos t4, if_neg (by rw [hw]; simp)]]
        exact hear_proof_no lo g tb name ss st no 1 I 4 D k d W.heap.size (paV 1 l) (paT 1 l) W hs rW (Nat.le_refl _) hnil hkm i0 i1 hnm htm hw
      · rw [show paS ss name st 1 l = 2 by unfold paS; rw [if_pos rfl, if_neg t1, if_pos ⟨t4, hw⟩], show paL ss name 1 I l = dtL 2 4 (digL I (wdS ss (bst ss name (paT 1 l))) (paV 1 l)) name by unfold paL; rw [if_pos rfl, if_neg t1, if_neg t2, if_pos t4, if_pos hw]]
        exact hear_proof_yes lo g tb name ss st no 1 I 4 D k d W.heap.size (paV 1 l) (paT 1 l) W hs rW (Nat.le_refl _) hnil hkm i0 i1 hnm htm hw
    · rw [show paS ss name st 1 l = st by unfold paS; rw [if_pos rfl, if_neg t1, if_neg (fun hc => t4 hc.1)], show paL ss name 1 I l = dtL 2 3 [4] ⟨#[]⟩ by unfold paL; rw [if_pos rfl, if_neg t1, if_neg t2, if_neg t4]]
      have t3 : rdT 1 l ≠ 3 := by
        intro e
        rw [← hT, e] at hk0
        unfold krE at hk0
        rw [if_neg (by decide), if_neg (by decide), if_neg (by decide), if_pos rfl, if_pos rfl] at hk0
        cases hk0
      have kt : knT 1 (rdT 1 l) = 126 := by
        unfold knT
        rw [if_neg (by decide), if_neg t1, if_neg t2, if_neg t3, if_neg t4]
      rw [kt]
      exact hear_strange lo g tb name ss st no 1 I (rdT 1 l) D k d (paT 1 l) W hs i0 i1 hnm
  · have hb : tyB C = false := by unfold tyB; rw [decide_eq_false h1, decide_eq_false hC2]; rfl
    have kt : knT C (rdT C l) = 119 := by unfold knT; rw [if_pos hb]
    rw [show paS ss name st C l = enS st C by unfold paS; rw [if_neg h1], show paN no C l = no by unfold paN; rw [if_neg (fun hc => h1 hc.1)], show paC C = 0 by unfold paC; rw [if_neg h1], show paI C I = 0 by unfold paI; rw [if_neg h1], show paL ss name C I l = [] by unfold paL; rw [if_neg h1], show paOk C = false from decide_eq_false h1, show paE st C = enE st C by unfold paE; rw [if_neg h1], kt]
    exact hear_verdict lo g tb name ss st no C I (rdT C l) D k d (paT C l) W hs
end Go.Proofs.YtjimoegegigoiaaDoor
namespace Go.Proofs.YtjimoegegigoiaaDoor
open Go.RowKit Go.Shelf
set_option maxRecDepth 100000
set_option maxHeartbeats 1000000
set_option linter.unusedSimpArgs false
set_option linter.unusedVariables false

theorem pf_list (C : Int) (hC : tyB C = true) (v : List UInt8) (t : ByteArray) : dtL C 4 v t = 4 :: UInt8.ofNat v.length :: (v ++ t.data.toList) := by
  unfold dtL
  rw [if_neg (by rw [hC]; decide), if_neg (by decide), if_neg (by decide), if_neg (by decide), if_pos rfl]
  rfl
/-- a challenge, or a proof, reads as it was -/
theorem pf_read (C i : Int) (hC : tyB C = true) (hc : cdB C = true) (hi : idB i = true) (v : List UInt8) (t : ByteArray) (h1 : 1 ≤ v.length) (h2 : v.length ≤ 255) :
    rdT C (dtL C 4 v t) = 4 ∧ rdE C i (dtL C 4 v t) = 0 ∧ krV C 4 (rdR C (dtL C 4 v t)) = v ∧ krS C 4 (rdR C (dtL C 4 v t)) = t := by
  rw [pf_list C hC]
  have hR : rdR C (4 :: UInt8.ofNat v.length :: (v ++ t.data.toList)) = UInt8.ofNat v.length :: (v ++ t.data.toList) := by unfold rdR; rw [if_pos hC]; rfl
  have hN : rvN (UInt8.ofNat v.length :: (v ++ t.data.toList)) = v.length := by
    unfold rvN
    rw [List.headD_cons, UInt8.toNat_ofNat']
    omega
  have hT : rdT C (4 :: UInt8.ofNat v.length :: (v ++ t.data.toList)) = 4 := by unfold rdT; rw [if_pos hC]; rfl
  have hV : rvV (UInt8.ofNat v.length :: (v ++ t.data.toList)) = v := by
    unfold rvV
    rw [hN, List.drop_succ_cons, List.drop_zero, List.take_left]
  have hS : rvS (UInt8.ofNat v.length :: (v ++ t.data.toList)) = t := by
    unfold rvS
    rw [hN, Nat.add_comm, List.drop_succ_cons, List.drop_left, strOf_self]
  refine ⟨hT, ?_, ?_, ?_⟩
  · unfold rdE
    rw [if_neg (by rw [hi]; decide), if_neg (by rw [hc]; decide), if_pos hC, if_neg (by simp)]
    have e4 : (rvN (4 :: UInt8.ofNat v.length :: (v ++ t.data.toList)) : Int) = 4 := rfl
    rw [e4]
    unfold krE
    rw [if_neg (by rw [hC]; decide), if_neg (by decide), if_neg (by decide), if_neg (by decide), if_pos rfl]
    have eD : (4 :: UInt8.ofNat v.length :: (v ++ t.data.toList)).drop 1 = UInt8.ofNat v.length :: (v ++ t.data.toList) := rfl
    rw [eD]
    have o1 : octE (UInt8.ofNat v.length :: (v ++ t.data.toList)) = 0 := by
      unfold octE
      rw [hN, if_neg]
      simp
    have o2 : octZ (UInt8.ofNat v.length :: (v ++ t.data.toList)) = v.length := by
      unfold octZ
      rw [hN, if_neg (by simp)]
    rw [o1, if_neg (by decide), o2, if_neg (by omega)]
  · unfold krV
    rw [if_neg (by rw [hC]; decide), if_neg (by decide), if_neg (by decide), if_neg (by decide), if_pos rfl, hR, hV]
  · unfold krS
    rw [if_neg (by rw [hC]; decide), if_neg (by decide), if_neg (by decide), if_neg (by decide), if_pos rfl, hR, hS]
/-- a name reads as it was -/
theorem id_read (C i : Int) (hC : tyB C = true) (hc : cdB C = true) (hi : idB i = true) (t : ByteArray) :
    rdT C (dtL C 1 [] t) = 1 ∧ rdE C i (dtL C 1 [] t) = 0 ∧ krS C 1 (rdR C (dtL C 1 [] t)) = t := by
  have hl : dtL C 1 [] t = 1 :: t.data.toList := by
    unfold dtL
    rw [if_neg (by rw [hC]; decide), if_pos rfl]
    rfl
  rw [hl]
  have hR : rdR C (1 :: t.data.toList) = t.data.toList := by unfold rdR; rw [if_pos hC]; rfl
  have hT : rdT C (1 :: t.data.toList) = 1 := by unfold rdT; rw [if_pos hC]; rfl
  refine ⟨hT, ?_, ?_⟩
  · unfold rdE
    rw [if_neg (by rw [hi]; decide), if_neg (by rw [hc]; decide), if_pos hC, if_neg (by simp)]
    have e4 : (rvN (1 :: t.data.toList) : Int) = 1 := rfl
    rw [e4]
    unfold krE
    rw [if_neg (by rw [hC]; decide), if_pos rfl]
  · unfold krS
    rw [if_neg (by rw [hC]; decide), if_pos rfl, hR, strOf_self]
theorem SvAt.beside {W W' : World} {lo g tb q : Nat} {name : ByteArray} {tries : Int} {ss : List Sec} {s : SvS} {x : ByteArray} {cs : List Value} (h : SvAt W lo g tb name tries ss s) (hq : Blk W q 102 (.string x :: cs)) (hgq : g < q) (hG : W.grownBy W' (some q)) : SvAt W' lo g tb name tries ss s := by
  have hl := h.lt
  obtain ⟨⟨D, k, d, hb, ho⟩, ht, hk, hs⟩ := h
  exact ⟨⟨D, k, d, blk_off hb hG (by omega), ho.grown hG (own_apart ho hq (by decide))⟩, ht.same fun i _ hi => hG.block i (Nat.lt_trans hi hl) (by intro e; injection e with e; omega), hk.row hq hG, hs.row hq hG⟩
theorem PvAt.beside {W W' : World} {lo g tb q t : Nat} {name : ByteArray} {ss : List Sec} {st : Int} {no : ByteArray} {x : ByteArray} {cs : List Value} (h : PvAt W lo g tb name ss st no) (hq : Blk W q t (.string x :: cs)) (hql : q < lo) (hG : W.grownBy W' (some q)) : PvAt W' lo g tb name ss st no := by
  have hl := h.lt
  have hlo : lo ≤ g := by
    obtain ⟨A, n, c, mb, h1, h2, _⟩ := h.tab
    omega
  exact ⟨blk_off h.blk hG (by omega), h.tab.same fun i hi hi2 => hG.block i (by omega) (by intro e; injection e with e; omega), h.tk.row hq hG, h.ts.row hq hG⟩
end Go.Proofs.YtjimoegegigoiaaDoor
