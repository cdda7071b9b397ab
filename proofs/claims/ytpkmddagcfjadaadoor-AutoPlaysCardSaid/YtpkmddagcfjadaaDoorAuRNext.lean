/-
  tetherref10.Next: the chapter's table, read from its text.
-/
import Derived.Test.YtpkmddagcfjadaaDoorAuRow
import Derived.Test.YtpkmddagcfjadaaDoorAuAct
namespace Go.Proofs.YtpkmddagcfjadaaDoor
open Go.RowKit
set_option maxRecDepth 100000
set_option maxHeartbeats 2000000
set_option linter.unusedSimpArgs false
set_option linter.unusedVariables false

/-- what the scan has found behind k bytes: the actions, and where the next word begins -/
def prs (l : List UInt8) : Nat → List Int × Nat
  | 0 => ([], 0)
  | k + 1 => if l.getD k 0 = 32 ∨ l.getD k 0 = 47 then ((if (prs l k).2 < k then (prs l k).1 ++ [act ((l.drop (prs l k).2).take (k - (prs l k).2))] else (prs l k).1), k + 1) else prs l k
theorem prs_bounds (l : List UInt8) : ∀ k, (prs l k).2 ≤ k ∧ (prs l k).1.length ≤ k
  | 0 => ⟨Nat.le_refl _, Nat.le_refl _⟩
  | k + 1 => by
    have h := prs_bounds l k
    unfold prs
    split
    · refine ⟨Nat.le_refl _, ?_⟩
      dsimp only
      split
      · rw [List.length_append, List.length_singleton]; omega
      · omega
    · exact ⟨by omega, by omega⟩
/-- each entry's text says what the table's number says -/
def rowB (i : Nat) : Bool := if auT.getD i 0 = 15 then decide (auRows.getD i [] = [45]) else
  decide (auRows.getD i [] ≠ [45]) && decide ((prs (auRows.getD i []) (auRows.getD i []).length).1 = dg (auT.getD i 0 / 16)) && decide (1 ≤ (auRows.getD i []).length) && decide ((auRows.getD i []).length ≤ 14) &&
    decide (((auRows.getD i []).getD ((auRows.getD i []).length - 1) 0).toNat = 48 + auT.getD i 0 % 16) && decide (auT.getD i 0 % 16 < 10)
theorem row_all : ∀ i, i < 160 → rowB i = true := by decide +kernel

theorem rnext_bad (s e : Int) (w : World) (h : ¬ (0 ≤ s ∧ s ≤ 9 ∧ 0 ≤ e ∧ e ≤ 15)) : Calls Tryd.prog 13 #[.int .i64 s, .int .i64 e] w fun r w' => r = .returned (.tuple #[.int .i64 0, .slice none 0 0, .int .i64 1]) ∧ w = w' := by
  by_cases a1 : s < 0
  · clear h
    go_enter Tryd.func13, Tryd.ntmps13
    go_wp2
    go_ret3
    exact ⟨rfl, rfl⟩
  · by_cases a2 : 9 < s
    · clear h
      go_enter Tryd.func13, Tryd.ntmps13
      go_wp2
      go_ret3
      exact ⟨rfl, rfl⟩
    · by_cases a3 : e < 0
      · clear h
        go_enter Tryd.func13, Tryd.ntmps13
        go_wp2
        go_ret3
        exact ⟨rfl, rfl⟩
      · have a4 : 15 < e := by omega
        clear h
        go_enter Tryd.func13, Tryd.ntmps13
        go_wp2
        go_ret3
        exact ⟨rfl, rfl⟩
theorem rowC_at (e s : Nat) (hs : s < 10) : (rowC e)[s]? = some (.string ⟨(auRows.getD (e * 10 + s) []).toArray⟩) := by
  unfold rowC
  rw [List.getElem?_map, List.getElem?_range hs]
  rfl
theorem rnext_never (s e : Nat) (w : World) (hs : s < 10) (he : e < 16) (hn : auN s e = 15) : Calls Tryd.prog 13 #[.int .i64 s, .int .i64 e] w fun r w' => r = .returned (.tuple #[.int .i64 0, .slice none 0 0, .int .i64 290]) ∧ Below w.heap.size w w' := by
  have ht : auRows.getD (e * 10 + s) [] = [45] := by
    have h := row_all (e * 10 + s) (by omega)
    unfold rowB at h
    rw [show auT.getD (e * 10 + s) 0 = 15 from hn, if_pos rfl] at h
    exact of_decide_eq_true h
  have HC : Hid ((rowC e)[s]? = some (.string ⟨#[45]⟩)) := by
    show _ = _
    rw [rowC_at e s hs, ht]
  clear hn ht
  go_enter Tryd.func13, Tryd.ntmps13
  go_wp2_with (go_at_call 40; ((with_reducible refine (row_any e he w).mono ?_); rintro r w1 ⟨g, rfl, hb, hl⟩; have hc : w1.cell? ⟨g, s, none⟩ = some (.string ⟨#[45]⟩) := (hb.cell s).trans HC.out; have HL := Lib.hid hl; clear hb hl))
  go_ret3
  exact ⟨rfl, HL.out⟩
theorem ownI_shape {w : World} {base : Nat} {v : Value} {l : List Int} (h : OwnI w base v l) : ∃ A m c, v = .slice A m c := by
  obtain ⟨A, c, e, _⟩ := h.slice
  exact ⟨A, _, c, e⟩
def ScanJ (w W : World) (l : List UInt8) (k : Nat) (v : Value) (f : Nat) : Prop := OwnI W w.heap.size v (prs l k).1 ∧ f = (prs l k).2 ∧ Below w.heap.size w W
theorem scan_skip {w W : World} {l : List UInt8} {k f : Nat} {v : Value} (h : ScanJ w W l k v f) (hc : ¬ (l.getD k 0 = 32 ∨ l.getD k 0 = 47)) : ScanJ w W l (k + 1) v f := by
  have e : prs l (k + 1) = prs l k := if_neg hc
  unfold ScanJ
  rw [e]
  exact h
theorem scan_empty {w W : World} {l : List UInt8} {k f : Nat} {v : Value} (h : ScanJ w W l k v f) (hc : l.getD k 0 = 32 ∨ l.getD k 0 = 47) (hf : ¬ f < k) : ScanJ w W l (k + 1) v (k + 1) := by
  have e : prs l (k + 1) = ((prs l k).1, k + 1) := by
    have h2 := h.2.1
    subst h2
    show (if _ then _ else _) = _
    rw [if_pos hc, if_neg hf]
  unfold ScanJ
  rw [e]
  exact ⟨h.1, rfl, h.2.2⟩
theorem scan_word {w W : World} {l : List UInt8} {k f : Nat} {v : Value} {z : Int} (h : ScanJ w W l k v f) (hk : k ≤ 1000) (hc : l.getD k 0 = 32 ∨ l.getD k 0 = 47) (hf : f < k) (hz : act ((l.drop f).take (k - f)) = z) (W2 : World) (hb : Below W.heap.size W W2) :
    ∃ v' W', (Builtin.append_ #[22, 22] 22 #[v, .slice (some ⟨W2.heap.size, 0, none⟩) 1 1]).run Tryd.prog (W2.alloc (.cells #[.int .i64 z] 3)) = .ok v' W' ∧ ScanJ w W' l (k + 1) v' (k + 1) := by
  have e : prs l (k + 1) = ((prs l k).1 ++ [act ((l.drop f).take (k - f))], k + 1) := by
    have h2 := h.2.1
    subst h2
    show (if _ then _ else _) = _
    rw [if_pos hc, if_pos hf]
  have hB := h.2.2.trans (hb.mono h.2.2.size)
  have hbd := prs_bounds l k
  obtain ⟨v', W', hrun, h3, h4, _, _⟩ := appI_one (h.1.later hb) z (by omega) hB.size
  refine ⟨v', W', hrun, ?_⟩
  unfold ScanJ
  rw [e, hz]
  exact ⟨h3, rfl, hB.trans h4⟩
theorem rnext_good (s e : Nat) (w : World) (hs : s < 10) (he : e < 16) (x : Nat) (hx : auN s e = x) (hn : x ≠ 15) : Calls Tryd.prog 13 #[.int .i64 s, .int .i64 e] w fun r w' => ∃ v, r = .returned (.tuple #[.int .i64 ((x % 16 : Nat) : Int), v, .int .i64 0]) ∧ OwnI w' w.heap.size v (dg (x / 16)) ∧ Below w.heap.size w w' := by
  obtain ⟨T, hT⟩ : ∃ T : ByteArray, T = ⟨(auRows.getD (e * 10 + s) []).toArray⟩ := ⟨_, rfl⟩
  have hTl : T.data.toList = auRows.getD (e * 10 + s) [] := by rw [hT]
  have hTs : T.size = T.data.toList.length := rfl
  have h := row_all (e * 10 + s) (by omega)
  unfold rowB at h
  rw [show auT.getD (e * 10 + s) 0 = x from hx, if_neg hn] at h
  simp only [Bool.and_eq_true, decide_eq_true_eq] at h
  rw [← hTl] at h
  obtain ⟨⟨⟨⟨⟨h1, h2⟩, h3⟩, h4⟩, h5⟩, h6⟩ := h
  have HC : Hid ((rowC e)[s]? = some (.string T)) := by
    show _ = _
    rw [rowC_at e s hs, hT]
  have te : (T.toList == [45]) = false := by
    rw [beq_eq_false_iff_ne, Lib.toList_data]
    exact h1
  rw [← hTs] at h3 h4
  have H2 := Lib.hid h2
  have H5 := Lib.hid h5
  clear hx hn hT hTl hTs h1 h2 h5
  go_enter Tryd.func13, Tryd.ntmps13
  go_wp2_with (go_at_call 40; ((with_reducible refine (row_any e he w).mono ?_); rintro r w1 ⟨g, rfl, hb, hl⟩; have hc : w1.cell? ⟨g, s, none⟩ = some (.string T) := (hb.cell s).trans HC.out; have HL := Lib.hid hl; clear hb hl))
  go_loopw [34, 8, 9] (fun i v f wr => ∃ (k f0 : Nat), k ≤ T.size ∧ i = .int .i64 k ∧ f = .int .i64 f0 ∧ ScanJ w wr T.data.toList k v f0) (fun i _ _ _ => T.size - (intOf i).toNat)
  case atStart => exact ⟨0, 0, Nat.zero_le _, rfl, rfl, OwnI.nil _ _, rfl, HL.out⟩
  case round =>
    rename_i wr
    obtain ⟨k, f0, hk, rfl, rfl, hj⟩ := hrel
    obtain ⟨A0, m0, c0, rfl⟩ := ownI_shape hj.1
    have hfk : f0 ≤ k := by rw [hj.2.1]; exact (prs_bounds _ k).1
    by_cases hlt : k < T.size
    · obtain ⟨c, hcc⟩ : ∃ c, T[k]'hlt = c := ⟨_, rfl⟩
      have hidx : ∀ h, T[k]'h = c := fun _ => hcc
      have hgd : T.data.toList.getD k 0 = c := by
        rw [← hcc, List.getD_eq_getElem?_getD, List.getElem?_eq_getElem (show k < T.data.toList.length from hlt)]
        rfl
      clear hcc
      by_cases hsep : c = 32 ∨ c = 47
      · have hS : T.data.toList.getD k 0 = 32 ∨ T.data.toList.getD k 0 = 47 := by rw [hgd]; exact hsep
        by_cases hf : f0 < k
        · obtain ⟨z, hz⟩ : ∃ z, act (T.extract f0 k).data.toList = z := ⟨_, rfl⟩
          have AC : Hid (∀ W, Calls Tryd.prog 41 #[.string (T.extract f0 k)] W fun e w' => e = .returned (.int .i64 z) ∧ Below W.heap.size W w') := by
            show ∀ W, _
            intro W
            rw [← hz]
            exact action_any _ W
          rw [Lib.extract_data] at hz
          have KEY := Lib.hid (scan_word hj (by omega) hS hf hz)
          clear hj hS hz hgd
          rcases hsep with rfl | rfl
          all_goals
            go_wp2_with (first
              | (go_at_call 41; ((with_reducible refine (AC.out _).mono ?_); rintro e w2 ⟨rfl, hb⟩; obtain ⟨v', W', hrun, hj2⟩ := KEY.out w2 hb; have RUN := Lib.hid hrun; have NX := Lib.hid hj2; clear hrun hj2 KEY hb))
              | (at_builtin; refine wpList_appR 22 22 rfl (.tmp 50) (.tmp 56) rfl _ _ rfl rfl _ _ RUN.out ?_))
            go_roundw
            case rel => exact ⟨k + 1, k + 1, by omega, by go_num, by go_num, NX.out⟩
            case measure => simp [intOf]; omega
        · have NX := Lib.hid (scan_empty hj hS hf)
          clear hj hS hgd
          rcases hsep with rfl | rfl
          all_goals
            go_wp2
            go_roundw
            case rel => exact ⟨k + 1, k + 1, by omega, by go_num, by go_num, NX.out⟩
            case measure => simp [intOf]; omega
      · have NX := Lib.hid (scan_skip hj (by rw [hgd]; exact hsep))
        have t32 : ((c.toNat : Int) == 32) = false := by
          simp
          intro h
          exact hsep (.inl (UInt8.toNat_inj.1 (by show c.toNat = 32; omega)))
        have t47 : ((c.toNat : Int) == 47) = false := by
          simp
          intro h
          exact hsep (.inr (UInt8.toNat_inj.1 (by show c.toNat = 47; omega)))
        clear hj hgd hsep
        go_wp2
        go_roundw
        case rel => exact ⟨k + 1, f0, by omega, by go_num, rfl, NX.out⟩
        case measure => simp [intOf]; omega
    · obtain rfl : k = T.size := by omega
      have NX := Lib.hid hj
      clear hj
      obtain ⟨q, hq⟩ : ∃ q, T.size = q + 1 := ⟨T.size - 1, by omega⟩
      have hqs : q < T.size := by omega
      obtain ⟨c, hcc⟩ : ∃ c, T[q]'hqs = c := ⟨_, rfl⟩
      have hidx : ∀ h, T[q]'h = c := fun _ => hcc
      have hgd : T.data.toList.getD q 0 = c := by
        rw [← hcc, List.getD_eq_getElem?_getD, List.getElem?_eq_getElem (show q < T.data.toList.length from hqs)]
        rfl
      have h5 := H5.out
      rw [show T.data.toList.length - 1 = q by have : T.data.toList.length = T.size := rfl; omega, hgd] at h5
      obtain ⟨d, hd⟩ : ∃ d, x % 16 = d := ⟨_, rfl⟩
      rw [hd] at h5 h6
      have HD := Lib.hid hd
      have HP : Hid ((prs T.data.toList T.size).1 = dg (x / 16)) := H2.out
      have i1 : ((T.size : Int) - 1).toNat = q := by omega
      have i2 : 0 ≤ (T.size : Int) - 1 := by omega
      have i3 : (T.size : Int) - 1 < (T.size : Int) := by omega
      have i4 : 1 ≤ (T.size : Int) := by omega
      have v1 : (48 : Int) ≤ (c.toNat : Int) := by omega
      have v2 : (c.toNat : Int) ≤ 57 := by omega
      have HV : Hid ((c.toNat : Int) - 48 = (d : Int)) := by show _ = _; omega
      clear hcc hgd h5 hd H2 H5 hq
      go_wp2
      go_ret3
      refine ⟨_, by rw [HD.out, ← HV.out]; rfl, by rw [← HP.out]; exact NX.out.1, NX.out.2.2⟩
theorem rnext_any (s e : Int) (w : World) : Calls Tryd.prog 13 #[.int .i64 s, .int .i64 e] w fun r w' => ∃ v, r = .returned (.tuple #[.int .i64 (nxS s e), v, .int .i64 (nxE s e)]) ∧ OwnI w' w.heap.size v (nxA s e) ∧ Below w.heap.size w w' := by
  by_cases h : 0 ≤ s ∧ s ≤ 9 ∧ 0 ≤ e ∧ e ≤ 15
  · obtain ⟨k, rfl⟩ := Int.eq_ofNat_of_zero_le h.1
    obtain ⟨j, rfl⟩ := Int.eq_ofNat_of_zero_le h.2.2.1
    by_cases hn : auN k j = 15
    · obtain ⟨h1, h2, h3⟩ := nx_never (by omega) (by omega) hn
      rw [h1, h2, h3]
      refine (rnext_never k j w (by omega) (by omega) hn).mono ?_
      rintro r w' ⟨rfl, hb⟩
      exact ⟨_, rfl, OwnI.nil _ _, hb⟩
    · obtain ⟨h1, h2, h3⟩ := nx_good (by omega) (by omega) hn
      rw [h1, h2, h3]
      exact rnext_good k j w (by omega) (by omega) _ rfl hn
  · obtain ⟨h1, h2, h3⟩ := nx_bad h
    rw [h1, h2, h3]
    refine (rnext_bad s e w h).mono ?_
    rintro r w' ⟨rfl, rfl⟩
    exact ⟨_, rfl, OwnI.nil _ _, Below.refl _ _⟩
end Go.Proofs.YtpkmddagcfjadaaDoor
