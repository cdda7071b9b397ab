/-
  slices.DeleteFunc over drop's closure; (*timer.Queue).drop.
-/
import Derived.Test.YtdlnmhobhafobaaTmDel
import Derived.Test.YtdlnmhobhafobaaTmRow
namespace Go.Proofs.Ytdlnmhobhafobaa
open Go.RowKit Go.Shelf
set_option maxRecDepth 100000
set_option maxHeartbeats 2000000
set_option linter.unusedSimpArgs false
set_option linter.unusedVariables false

def without (t : T2) (xs : List T2) : List T2 := xs.filter fun y => decide (y ≠ t)
theorem without_all {t : T2} {xs : List T2} (h : ∀ y ∈ xs, y ≠ t) : without t xs = xs := by
  unfold without
  rw [List.filter_eq_self]
  intro y hy
  simpa using h y hy
theorem without_snoc_eq (t : T2) (xs : List T2) : without t (xs ++ [t]) = without t xs := by
  unfold without
  rw [List.filter_append]
  simp
theorem without_snoc_ne {t x : T2} (xs : List T2) (h : x ≠ t) : without t (xs ++ [x]) = without t xs ++ [x] := by
  unfold without
  rw [List.filter_append]
  simp [h]
theorem without_le (t : T2) (xs : List T2) : (without t xs).length ≤ xs.length := List.length_filter_le _ _
theorem deleteF_any (base tb : Nat) (v : Value) (t : T2) (xs : List T2) (w : World) (ho : OwnT w base v xs) (h : Blk w tb 95 (cellsT t)) (hne : v.ownBlock ≠ some tb) (hm : xs.length ≤ 1152921504606846976) :
    Calls Try.prog 109 #[v, .func (.func 110) #[] #[.pointer (some ⟨tb, 0, none⟩)]] w fun e w' =>
      ∃ v', e = .returned v' ∧ OwnT w' base v' (without t xs) ∧ w.grownBy w' v.ownBlock ∧ v'.ownBlock = v.ownBlock := by
  have IX := Lib.hid (index_any base tb v t xs w ho h hm)
  obtain ⟨A, c, hv, hcl⟩ := ho.slice
  subst hv
  obtain ⟨N, hN⟩ : ∃ N, N = xs.length := ⟨_, rfl⟩
  rw [← hN] at IX hcl hm
  have HO := Lib.hid ho
  have HB := Lib.hid h
  have HN := Lib.hid hN
  rw [← hN]
  clear ho h hN
  go_enter Try.func109, Try.ntmps109
  go_wp2_with fail
  refine IX.out.mono ?_
  rintro e w1 ⟨(⟨k, rfl, hk, hpre⟩ | ⟨rfl, hall⟩), hb1⟩
  case inr =>
    have HW := Lib.hid (without_all hall)
    have HB1 := Lib.hid hb1
    clear hb1 hall
    go_wp2
    go_ret
    refine ⟨_, rfl, ?_, ⟨HB1.out.os, HB1.out.tape, HB1.out.output, HB1.out.size, fun i hi _ => HB1.out.block i hi⟩, rfl⟩
    rw [HW.out, HN.out]
    exact HO.out.later HB1.out
  have hkN : k < N := by have := (List.getElem?_eq_some_iff.1 hk).1; have := HN.out; omega
  obtain ⟨g, rfl⟩ : ∃ g, A = some ⟨g, 0, none⟩ := by
    rcases HO.out.form with ⟨_, e⟩ | ⟨g', cap, e, _⟩
    · rw [e] at hk; simp at hk
    · injection e with e
      exact ⟨g', e⟩
  have hgt : g ≠ tb := fun e => hne (by simp [Value.ownBlock, e])
  have hk1 : ¬ ((k : Int) = -1) := by omega
  have O1 := HO.out.later hb1
  rw [← HN.out] at O1
  have START : Hid (∃ L : List T2, L.length = N ∧ L.take k = without t (xs.take (k + 1)) ∧ L.drop (k + 1) = xs.drop (k + 1) ∧ OwnT w1 base (.slice (some ⟨g, 0, none⟩) N c) L ∧ w.grownBy w1 (some g)) := by
    refine ⟨xs, HN.out.symm, ?_, rfl, O1, ⟨hb1.os, hb1.tape, hb1.output, hb1.size, fun i hi _ => hb1.block i hi⟩⟩
    rw [take_one_more hk, without_snoc_eq, without_all hpre]
  clear O1 hb1 hk hpre
  go_wp2
  go_loopw [5, 6] (fun vi vj ws => ∃ (i j : Nat) (L : List T2), vi = .int .i64 i ∧ vj = .int .i64 j ∧ i < j ∧ j ≤ N ∧ L.length = N ∧ L.take i = without t (xs.take j) ∧ L.drop j = xs.drop j ∧ OwnT ws base (.slice (some ⟨g, 0, none⟩) N c) L ∧ w.grownBy ws (some g)) (fun _ vj _ => N - (intOf vj).toNat)
  case atStart =>
    obtain ⟨L, h1, h2, h3, h4, h5⟩ := START.out
    exact ⟨k, k + 1, L, rfl, by go_num, by omega, by omega, h1, h2, h3, h4, h5⟩
  case round =>
    rename World => wr
    obtain ⟨i, j, L, rfl, rfl, hij, hj, hL, ht, hd, ho, hg⟩ := hrel
    by_cases hlt : j < N
    · obtain ⟨x, hx⟩ : ∃ x, xs[j]? = some x := ⟨xs[j]'(by have := HN.out; omega), List.getElem?_eq_getElem _⟩
      have hLx : L[j]? = some x := by
        have h1 : (L.drop j)[0]? = (xs.drop j)[0]? := by rw [hd]
        simpa [hx] using h1
      obtain ⟨c0, c1⟩ := ho.cell j x hLx
      have hgl : g < wr.heap.size := (ho.block g rfl).2
      have hwr := hg.size
      have hne2 : wr.heap.size ≠ g := by omega
      have htb : Blk (wr.alloc (.cells (cellsT x).toArray 95)) tb 95 (cellsT t) := by
        have := Blk.lt HB.out
        exact (Below.heap_alloc _ _ _ (by omega)).trans ((hg.block tb this (by intro e; injection e with e; exact hgt e.symm)).trans HB.out)
      have DA := Lib.hid (drop1_any tb t x _ htb)
      have j0 : (0 : Int) ≤ (j : Int) := by omega
      have jN : (j : Int) < (N : Int) := by omega
      have HL := Lib.hid hL
      have HT := Lib.hid ht
      have HD := Lib.hid hd
      have HOO := Lib.hid ho
      have HG := Lib.hid hg
      have HX := Lib.hid hx
      clear hL ht hd ho hg hx hLx htb
      go_wp2_with fail
      refine DA.out.mono ?_
      rintro e w2 ⟨rfl, hb2⟩
      have hs2 := hb2.size
      rw [World.size_alloc] at hs2
      have hB2 : Below wr.heap.size wr w2 := ((Below.refl _ _).alloc (Nat.le_refl _) _).trans (hb2.mono (by simp))
      have O2 := HOO.out.later hB2
      have G2 : w.grownBy w2 (some g) := only_then HG.out (grown_of_below hB2) (fun k e => nomatch e)
      have hdrop : L.drop (j + 1) = xs.drop (j + 1) := by
        have h1 := congrArg (List.drop 1) HD.out
        rwa [List.drop_drop, List.drop_drop] at h1
      by_cases hxt : x = t
      · have hdec : decide (x = t) = true := by simpa using hxt
        have REL : Hid (L.take i = without t (xs.take (j + 1)) ∧ L.drop (j + 1) = xs.drop (j + 1) ∧ OwnT w2 base (.slice (some ⟨g, 0, none⟩) N c) L ∧ w.grownBy w2 (some g)) := by
          refine ⟨?_, hdrop, O2, G2⟩
          rw [take_one_more HX.out, hxt, without_snoc_eq]
          exact HT.out
        clear hb2 hB2 O2 G2 hdrop
        go_wp2
        go_roundw
        case rel =>
          (repeat apply Exists.intro)
          exact ⟨⟨i, j + 1, L, rfl, by go_num, by omega, by omega, HL.out, REL.out.1, REL.out.2.1, REL.out.2.2⟩, rfl⟩
        case measure => simp [intOf]; omega
      · have hdec : decide (x = t) = false := by simpa using hxt
        have hiL : i < L.length := by have := HL.out; omega
        obtain ⟨O3, G3⟩ := O2.set2 i x hiL
        have REL : Hid ((L.set i x).length = N ∧ (L.set i x).take (i + 1) = without t (xs.take (j + 1)) ∧ (L.set i x).drop (j + 1) = xs.drop (j + 1) ∧ OwnT ((w2.setCell ⟨g, i * 2, none⟩ (.int .i64 x.1)).setCell ⟨g, i * 2 + 1, none⟩ (.int .i64 x.2)) base (.slice (some ⟨g, 0, none⟩) N c) (L.set i x) ∧ w.grownBy ((w2.setCell ⟨g, i * 2, none⟩ (.int .i64 x.1)).setCell ⟨g, i * 2 + 1, none⟩ (.int .i64 x.2)) (some g)) := by
          refine ⟨by rw [List.length_set]; exact HL.out, ?_, ?_, O3, only_then G2 G3 (fun k e => .inl e)⟩
          · rw [take_one_more HX.out, without_snoc_ne _ hxt, ← HT.out, take_one_more (x := x) (by rw [List.getElem?_set_self hiL]), List.take_set_of_le (Nat.le_refl _)]
          · rw [List.drop_set_of_lt (by omega)]
            exact hdrop
        obtain ⟨y, hy⟩ : ∃ y, L[i]? = some y := ⟨L[i]'hiL, List.getElem?_eq_getElem _⟩
        obtain ⟨d0, d1⟩ := O2.cell i y hy
        have df0 : w2.frozen? ⟨g, i * 2, none⟩ = false := World.ownsRow.frozenAt (by have := O2; rwa [show N = L.length from HL.out.symm] at this) (i * 2)
        have df1 : w2.frozen? ⟨g, i * 2 + 1, none⟩ = false := World.ownsRow.frozenAt (by have := O2; rwa [show N = L.length from HL.out.symm] at this) (i * 2 + 1)
        have hvb : Blk w2 wr.heap.size 95 (cellsT x) := (hb2.block _ (by simp)).trans (blk_new wr _ _)
        have v0 : w2.cell? ⟨wr.heap.size, 0, none⟩ = some (.int .i64 x.1) := hvb.cell 0
        have v1 : w2.cell? ⟨wr.heap.size, 1, none⟩ = some (.int .i64 x.2) := hvb.cell 1
        have i0 : (0 : Int) ≤ (i : Int) := by omega
        have iN : (i : Int) < (N : Int) := by omega
        clear hb2 hB2 O2 G2 hdrop O3 G3 hy hvb
        go_wp2
        go_roundw
        case rel =>
          (repeat apply Exists.intro)
          exact ⟨⟨i + 1, j + 1, L.set i x, by go_num, by go_num, by omega, by omega, REL.out⟩, rfl⟩
        case measure => simp [intOf]; omega
    · obtain rfl : j = N := by omega
      obtain ⟨A', hsf, hA', _⟩ := tslice_from g j c i (by omega) hcl
      have hst := tslice_to g j c i (by omega)
      obtain ⟨w2, hcl2, O2, G2⟩ := clearT ho i (by omega) A' hA'
      have HT : Hid (L.take i = without t xs) := by
        show _ = _
        rw [ht, show xs.take j = xs by rw [HN.out, List.take_length]]
      have POST : Hid (OwnT w2 base (.slice (some ⟨g, 0, none⟩) i c) (without t xs) ∧ w.grownBy w2 (some g)) := ⟨by rw [← HT.out]; exact O2, only_then hg G2 (fun k e => .inl e)⟩
      have i0 : (0 : Int) ≤ (i : Int) := by omega
      have iN : (i : Int) ≤ (j : Int) := by omega
      clear ho hg ht hd hL hA' O2 G2
      go_wp2
      go_ret
      exact ⟨_, rfl, POST.out.1, POST.out.2, rfl⟩
end Go.Proofs.Ytdlnmhobhafobaa
