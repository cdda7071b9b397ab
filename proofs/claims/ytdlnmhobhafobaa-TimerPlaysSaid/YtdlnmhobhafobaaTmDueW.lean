/-
  The method Due: the walk.
-/
import Derived.Test.YtdlnmhobhafobaaTmDue
namespace Go.Proofs.Ytdlnmhobhafobaa
open Go.RowKit Go.Shelf
set_option maxRecDepth 100000
set_option maxHeartbeats 2000000
set_option linter.unusedSimpArgs false
set_option linter.unusedVariables false

theorem due_any (base g : Nat) (xs : List T2) (v : Value) (now : Int) (w : World) (h : Qs w base g xs v) (hb : base ≤ w.heap.size) (hm : xs.length ≤ 64) :
    Calls Try.prog 59 #[.pointer (some ⟨g, 0, none⟩), .int .i64 now] w fun e w' =>
      ∃ V v', e = .returned V ∧ OwnI w' w.heap.size V ((xs.take (cnt now xs)).map Prod.fst) ∧ Qs w' base g (xs.drop (cnt now xs)) v' ∧ TmF g v v' w w' ∧ v'.ownBlock = v.ownBlock := by
  have hgl := Blk.lt h.blk
  have CO := Lib.hid (put_come h now hm)
  have hcn := cnt_le now xs
  obtain ⟨k, hk⟩ : ∃ k, k = cnt now xs := ⟨_, rfl⟩
  rw [← hk] at CO hcn ⊢
  obtain ⟨A, c, hsl, hcl⟩ := h.own.slice
  obtain ⟨n, hn⟩ : ∃ n, n = xs.length := ⟨_, rfl⟩
  rw [← hn] at hsl hcl hcn hm
  subst hsl
  have hst : ∀ W, (Instr.slice 90 (.slice A n c) none (some (.int .i64 (k : Int))) none).run Try.prog W = .ok (.slice A k c) W := by
    rcases h.own.form with ⟨e, e2⟩ | ⟨g', cap, e, _, _, _, _⟩
    · injection e with e1 e3 e4
      subst e1 e4
      obtain rfl : k = 0 := by rw [hn, e2] at hcn; simpa using hcn
      intro W
      rw [run_slice_h W 90 _ _ _ (by rw [tslice_elem]; exact Try.underlying90) .i64 _ (by omega) (by omega), tslice_elem, timer_sizeOf]
      rfl
    · injection e with e1 e3 e4
      subst e1
      exact tslice_to g' n c k (by omega)
  have POST : ∀ (V : Value) (w1 w2 : World) (v' : Value), OwnI w1 w.heap.size V ((xs.take k).map Prod.fst) → Below w.heap.size w w1 → OwnT w2 base v' (xs.drop k) → w1.grownBy w2 (Value.slice A n c).ownBlock → v'.ownBlock = (Value.slice A n c).ownBlock →
      Hid (w2.cell? ⟨g, 0, none⟩ = some (.slice A n c) ∧ w2.frozen? ⟨g, 0, none⟩ = false ∧ OwnI (w2.setCell ⟨g, 0, none⟩ v') w.heap.size V ((xs.take k).map Prod.fst) ∧ Qs (w2.setCell ⟨g, 0, none⟩ v') base g (xs.drop k) v' ∧ TmF g (.slice A n c) v' w (w2.setCell ⟨g, 0, none⟩ v')) := by
    intro V w1 w2 v' hV hB hO hg hv
    have hq := h.later hB
    have hbk : Blk w2 g 92 [.slice A n c] := (hg.block g (Blk.lt hq.blk) (fun e => hq.ne e.symm)).trans hq.blk
    have hgs : w2.grownBy (w2.setCell ⟨g, 0, none⟩ v') (some g) := grownBy_setCell' w2 g v'
    have hVb := hV.form.2
    refine ⟨hbk.cell 0, hbk.frozen 0, ?_, ⟨Blk.set_ hbk 0 v', hO.grown hgs (.inr (by rw [hv]; exact h.ne)), by rw [hv]; exact h.ne⟩, (((TmF.refl g _ w).later hB).grownV hg (.inl hv)).grownG hgs (.inl rfl)⟩
    refine (hV.grown hg ?_).grown hgs ?_
    · cases e : V.ownBlock with
      | none => exact .inl rfl
      | some r =>
        refine .inr fun e2 => ?_
        have h1 := (hVb r e).1
        have h2 := (h.own.block r e2.symm).2
        omega
    · cases e : V.ownBlock with
      | none => exact .inl rfl
      | some r =>
        refine .inr fun e2 => ?_
        have h1 := (hVb r e).1
        injection e2 with e2
        omega
  have HP := Lib.hid POST
  have HQ := Lib.hid h
  have HN := Lib.hid hn
  have hk64 : k ≤ 64 := by omega
  have k0 : (0 : Int) ≤ (k : Int) := by omega
  have k1 : (k : Int) ≤ (c : Int) := by omega
  have HK := Lib.hid hk
  clear h hn hk POST
  go_enter Try.func59, Try.ntmps59
  have hc0 : w.cell? ⟨g, 0, none⟩ = some (.slice A n c) := HQ.out.blk.cell 0
  go_wp2_with fail
  go_region_law (go_simp; go_at_call 95; refine (CO.out _ ((Below.refl _ _).drew)).mono ?_; rintro e w1 ⟨rfl, hB2, hB3, hc2⟩; have hg2 : g < w1.heap.size := Nat.lt_of_lt_of_le hgl hB2.size; have HB2 := Lib.hid hB2; clear hB2 hB3)
  all_goals go_wp2
  all_goals
    simp only [List.getElem_toArray, List.getElem_cons_succ, List.getElem_cons_zero, Act.put, List.setIfInBounds_toArray, List.set_cons_succ, List.set_cons_zero]
    go_loopw [5, 19] (fun vl vi wr => ∃ i : Nat, vi = .int .i64 i ∧ i ≤ k ∧ OwnI wr w.heap.size vl ((xs.take i).map Prod.fst) ∧ Below w.heap.size w wr) (fun _ vi _ => k - (intOf vi).toNat)
    case atStart => exact ⟨0, rfl, by omega, OwnI.nil _ _, by first | exact HB2.out | exact HB2.out.drew⟩
    case round =>
      rename World => wr
      obtain ⟨i, rfl, hi, ho, hB⟩ := hrel
      have hlen : ((xs.take i).map Prod.fst).length = i := by
        rw [List.length_map, List.length_take]
        have := HN.out
        omega
      obtain ⟨⟨A2, c2, hsl2, _⟩, _⟩ := ho.form
      rw [hlen] at hsl2
      subst hsl2
      have HO := Lib.hid ho
      have HB := Lib.hid hB
      have hgr : g < wr.heap.size := Nat.lt_of_lt_of_le hgl hB.size
      by_cases hlt : i < k
      · obtain ⟨x, hx⟩ : ∃ x, xs[i]? = some x := ⟨xs[i]'(by have := HN.out; omega), List.getElem?_eq_getElem _⟩
        obtain ⟨gr, rfl⟩ : ∃ gr, A = some ⟨gr, 0, none⟩ := by
          rcases HQ.out.own.form with ⟨_, e⟩ | ⟨g', cap, e, _⟩
          · rw [e] at hx; simp at hx
          · injection e with e
            exact ⟨g', e⟩
        have hOw := HQ.out.own.later (hB.mono (Nat.le_refl _))
        obtain ⟨c0, c1⟩ := hOw.cell i x hx
        have hgrl : gr < wr.heap.size := (hOw.block gr rfl).2
        have hne2 : wr.heap.size ≠ gr := by omega
        have hoa : OwnI (wr.alloc (.cells #[.int .i64 x.1, .int .i64 x.2] 95)) w.heap.size (.slice A2 i c2) ((xs.take i).map Prod.fst) := World.ownsRow.alloc ho _
        obtain ⟨v', w', hrun, ho', hb'⟩ := appI_run hoa x.1 (by rw [hlen]; omega) (by rw [World.size_alloc]; have := hB.size; omega)
        rw [World.size_alloc] at hrun
        have HR := Lib.hid hrun
        have REL : Hid (OwnI w' w.heap.size v' ((xs.take (i + 1)).map Prod.fst) ∧ Below w.heap.size w w') := by
          refine ⟨?_, (hB.alloc hB.size _).trans hb'⟩
          rw [take_one_more hx, List.map_append]
          exact ho'
        have j0 : (0 : Int) ≤ (i : Int) := by omega
        have jN : (i : Int) < (k : Int) := by omega
        clear ho hB hx hOw hoa hrun ho' hb' hlen
        go_wp2_with (at_builtin; refine wpList_appT 99 99 rfl (.tmp 23) (.tmp 26) rfl _ _ rfl rfl _ _ HR.out ?_)
        go_roundw
        case rel => exact ⟨i + 1, by go_num, by omega, REL.out⟩
        case measure => simp [intOf]; omega
      · obtain rfl : i = k := by omega
        have DE := Lib.hid (delete_any base i _ xs wr (HQ.out.own.later (hB.mono (Nat.le_refl _))) (by have := HN.out; omega))
        have hcr : wr.cell? ⟨g, 0, none⟩ = some (.slice A n c) := (HQ.out.later hB).blk.cell 0
        clear ho hB hlen
        go_wp2_with (go_at_call 98; refine DE.out.mono ?_; rintro e w2 ⟨v', rfl, ho', hg', hv'⟩; have hP := HP.out _ wr w2 v' HO.out HB.out ho' hg' hv'; obtain ⟨A', c', hsl, _⟩ := ho'.slice; obtain ⟨m', hm'⟩ : ∃ m', m' = (xs.drop i).length := ⟨_, rfl⟩; rw [← hm'] at hsl; clear hm'; subst hsl; obtain ⟨hc2', hf2', hP2⟩ := hP.out; have HQ2 := Lib.hid hP2; clear hP2 hP ho' hg'; have HV := Lib.hid hv'; clear hv')
        go_ret
        exact ⟨_, _, rfl, HQ2.out.1, HQ2.out.2.1, HQ2.out.2.2, HV.out⟩
end Go.Proofs.Ytdlnmhobhafobaa
