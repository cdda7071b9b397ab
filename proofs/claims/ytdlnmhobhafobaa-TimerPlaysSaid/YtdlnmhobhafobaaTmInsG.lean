/-
  slices.Insert of one timer, within: where there is no room, and where there is.
-/
import Derived.Test.YtdlnmhobhafobaaTmInsW
namespace Go.Proofs.Ytdlnmhobhafobaa
open Go.RowKit Go.Shelf
set_option maxRecDepth 100000
set_option maxHeartbeats 2000000
set_option linter.unusedSimpArgs false
set_option linter.unusedVariables false

theorem tslice_from1 (g n cap i : Nat) (hi : i + 1 ≤ n) (hc : n ≤ cap) (h2 : i + 1 < cap) : ∀ W, (Instr.slice 90 (.slice (some ⟨g, 0, none⟩) n cap) (some (.int .i64 ((i : Int) + 1))) none none).run Try.prog W = .ok (.slice (some ⟨g, (i + 1) * 2, none⟩) (n - (i + 1)) (cap - (i + 1))) W := by
  intro W
  obtain ⟨A', h, hA, _⟩ := tslice_from g n cap (i + 1) hi hc
  rw [hA h2] at h
  exact h W
theorem tslice_from0 (g n cap i : Nat) (hi : i ≤ n) (hc : n ≤ cap) (h2 : i < cap) : ∀ W, (Instr.slice 90 (.slice (some ⟨g, 0, none⟩) n cap) (some (.int .i64 (i : Int))) none none).run Try.prog W = .ok (.slice (some ⟨g, i * 2, none⟩) (n - i) (cap - i)) W := by
  intro W
  obtain ⟨A', h, hA, _⟩ := tslice_from g n cap i hi hc
  rw [hA h2] at h
  exact h W
theorem insert_grow (base vb g n cap i : Nat) (x : T2) (xs : List T2) (w : World) (ho : OwnT w base (.slice (some ⟨g, 0, none⟩) n cap) xs) (hb : base ≤ w.heap.size) (hi : i < n) (hcap : cap < n + 1) (hx : Blk w vb 95 (cellsT x)) (hsm : n ≤ 100) :
    Calls Try.prog 94 #[.slice (some ⟨g, 0, none⟩) n cap, .int .i64 i, .slice (some ⟨vb, 0, none⟩) 1 1] w fun e w' =>
      ∃ c', e = .returned (.slice (some ⟨w.heap.size, 0, none⟩) (n + 1) c') ∧ OwnT w' w.heap.size (.slice (some ⟨w.heap.size, 0, none⟩) (n + 1) c') (ins i x xs) ∧ Below w.heap.size w w' := by
  obtain ⟨cur, hbk, hbg, hn, hc, hcm, hl, ht⟩ := ho.raw
  have hgl := Blk.lt hbk
  have hvl := Blk.lt hx
  obtain ⟨c', w1, hz, oz, bz⟩ := appZ ho i (n + 1 - i) (by omega) (by omega) (by omega) (by omega)
  rw [show i + (n + 1 - i) = n + 1 by omega] at hz oz
  have hkc : ((n + 1 - i : Nat) : Int) = (n : Int) + 1 - (i : Int) := by omega
  rw [hkc] at hz
  obtain ⟨cur1, hbk1, _, hn1, hc1, hcm1, hl1, ht1⟩ := oz.raw
  obtain ⟨Z, hZ⟩ : ∃ Z, Z = (List.replicate (n + 1 - i) ((0, 0) : T2)).flatMap cellsT := ⟨_, rfl⟩
  have hZl : Z.length = (n + 1 - i) * 2 := by rw [hZ, flat_length, List.length_replicate]; omega
  have hX : (xs.flatMap cellsT).length = n * 2 := by rw [flat_length, hn]; omega
  have hdec : cur1 = (xs.flatMap cellsT).take (i * 2) ++ Z ++ cur1.drop ((n + 1) * 2) := by
    rw [flat_take, hZ, ← List.flatMap_append, ← ht1, List.take_append_drop]
  obtain ⟨R, hR⟩ : ∃ R, R = cur1.drop ((n + 1) * 2) := ⟨_, rfl⟩
  rw [← hR] at hdec
  have hRl : R.length = c' * 2 - (n + 1) * 2 := by rw [hR, List.length_drop, hl1]
  rw [hdec] at hbk1
  have hs1 := Blk.lt hbk1
  obtain ⟨w2, hc2, hbk2, hg2⟩ := copyT (w := w1) (g := w.heap.size) hbk1 i (n + 1 - i) (c' - i) vb 0 1 1 [x] (by simp; omega) (fun j u hj => by
    rw [Nat.zero_add]
    have h := (bz.block vb hvl).trans hx
    rw [Blk.cell h j]
    simpa using hj) (by rw [List.length_append, List.length_append, List.length_take, hX, hZl, hRl, List.length_singleton]; omega)
  have hg2s := hg2.size
  have hbkg2 : Blk w2.drew g 95 cur := (hg2.block g (by omega) (by intro e; injection e with e; omega)).trans ((bz.block g hgl).trans hbk)
  have hx1 : ([x] : List T2).flatMap cellsT = cellsT x := by simp
  have hxl : (cellsT x).length = 2 := rfl
  rw [hx1, List.length_singleton] at hbk2
  have hdl : (xs.drop i).length = n - i := by rw [List.length_drop, hn]
  obtain ⟨w3, hc3, hbk3, hg3⟩ := copyT (w := w2.drew) (g := w.heap.size) (show Blk w2.drew w.heap.size _ _ from hbk2) (i + 1) (n - i) (c' - (i + 1)) g (i * 2) (n - i) (cap - i) (xs.drop i) (by rw [hdl]; omega) (fun j u hj => by
    rw [hbkg2.cell]
    rw [← flat_drop, ← ht, List.getElem?_drop, List.getElem?_take] at hj
    split at hj
    · exact hj
    · cases hj) (by rw [hdl, List.length_append, List.length_append, List.length_take, List.length_drop, List.length_append, List.length_append, List.length_take, hX, hZl, hRl, hxl]; omega)
  rw [hdl, ← flat_drop, list_grow (c := cellsT x) hX (by omega) rfl hZl, ← ins_flat] at hbk3
  have POST : Hid (OwnT w3 w.heap.size (.slice (some ⟨w.heap.size, 0, none⟩) (n + 1) c') (ins i x xs) ∧ Below w.heap.size w w3) := by
    have hfl : ((ins i x xs).flatMap cellsT).length = (n + 1) * 2 := by rw [flat_length, ins_length i x xs (by omega), hn]; omega
    refine ⟨ownT_mk hbk3 (Nat.le_refl _) (by rw [ins_length i x xs (by omega), hn]) hc1 hcm1 (by rw [List.length_append, hfl, hRl]; omega) (by rw [List.take_append_of_le_length (by omega), List.take_of_length_le (by omega)]), ?_⟩
    exact (bz.grown hg2 (by omega) (fun k e => by cases e; exact Nat.le_refl _)).grown (⟨hg3.os, hg3.tape, hg3.output, hg3.size, hg3.block⟩ : w2.grownBy w3 (some w.heap.size)) (by omega) (fun k e => by cases e; exact Nat.le_refl _)
  have hsf0 := tslice_from0 g n cap i (by omega) hc (by omega)
  have hst0 := tslice_to g n cap i (by omega)
  have hsf1 := tslice_from0 w.heap.size (n + 1) c' i (by omega) hc1 (by omega)
  have hsf2 := tslice_from1 w.heap.size (n + 1) c' i (by omega) hc1 (by omega)
  have HZ := Lib.hid hz
  have H2 := Lib.hid hc2
  have H3 := Lib.hid hc3
  have hin : (i : Int) < (n : Int) := by omega
  have hne : ¬ ((i : Int) = (n : Int)) := by omega
  have i0 : (0 : Int) ≤ (i : Int) := by omega
  have hgt : (cap : Int) < (n : Int) + 1 := by omega
  have hn100 : n ≤ 100 := hsm
  have hW : IntKind.i64.wrap ((i : Int) + 1) = (i : Int) + 1 := by
    rw [IntKind.wrap_i64]
    omega
  have i1 : (0 : Int) ≤ (i : Int) + 1 := by omega
  have i2 : (i : Int) + 1 ≤ (n : Int) + 1 := by omega
  have i3 : ((i : Int) + 1).toNat = i + 1 := by omega
  have i4 : ¬ (c' = i + 1) := by omega
  clear ho hb hx hbk hbg hn hc hcm hl ht hz oz bz hkc hbk1 hn1 hc1 hcm1 hl1 ht1 hZ hZl hX hdec hR hRl hc2 hbk2 hg2 hg2s hbkg2 hdl hc3 hbk3 hg3 hx1 hxl hs1
  go_enter Try.func94, Try.ntmps94
  go_wp2_with (first
    | (at_builtin; refine wpList_appT 90 3 rfl (.tmp 34) (.tmp 39) rfl _ _ rfl rfl _ _ HZ.out ?_)
    | (refine wpList_copyT rfl (.tmp 43) (.tmp 44) rfl _ _ rfl rfl _ _ H2.out ?_))
  go_region_law (refine step_copyT rfl (.tmp 50) (.tmp 53) rfl (.slice (some ⟨w.heap.size, (i + 1) * 2, none⟩) (n - i) (c' - (i + 1))) (.slice (some ⟨g, i * 2, none⟩) (n - i) (cap - i)) (by go_simp) (by go_simp) _ _ H3.out ?_)
  all_goals go_wp2
  all_goals go_ret
  all_goals exact ⟨_, rfl, POST.out⟩
end Go.Proofs.Ytdlnmhobhafobaa
