/-
  slices.Insert of one timer, within, where there is room.
-/
import Derived.Test.YtdlnmhobhafobaaTmInsG
import Derived.Lib.Overlaps
namespace Go.Proofs.Ytdlnmhobhafobaa
open Go.RowKit Go.Shelf
set_option maxRecDepth 100000
set_option maxHeartbeats 2000000
set_option linter.unusedSimpArgs false
set_option linter.unusedVariables false

theorem overlaps_apart (W : World) (g vb : Nat) (cs ds : List Value) (hv : vb ≠ g) (h1 : Blk W vb 95 cs) (h2 : Blk W g 95 ds) (hne : ds.length ≠ 0) (o lb cb : Nat) :
    (callFunc 111 #[.slice (some ⟨vb, 0, none⟩) 1 1, .slice (some ⟨g, o, none⟩) lb cb]).run Try.prog W = .ok (.value (.bool false)) W := by
  have hsa : W.shape? vb = some (95, cs.length) := by
    unfold Blk at h1
    simp [World.shape?, h1]
  have hsb : W.shape? g = some (95, ds.length) := by
    unfold Blk at h2
    simp [World.shape?, h2]
  rw [run_callFunc_extern Try.func111 (by kernel_rfl) (by kernel_rfl) (by kernel_rfl) (e := Extern.SlicesOverlaps.overlaps #[90, 90] #[4]) (by kernel_rfl),
    Lib.run_overlaps_apart W 90 4 95 Try.underlying90 2 timer_sizeOf ⟨vb, 0, none⟩ ⟨g, o, none⟩ 1 1 lb cb hv _ _ _ _ hsa hsb hne (h1.frozen 0) (h1.frozen _)]
  rfl
theorem insert_shift (base vb g n cap i : Nat) (x : T2) (xs : List T2) (w : World) (ho : OwnT w base (.slice (some ⟨g, 0, none⟩) n cap) xs) (hb : base ≤ w.heap.size) (hi : i < n) (hcap : n + 1 ≤ cap) (hx : Blk w vb 95 (cellsT x)) (hv : vb ≠ g) (hsm : n ≤ 100) :
    Calls Try.prog 94 #[.slice (some ⟨g, 0, none⟩) n cap, .int .i64 i, .slice (some ⟨vb, 0, none⟩) 1 1] w fun e w' =>
      e = .returned (.slice (some ⟨g, 0, none⟩) (n + 1) cap) ∧ OwnT w' base (.slice (some ⟨g, 0, none⟩) (n + 1) cap) (ins i x xs) ∧ w.grownBy w' (some g) := by
  obtain ⟨cur, hbk, hbg, hn, hc, hcm, hl, ht⟩ := ho.raw
  have hgl := Blk.lt hbk
  have hvl := Blk.lt hx
  have hX : (xs.flatMap cellsT).length = n * 2 := by rw [flat_length, hn]; omega
  have hdl : (xs.drop i).length = n - i := by rw [List.length_drop, hn]
  have hx1 : ([x] : List T2).flatMap cellsT = cellsT x := by simp
  have hxl : (cellsT x).length = 2 := rfl
  have hbkd : Blk w.drew g 95 cur := hbk
  obtain ⟨w1, hc1, hbk1, hg1⟩ := copyT (w := w.drew) (g := g) hbkd (i + 1) (n - i) (cap - (i + 1)) g (i * 2) (n + 1 - i) (cap - i) (xs.drop i) (by rw [hdl]; omega) (fun j u hj => by
    rw [hbkd.cell]
    rw [← flat_drop, ← ht, List.getElem?_drop, List.getElem?_take] at hj
    split at hj
    · exact hj
    · cases hj) (by rw [hdl]; omega)
  have hx2 : Blk w1 vb 95 (cellsT x) := (hg1.block vb hvl (by intro e; injection e with e; exact hv e)).trans hx
  rw [hdl, ← flat_drop] at hbk1
  have hl1 : (cur.take ((i + 1) * 2) ++ (xs.flatMap cellsT).drop (i * 2) ++ cur.drop ((i + 1) * 2 + (n - i) * 2)).length = cap * 2 := by
    rw [List.length_append, List.length_append, List.length_take, List.length_drop, List.length_drop, hX, hl]
    omega
  obtain ⟨w2, hc2, hbk2, hg2⟩ := copyT (w := w1) (g := g) hbk1 i (n + 1 - i) (cap - i) vb 0 1 1 [x] (by simp; omega) (fun j u hj => by
    rw [Nat.zero_add, hx2.cell j]
    simpa using hj) (by rw [hl1, List.length_singleton]; omega)
  rw [hx1, List.length_singleton] at hbk2
  have POST : Hid (OwnT w2 base (.slice (some ⟨g, 0, none⟩) (n + 1) cap) (ins i x xs) ∧ w.grownBy w2 (some g)) := by
    refine ⟨ownT_mk hbk2 hbg (by rw [ins_length i x xs (by omega), hn]) hcap hcm ?_ ?_, ?_⟩
    · rw [List.length_append, List.length_append, List.length_take, List.length_drop, hl1, hxl]
      omega
    · rw [list_shift hX ht hl hcap (by omega) hxl, ← ins_flat]
    · have h1 : w.grownBy w1 (some g) := ⟨hg1.os, hg1.tape, hg1.output, hg1.size, hg1.block⟩
      exact ⟨hg2.os.trans h1.os, hg2.tape.trans h1.tape, hg2.output.trans h1.output, Nat.le_trans h1.size hg2.size, fun k hk hne => (hg2.block k (Nat.lt_of_lt_of_le hk h1.size) hne).trans (h1.block k hk hne)⟩
  have hsf0 := tslice_from0 g n cap i (by omega) hc (by omega)
  have hst0 := tslice_to g n cap (n + 1) (by omega)
  have hsf1 := tslice_from0 g (n + 1) cap i (by omega) hcap (by omega)
  have hsf2 := tslice_from1 g (n + 1) cap i (by omega) hcap (by omega)
  rw [show (((n + 1 : Nat) : Nat) : Int) = (n : Int) + 1 by omega] at hst0
  have hov := overlaps_apart w g vb _ _ hv hx hbk (by omega) ((i + 1) * 2)
  have H1 := Lib.hid hc1
  have H2 := Lib.hid hc2
  have hin : (i : Int) < (n : Int) := by omega
  have hne : ¬ ((i : Int) = (n : Int)) := by omega
  have i0 : (0 : Int) ≤ (i : Int) := by omega
  have hgt : ¬ ((cap : Int) < (n : Int) + 1) := by omega
  have hn100 : n ≤ 100 := hsm
  have hW : IntKind.i64.wrap ((i : Int) + 1) = (i : Int) + 1 := by
    rw [IntKind.wrap_i64]
    omega
  have hWn : IntKind.i64.wrap ((n : Int) + 1) = (n : Int) + 1 := by
    rw [IntKind.wrap_i64]
    omega
  have i1 : (0 : Int) ≤ (i : Int) + 1 := by omega
  have i2 : (i : Int) + 1 ≤ (n : Int) + 1 := by omega
  have i3 : ((i : Int) + 1).toNat = i + 1 := by omega
  have i4 : ¬ (cap = i + 1) := by omega
  have i5 : ¬ (cap = i) := by omega
  have i6 : (i : Int) ≤ (n : Int) + 1 := by omega
  have i7 : (0 : Int) ≤ (n : Int) + 1 := by omega
  have i8 : (n : Int) + 1 ≤ (cap : Int) := by omega
  have i9 : ((n : Int) + 1).toNat = n + 1 := by omega
  clear ho hb hx hbk hbg hn hc hcm hl ht hX hdl hx1 hxl hbkd hc1 hbk1 hg1 hx2 hl1 hc2 hbk2 hg2
  go_enter Try.func94, Try.ntmps94
  go_wp2_with (simp only [hov])
  go_region_law (refine step_copyT rfl (.tmp 73) (.tmp 76) rfl (.slice (some ⟨g, (i + 1) * 2, none⟩) (n - i) (cap - (i + 1))) (.slice (some ⟨g, i * 2, none⟩) (n + 1 - i) (cap - i)) (by go_simp) (by go_simp) _ _ H1.out ?_)
  all_goals go_wp2_with (refine wpList_copyT rfl (.tmp 80) (.tmp 81) rfl _ _ rfl rfl _ _ H2.out ?_)
  all_goals go_ret
  all_goals exact ⟨rfl, POST.out⟩
end Go.Proofs.Ytdlnmhobhafobaa
