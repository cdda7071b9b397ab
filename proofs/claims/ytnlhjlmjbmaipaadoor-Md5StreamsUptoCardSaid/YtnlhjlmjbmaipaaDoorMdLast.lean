/-
  (*md5.Stream).last: the words behind the last whole block.
-/
import Derived.Test.YtnlhjlmjbmaipaaDoorMdStream
import Derived.Deep.RegionWith
import Derived.Deep.RegionHeld3
import Derived.RegionTactic
import Derived.BigRegion
namespace Go.Proofs.YtnlhjlmjbmaipaaDoor
open Go.RowKit
set_option maxRecDepth 100000
set_option maxHeartbeats 1000000
set_option linter.unusedSimpArgs false
set_option linter.unusedVariables false

theorem info4 : (Tryd.prog.info? 50).map (·.size) = some 4 := by kernel_rfl
theorem flat4 : ∀ (vs : List W4) (i r : Nat) (x : W4), vs[i]? = some x → r < 4 → (vs.flatMap cells4)[4 * i + r]? = (cells4 x)[r]?
  | [], i, r, x, h, _ => by simp at h
  | y :: vs, 0, r, x, h, hr => by
    simp at h
    subst h
    rw [List.flatMap_cons, List.getElem?_append_left (by show _ < 4; omega)]
    congr 1
    omega
  | y :: vs, i + 1, r, x, h, hr => by
    rw [List.flatMap_cons, List.getElem?_append_right (by show 4 ≤ _; omega)]
    have := flat4 vs i r x (by simpa using h) hr
    rw [← this]
    congr 1
    show 4 * (i + 1) + r - 4 = _
    omega
theorem OwnW.form {w : World} {base : Nat} {v : Value} {vs : List W4} (h : OwnW w base v vs) :
    (v = .slice none 0 0 ∧ vs = []) ∨ ∃ g cap, v = .slice (some ⟨g, 0, none⟩) vs.length cap ∧ base ≤ g ∧ g < w.heap.size ∧ vs.length ≤ cap ∧ cap ≤ maxLen := by
  rcases h.2 with ⟨e, h0⟩ | ⟨g, cap, cur, e, hb, hg, hc, hm, _⟩
  · exact .inl ⟨e, List.eq_nil_of_length_eq_zero h0⟩
  · exact .inr ⟨g, cap, e, hb, (Array.getElem?_eq_some_iff.1 hg).1, hc, hm⟩
theorem OwnW.cell {w : World} {base g n cap : Nat} {vs : List W4} (h : OwnW w base (.slice (some ⟨g, 0, none⟩) n cap) vs) (i r : Nat) (x : W4) (hx : vs[i]? = some x) (hr : r < 4) (u : Value) (hu : (cells4 x)[r]? = some u) :
    w.cell? ⟨g, 4 * i + r, none⟩ = some u := by
  have h1 := World.ownsRow.cells h (g := g) rfl (4 * i + r) u (by rw [flat4 vs i r x hx hr]; exact hu)
  have e : (⟨g, 0, none⟩ : Addr).add (4 * i + r) = ⟨g, 4 * i + r, none⟩ := by
    unfold Addr.add
    split
    · rename_i h; rw [h]
    · simp
  rw [e] at h1
  exact h1
theorem last_none (base g n : Nat) (rest : List UInt8) (v : Value) (W : World) (h : St W base g [] rest n v) :
    Calls Tryd.prog 22 #[.pointer (some ⟨g, 0, none⟩)] W fun e w' => e = .returned (.agg (cells4 mdBegin).toArray) ∧ Below W.heap.size W w' := by
  have hv := h.slice
  have hlen : ∃ A cap, v = .slice A 0 cap := by
    rcases h.own.form with ⟨e, _⟩ | ⟨g', cap, e, _⟩
    · exact ⟨_, _, e⟩
    · exact ⟨_, _, e⟩
  obtain ⟨A, cap, rfl⟩ := hlen
  have hgl := Blk.lt h.blk
  have hne : W.heap.size ≠ g := by omega
  have hne2 : ¬ g = W.heap.size := by omega
  clear h
  obtain ⟨W1, hW1⟩ : ∃ W1, W1 = W.alloc (.cells [.int .u32 0, .int .u32 0, .int .u32 0, .int .u32 0].toArray 50) := ⟨_, rfl⟩
  go_enter Tryd.func22, Tryd.ntmps22
  go_wp2_with fail
  refine (begin_any _).mono ?_
  rintro e w1 ⟨rfl, hb1⟩
  rw [← hW1] at hb1
  have hs1 : W1.heap.size = W.heap.size + 1 := by rw [hW1, World.size_alloc]
  obtain ⟨W3, hst, hbk, hgw⟩ := store_all2 (show Blk w1 W.heap.size 50 [.int .u32 0, .int .u32 0, .int .u32 0, .int .u32 0] from (hb1.block _ (by omega)).trans (by rw [hW1]; exact blk_new W _ _)) (show (cells4 mdBegin).length = _ by simp [cells4]) (cells4_one2 mdBegin)
  have hB0 : Below W.heap.size W W1 := by rw [hW1]; exact (Below.refl _ _).alloc (Nat.le_refl _) _
  have hs2 := hb1.size
  have BF := Lib.hid ((hB0.trans (hb1.mono (by omega))).grown hgw (by omega) (fun k e => by cases e; omega))
  have BK := Lib.hid hbk
  clear hbk hgw hb1 hB0 hW1
  go_wp2
  exact bodyPost_ret (results_cell_row rfl _ _ W.heap.size 50 _ (0, 0) _ rfl BK.out Tryd.underlying50 rfl info4) rfl ⟨rfl, BF.out⟩
theorem last_some (base g n : Nat) (vs : List W4) (x : W4) (rest : List UInt8) (v : Value) (W : World) (h : St W base g (vs ++ [x]) rest n v) (hk : vs.length ≤ 1152921504606846976) :
    Calls Tryd.prog 22 #[.pointer (some ⟨g, 0, none⟩)] W fun e w' => e = .returned (.agg (cells4 x).toArray) ∧ Below W.heap.size W w' := by
  have hv := h.slice
  have ho := h.own
  obtain ⟨g', cap, rfl, hb, hg, hc, hm⟩ : ∃ g' cap, v = .slice (some ⟨g', 0, none⟩) (vs ++ [x]).length cap ∧ base ≤ g' ∧ g' < W.heap.size ∧ (vs ++ [x]).length ≤ cap ∧ cap ≤ maxLen := by
    rcases h.own.form with ⟨_, e⟩ | h
    · simp at e
    · exact h
  obtain ⟨k, hk1⟩ : ∃ k, k = vs.length := ⟨_, rfl⟩
  rw [show (vs ++ [x]).length = k + 1 by rw [hk1]; simp] at hv ho hc
  have hx : (vs ++ [x])[k]? = some x := by rw [hk1]; simp
  have c0 := ho.cell k 0 x hx (by omega) (.int .u32 x.a) rfl
  have c1 := ho.cell k 1 x hx (by omega) (.int .u32 x.b) rfl
  have c2 := ho.cell k 2 x hx (by omega) (.int .u32 x.c) rfl
  have c3 := ho.cell k 3 x hx (by omega) (.int .u32 x.d) rfl
  rw [show 4 * k + 0 = k * 4 by omega] at c0
  rw [show 4 * k + 1 = k * 4 + 1 by omega] at c1
  rw [show 4 * k + 2 = k * 4 + 2 by omega] at c2
  rw [show 4 * k + 3 = k * 4 + 3 by omega] at c3
  have hgl := Blk.lt h.blk
  have hne : W.heap.size ≠ g := by omega
  have hne2 : ¬ g = W.heap.size := by omega
  have hk0 : (0 : Int) ≤ (k : Int) := by omega
  have hk2 : k ≤ 1152921504606846976 := by omega
  clear h ho hx hk1 hk
  go_enter Tryd.func22, Tryd.ntmps22
  go_wp2_with fail
  obtain ⟨W1, hW1⟩ : ∃ W1, W1 = W.alloc (.cells [.int .u32 0, .int .u32 0, .int .u32 0, .int .u32 0].toArray 50) := ⟨_, rfl⟩
  rw [← hW1]
  have hB0 : Below W.heap.size W W1 := by rw [hW1]; exact (Below.refl _ _).alloc (Nat.le_refl _) _
  have hz : Blk W1 W.heap.size 50 [.int .u32 0, .int .u32 0, .int .u32 0, .int .u32 0] := by rw [hW1]; exact blk_new W _ _
  have hs1 : W1.heap.size = W.heap.size + 1 := by rw [hW1, World.size_alloc]
  have o0 : W1.cell? ⟨W.heap.size, 0, none⟩ = some (.int .u32 0) := hz.cell 0
  have o1 : W1.cell? ⟨W.heap.size, 1, none⟩ = some (.int .u32 0) := hz.cell 1
  have o2 : W1.cell? ⟨W.heap.size, 2, none⟩ = some (.int .u32 0) := hz.cell 2
  have o3 : W1.cell? ⟨W.heap.size, 3, none⟩ = some (.int .u32 0) := hz.cell 3
  have f0 := hz.frozen 0
  have f1 := hz.frozen 1
  have f2 := hz.frozen 2
  have f3 := hz.frozen 3
  have hbk := wset_blk W.heap.size 50 (cells4 x) W1 0 _ hz (by simp [cells4])
  have hgw := wset_grown W.heap.size (cells4 x) W1 0
  have e0 := (hB0.cell (p := ⟨g', k * 4, none⟩) hg).trans c0
  have e1 := (hB0.cell (p := ⟨g', k * 4 + 1, none⟩) hg).trans c1
  have e2 := (hB0.cell (p := ⟨g', k * 4 + 2, none⟩) hg).trans c2
  have e3 := (hB0.cell (p := ⟨g', k * 4 + 3, none⟩) hg).trans c3
  have ev := (hB0.cell (p := ⟨g, 0, none⟩) hgl).trans hv
  have iw : IntKind.i64.wrap (((k + 1 : Nat) : Int) - 1) = (k : Int) := by simp [IntKind.wrap, IntKind.bits, IntKind.signed]; omega
  have iw2 : IntKind.i64.wrap ((k : Int) + 1 - 1) = (k : Int) := by simp [IntKind.wrap, IntKind.bits, IntKind.signed]; omega
  have iw3 : IntKind.i64.wrap (k : Int) = (k : Int) := by simp [IntKind.wrap, IntKind.bits, IntKind.signed]; omega
  have ik : (k : Int) < ((k + 1 : Nat) : Int) := by omega
  have ik2 : (k : Int) < (k : Int) + 1 := by omega
  have BF := Lib.hid (below_drewN (hB0.grown hgw (by omega) (fun k e => by cases e; omega)) 1)
  have BK := Lib.hid hbk
  clear hbk hgw hz hB0 hW1 c0 c1 c2 c3 hv
  go_region
  go_wp2
  have hbk3 : Blk ((wset W1 W.heap.size 0 (cells4 x)).drewN 1) W.heap.size 50 (cells4 x) := BK.out
  exact bodyPost_ret (results_cell_row rfl _ _ W.heap.size 50 _ (0, 0) _ rfl hbk3 Tryd.underlying50 rfl info4) rfl ⟨rfl, BF.out⟩
end Go.Proofs.YtnlhjlmjbmaipaaDoor
