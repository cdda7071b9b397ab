/-
  (*md5.Stream).Copy, Reset; slices.Clone of words.
-/
import Derived.Test.YtnlhjlmjbmaipaaDoorMdFrame
import Derived.Laws.Rows
import Derived.Lib.SliceRun
import Derived.Outline
namespace Go.Proofs.YtnlhjlmjbmaipaaDoor
open Go.RowKit
set_option maxRecDepth 100000
set_option maxHeartbeats 2000000
set_option linter.unusedSimpArgs false
set_option linter.unusedVariables false

theorem wclone_nil (w : World) : Calls Tryd.prog 31 #[.slice none 0 0] w fun e w' => e = .returned (.slice none 0 0) ∧ w = w' := by
  have EQ := fun (w : World) (a : Option Addr) (n c : Nat) => Lib.run_eql_slice_nil (P := Tryd.prog) w 41 50 a n c 0 0 Tryd.underlying41
  go_enter Tryd.func31, Tryd.ntmps31
  go_wp2
  go_ret
  exact ⟨rfl, rfl⟩
/-- an append of words, as a step of a walk -/
theorem wpList_appW {w : World} {ops : Array Oper} {rest : List Oper} {o : Oper} {a : Act} {Q : Exit → Act → World → Prop} (hgd : o.guard = none) (s x : Operand)
    (ho : o.op = .call { callee := .builtin .append, args := #[s, x], argTypes := #[41, 41] }) (v u : Value) (hs : a.eval s = v) (hx : a.eval x = u)
    (v' : Value) (w2 : World) (hrun : (Builtin.append_ #[41, 41] o.type #[v, u]).run Tryd.prog w = .ok v' w2)
    (h : wpList Tryd.prog ops Q rest (a.put o.dst v') w2) : wpList Tryd.prog ops Q (o :: rest) a w := by
  refine wpList_plain hgd fun K hK => ?_
  unfold Oper.wp execOp
  simp only [ho, resolve, invoke, builtin, Sem.run_bind, Sem.run_pure, Result.andThen_ok, List.map_toArray, List.map_cons, List.map_nil, hs, hx, hrun]
  exact hK _ _ h
theorem wclone_some (w : World) (base g n cap : Nat) (vs : List W4) (h : OwnW w base (.slice (some ⟨g, 0, none⟩) n cap) vs) (hm : 16 * vs.length ≤ 140737488355328) :
    Calls Tryd.prog 31 #[.slice (some ⟨g, 0, none⟩) n cap] w fun e w' => ∃ v', e = .returned v' ∧ OwnW w' w.heap.size v' vs ∧ Below w.heap.size w w' := by
  have hi : ∃ i, Tryd.prog.info? 50 = some i ∧ i.zero = some (.agg #[.int .u32 0, .int .u32 0, .int .u32 0, .int .u32 0]) ∧ i.size = 4 ∧ i.bytes = 16 :=
    info_parts (show (Tryd.prog.info? 50).map (fun i => (i.zero, i.size, i.bytes)) = some (some (.agg #[.int .u32 0, .int .u32 0, .int .u32 0, .int .u32 0]), 4, 16) by kernel_rfl)
  obtain ⟨i, hi, hz, h1, h2⟩ := hi
  have hn : n = vs.length := by
    rcases h.form with ⟨e, _⟩ | ⟨g', cap', e, _⟩
    · cases e
    · injection e
  have he : OwnW (w.alloc (.cells #[] 50)) w.heap.size (.slice (some ⟨w.heap.size, 0, none⟩) 0 0) [] :=
    ⟨by simp, .inr ⟨w.heap.size, 0, _, rfl, Nat.le_refl _, heap_alloc_new w _, Nat.zero_le _, by unfold maxLen; omega, by simp, by simp⟩⟩
  have ha : OwnW (w.alloc (.cells #[] 50)) base (.slice (some ⟨g, 0, none⟩) n cap) vs := World.ownsRow.alloc h _
  obtain ⟨v', w', hrun, h3, h4, _, h5⟩ := run_append_own_at (P := Tryd.prog) (w.alloc (.cells #[] 50)) w.heap.size 41 41 50 i _ 4 16 Tryd.underlying41 hi hz h1 h2 rfl (by decide) (.slice (some ⟨w.heap.size, 0, none⟩) 0 0) 0 [] he ⟨g, 0, none⟩ n cap (vs.flatMap cells4)
    (by rw [ha.1, hn]) (fun j u hj => World.ownsRow.cells ha (g := g) rfl j u hj) (fun u hu => by
      obtain ⟨x, _, hx⟩ := List.mem_flatMap.1 hu
      exact cells4_one2 x u hx) (by unfold maxLen; omega) (by omega) (by rw [World.size_alloc]; omega)
  have POST : Hid (∃ v'', v' = v'' ∧ OwnW w' w.heap.size v'' vs ∧ Below w.heap.size w w') := by
    refine ⟨v', rfl, ?_, ((Below.refl _ _).alloc (Nat.le_refl _) _).grown h4 (by simp) (fun k e => by simp [Value.ownBlock] at e; omega)⟩
    unfold OwnW
    rw [← hn]
    simpa using h3
  have HRUN := Lib.hid hrun
  clear h ha he hrun h3 h4 h5 hn
  have EQ := fun (w : World) (a : Option Addr) (n c : Nat) => Lib.run_eql_slice_nil (P := Tryd.prog) w 41 50 a n c 0 0 Tryd.underlying41
  go_enter Tryd.func31, Tryd.ntmps31
  go_wp2_with (at_builtin; refine wpList_appW rfl (.tmp 5) (.tmp 6) rfl _ _ rfl rfl _ _ HRUN.out ?_)
  go_ret
  obtain ⟨v'', rfl, h⟩ := POST.out
  exact ⟨_, rfl, h⟩
theorem wclone_any (w : World) (base : Nat) (v : Value) (vs : List W4) (h : OwnW w base v vs) (hm : 16 * vs.length ≤ 140737488355328) :
    Calls Tryd.prog 31 #[v] w fun e w' => ∃ v', e = .returned v' ∧ OwnW w' w.heap.size v' vs ∧ Below w.heap.size w w' := by
  rcases h.form with ⟨rfl, rfl⟩ | ⟨g, cap, rfl, _⟩
  · refine (wclone_nil w).mono ?_
    rintro e w' ⟨rfl, rfl⟩
    exact ⟨_, rfl, World.ownsRow_nil _ _ _ _, Below.refl _ _⟩
  · exact wclone_some w base g _ cap vs h hm
theorem stCells_one (v : Value) (rest : List UInt8) (n : Nat) (hv : v.oneCell' = true) : ∀ x ∈ stCells v rest n, x.oneCell' = true := by
  intro x hx
  unfold stCells at hx
  rcases List.mem_cons.1 hx with rfl | hx
  · exact hv
  · rcases List.mem_append.1 hx with hx | hx
    · exact cells_one _ x hx
    · rw [List.mem_singleton.1 hx]
      rfl
theorem infoSt : (Tryd.prog.info? 44).map (·.size) = some 66 := by kernel_rfl

theorem reset_any (base g : Nat) (l : List UInt8) (v : Value) (w : World) (h : Stm w base g l v) :
    Calls Tryd.prog 6 #[.pointer (some ⟨g, 0, none⟩)] w fun e w' => e = .returned (.tuple #[]) ∧ Stm w' base g [] (.slice none 0 0) ∧ w.grownBy w' (some g) := by
  obtain ⟨rest, hst, _⟩ := h
  have hz : ∀ w : World, (zeroValue 44).run Tryd.prog w = .ok (.agg (stCells (.slice none 0 0) (List.replicate 64 0) 0).toArray) w := fun w => by kernel_rfl
  obtain ⟨W3, hst3, hbk, hgw⟩ := store_all2 hst.blk (show (stCells (.slice none 0 0) (List.replicate 64 0) 0).length = _ by rw [stCells_length, stCells_length, hst.len]; rfl) (stCells_one _ _ _ rfl)
  have POST : Hid (Stm W3 base g [] (.slice none 0 0) ∧ w.grownBy W3 (some g)) := by
    refine ⟨⟨List.replicate 64 0, ⟨?_, rfl, World.ownsRow_nil _ _ _ _, by simp [Value.ownBlock], fun x hx => nomatch hx⟩, rfl⟩, hgw⟩
    exact hbk
  obtain ⟨Z, hZ⟩ : ∃ Z, Z = stCells (.slice none 0 0) (List.replicate 64 0) 0 := ⟨_, rfl⟩
  have hZl : Z.length = 66 := by rw [hZ]; rfl
  rw [← hZ] at hz hst3
  clear hst hbk hgw hZ
  go_enter Tryd.func6, Tryd.ntmps6
  go_wp2
  go_end0
  exact ⟨rfl, POST.out⟩
theorem scopy_any (base g : Nat) (l : List UInt8) (v : Value) (w : World) (h : Stm w base g l v) (hb : base ≤ w.heap.size) (hm : l.length ≤ 140737488351240) :
    Calls Tryd.prog 17 #[.pointer (some ⟨g, 0, none⟩)] w fun e w' => ∃ v', e = .returned (.pointer (some ⟨w.heap.size, 0, none⟩)) ∧ Stm w' base w.heap.size l v' ∧ Below w.heap.size w w' ∧ ∀ k, v'.ownBlock = some k → w.heap.size ≤ k := by
  obtain ⟨rest, hst, hrest⟩ := h
  have hwl : (wordsAll l).length ≤ l.length / 64 := by rw [wordsAll_length]; exact Nat.le_refl _
  have hgl := Blk.lt hst.blk
  have hv1 : v.oneCell' = true := by
    rcases hst.own.form with ⟨e, _⟩ | ⟨_, _, e, _⟩ <;> rw [e] <;> rfl
  obtain ⟨W2, hst2, hbk, hgw⟩ := store_all2 (blk_new w 44 (stCells (.slice none 0 0) (List.replicate 64 0) 0)) (show (stCells v rest l.length).length = _ by rw [stCells_length, stCells_length, hst.len]; rfl) (stCells_one _ _ _ hv1)
  have hs2 := hgw.size
  rw [World.size_alloc] at hs2
  have hB2 : Below w.heap.size w W2 := ((Below.refl _ _).alloc (Nat.le_refl _) _).grown hgw (by simp) (fun k e => by cases e; omega)
  have hn2 : (stCells v rest l.length).length = 66 := by rw [stCells_length, hst.len]
  have hz : ∀ w : World, (zeroValue 44).run Tryd.prog w = .ok (.agg (stCells (.slice none 0 0) (List.replicate 64 0) 0).toArray) w := fun w => by kernel_rfl
  obtain ⟨Z, hZ⟩ : ∃ Z, Z = stCells (.slice none 0 0) (List.replicate 64 0) 0 := ⟨_, rfl⟩
  obtain ⟨Y, hY⟩ : ∃ Y, Y = stCells v rest l.length := ⟨_, rfl⟩
  have hZl : Z.length = 66 := by rw [hZ]; rfl
  have hblk := hst.blk
  rw [← hY] at hst2 hblk hn2
  rw [← hZ] at hz hst2
  have CL := Lib.hid (wclone_any W2 base v (wordsAll l) ((hst.own.kept (row := none) (grown_of_below hB2) (Classical.em _))) (by omega))
  have hc2 : W2.cell? ⟨w.heap.size, 0, none⟩ = some v := by rw [hbk.cell]; rfl
  have hc1 : W2.cell? ⟨g, 0, none⟩ = some v := (hB2.cell (p := ⟨g, 0, none⟩) hgl).trans hst.slice
  have infoY : (Tryd.prog.info? 44).map (·.size) = some Y.toArray.size := by rw [List.size_toArray, hn2]; exact infoSt
  have HBK := Lib.hid hbk
  have HY := Lib.hid hY
  have HST := Lib.hid hst
  have HB2 := Lib.hid hB2
  have HBL := Lib.hid hblk
  have HR := Lib.hid hrest
  clear hst hbk hgw hZ hY hB2 hblk hrest hwl
  go_enter Tryd.func17, Tryd.ntmps17
  go_wp2_with (refine wpList_load_row rfl 44 (.tmp 7) rfl g rfl 44 Y.toArray (0, 0) _ HBL.out Tryd.underlying44 rfl infoY ?_)
  refine CL.out.mono ?_
  rintro e w5 ⟨v', rfl, ho5, hb5⟩
  have hs5 := hb5.size
  have hbk5 := (hb5.block w.heap.size (by omega)).trans HBK.out
  have hne : v'.ownBlock ≠ some w.heap.size := by
    intro e
    rcases ho5.form with ⟨e1, _⟩ | ⟨g', cap, e1, h1, _⟩
    · rw [e1] at e
      simp [Value.ownBlock] at e
    · rw [e1] at e
      simp [Value.ownBlock] at e
      omega
  have hs : w5.grownBy (w5.setCell ⟨w.heap.size, 0, none⟩ v') (some w.heap.size) := only_set _
  have POST : Hid (Stm (w5.setCell ⟨w.heap.size, 0, none⟩ v') base w.heap.size l v' ∧ Below w.heap.size w (w5.setCell ⟨w.heap.size, 0, none⟩ v') ∧ ∀ k, v'.ownBlock = some k → w.heap.size ≤ k) := by
    have h1 := Blk.set_ hbk5 0 v'
    have ho6 : OwnW (w5.setCell ⟨w.heap.size, 0, none⟩ v') base v' (wordsAll l) := by
      have h2 := ho5.grown hs (.inr hne)
      rcases h2.2 with h0 | ⟨g', cap, cur, e, hb', hg', hr'⟩
      · exact ⟨h2.1, .inl h0⟩
      · exact ⟨h2.1, .inr ⟨g', cap, cur, e, by omega, hg', hr'⟩⟩
    refine ⟨⟨rest, ⟨h1, HST.out.len, ho6, hne, HST.out.ok⟩, HR.out⟩, (HB2.out.trans (hb5.mono (by omega))).grown hs (by omega) (fun k e => by cases e; exact Nat.le_refl _), fun k hk => ?_⟩
    rcases ho5.form with ⟨e1, _⟩ | ⟨g', cap, e1, h1, _⟩
    · rw [e1] at hk
      simp [Value.ownBlock] at hk
    · rw [e1] at hk
      simp [Value.ownBlock] at hk
      omega
  have hc5 : w5.cell? ⟨w.heap.size, 0, none⟩ = some v := by rw [Blk.cell hbk5]; rfl
  have hf5 : w5.frozen? ⟨w.heap.size, 0, none⟩ = false := Blk.frozen hbk5 0
  obtain ⟨A', n', c', hv'⟩ : ∃ A' n' c', v' = .slice A' n' c' := by
    rcases ho5.form with ⟨e1, _⟩ | ⟨g', cap, e1, _⟩
    · exact ⟨_, _, _, e1⟩
    · exact ⟨_, _, _, e1⟩
  subst hv'
  clear ho5 hb5 hbk5 hne hs hc1 hc2
  go_wp2
  go_ret
  exact ⟨_, rfl, POST.out⟩
end Go.Proofs.YtnlhjlmjbmaipaaDoor
