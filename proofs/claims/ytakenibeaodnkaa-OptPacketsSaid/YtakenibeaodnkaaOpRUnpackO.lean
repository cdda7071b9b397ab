/-
  tetherref09.Unpack of four bytes and more, where there is a packet.
-/
import Derived.Test.YtakenibeaodnkaaOpRUnpackW
import Derived.StillTailTactics
namespace Go.Proofs.Ytakenibeaodnkaa
open Go.RowKit
set_option maxRecDepth 100000
set_option maxHeartbeats 4000000
set_option linter.unusedSimpArgs false
set_option linter.unusedVariables false

theorem step_app {w : World} {ops : Array Oper} {o : Oper} {a : Act} {K : Act → World → Prop} {Q : Exit → Act → World → Prop} {E : Prop} (hgd : o.guard = none) (s x : Operand)
    (ho : o.op = .call { callee := .builtin .append, args := #[s, x], argTypes := #[22, 22] }) (v u : Value) (hs : a.eval s = v) (hx : a.eval x = u)
    (v' : Value) (w2 : World) (hrun : (Builtin.append_ #[22, 22] o.type #[v, u]).run Try.prog w = .ok v' w2)
    (h : K (a.put o.dst v') w2) : if Region.wanted o (yielded ops a.tmps) = true then Oper.wp Try.prog o a w K Q else E := by
  have hw : Region.wanted o (yielded ops a.tmps) = true := by simp [Region.wanted, hgd]
  rw [if_pos hw]
  unfold Oper.wp execOp
  simp only [ho, resolve, invoke, builtin, Sem.run_bind, Sem.run_pure, Result.andThen_ok, List.map_toArray, List.map_cons, List.map_nil, hs, hx, hrun]
  exact h
theorem bslice_elem : Try.prog.elem 22 = 5 := by kernel_rfl
theorem bbyte_sizeOf (w : World) : (Go.sizeOf 5).run Try.prog w = .ok 1 w := by kernel_rfl
theorem b_slice (b off n c s : Nat) (h1 : s + 4 ≤ n) (h2 : n ≤ c) (hi : Int) (hh : hi = ((s + 4 : Nat) : Int)) : ∃ o', (o' = off ∧ c = 4 ∨ o' = off + 4 ∧ c ≠ 4) ∧ ∀ W, (Instr.slice 22 (.slice (some ⟨b, off, none⟩) n c) (some (.int .i64 4)) (some (.int .i64 hi)) none).run Try.prog W = .ok (.slice (some ⟨b, o', none⟩) s (c - 4)) W := by
  subst hh
  refine ⟨if c = 4 then off else off + 4, ?_, fun W => ?_⟩
  · split
    · exact .inl ⟨rfl, by assumption⟩
    · exact .inr ⟨rfl, by assumption⟩
  · rw [run_slice_lh W 22 _ _ _ (by rw [bslice_elem]; exact Try.underlying22) .i64 .i64 _ _ (by omega) (by omega) (by omega), bslice_elem, bbyte_sizeOf]
    simp only [Result.andThen_ok, sliced, Int.toNat_natCast]
    rw [show s + 4 - (4 : Int).toNat = s by omega]
    congr 2
    split
    · rename_i h
      rw [if_pos (show c = 4 from h)]
    · rename_i h
      rw [if_neg (show ¬ c = 4 from h)]
      simp [Addr.add]
theorem runpack_ok (A : Option Addr) (n c B : Nat) (l : List UInt8) (w : World) (hr : Rd w B A n l) (hB : B ≤ w.heap.size) (hn : n ≤ 140737488351240) (hc : n ≤ c) (h4 : 4 ≤ l.length) (C I : Int) (hC : num l 1 = C) (hI : num (l.drop 1) 1 = I) (h0 : upE l = 0) :
    Calls Try.prog 13 #[.slice A n c] w fun e w' => UpPost w C I l (upE l) e w' := by
  have hz : ∀ W, (zeroValue 24).run Try.prog W = .ok (.agg #[.int .i64 0, .int .i64 0, .slice none 0 0]) W := fun W => by kernel_rfl
  have hl := hr.1
  obtain ⟨b, off, rfl, hbl, hcell⟩ := hr.2 (by omega)
  have hE : upE l = if upN l < 4 ∨ 16384 < upN l then 4 else if (l.length : Int) < upN l then 8 else 0 := by
    unfold upE
    rw [if_neg (by omega)]
  rw [num_one] at hC hI
  rw [byteAt_drop] at hI
  have k0 : w.cell? ⟨b, off, none⟩ = some (.int .u8 (byteAt l 0)) := hcell 0 (by omega)
  have k1 := hcell 1 (by omega)
  have k2 := hcell 2 (by omega)
  have k3 := hcell 3 (by omega)
  rw [hC] at k0
  rw [show byteAt l 1 = I from hI] at k1
  have hN := upN_eq l
  have b2 := byteAt_lo l 2
  have c2 := byteAt_hi l 2
  have b3 := byteAt_lo l 3
  have c3 := byteAt_hi l 3
  have bC : 0 ≤ C ∧ C ≤ 255 := by rw [← hC]; exact ⟨byteAt_lo _ _, byteAt_hi _ _⟩
  have bI : 0 ≤ I ∧ I ≤ 255 := by rw [← hI]; exact ⟨byteAt_lo _ _, byteAt_hi _ _⟩
  obtain ⟨p, hp⟩ : ∃ p, byteAt l 2 = p := ⟨_, rfl⟩
  obtain ⟨q, hq⟩ : ∃ q, byteAt l 3 = q := ⟨_, rfl⟩
  rw [hp] at k2 b2 c2 hN
  rw [hq] at k3 b3 c3 hN
  obtain ⟨bC1, bC2⟩ := bC
  obtain ⟨bI1, bI2⟩ := bI
  have hbs : b < w.heap.size := by omega
  have n4 : ¬ n < 4 := by omega
  have n0 : 0 < n := by omega
  have n1 : 1 < n := by omega
  have HR := Lib.hid hr
  have HL := Lib.hid hl
  have HE := Lib.hid hE
  have HN := Lib.hid hN
  clear hcell hC hI hp hq hr hl hE hN h4
  have hgood : ¬ (256 * p + q < 4 ∨ 16384 < 256 * p + q) ∧ ¬ (n : Int) < 256 * p + q := by
    have h := HE.out
    rw [h0, HN.out, HL.out] at h
    split at h
    · omega
    · rename_i h1
      split at h
      · omega
      · rename_i h2
        exact ⟨h1, h2⟩
  have t1 : ¬ 256 * p + q < 4 := fun h => hgood.1 (.inl h)
  have t2 : ¬ 16384 < 256 * p + q := fun h => hgood.1 (.inr h)
  have hcut : ¬ (n : Int) < 256 * p + q := hgood.2
  obtain ⟨s, hs⟩ : ∃ s : Nat, 256 * p + q = ((s + 4 : Nat) : Int) := ⟨(256 * p + q - 4).toNat, by omega⟩
  have s1 : s + 4 ≤ n := by omega
  obtain ⟨o', ho', hsl⟩ := b_slice b off n c s s1 hc (256 * p + q) hs
  have hsub : Rd w B (some ⟨b, o', none⟩) s ((l.drop 4).take s) := by
    rcases ho' with ⟨rfl, hc4⟩ | ⟨rfl, hc4⟩
    · obtain rfl : s = 0 := by omega
      exact ⟨by simp, fun h => absurd h (Nat.lt_irrefl 0)⟩
    · exact HR.out.sub (by omega)
  have key : ∀ nn : Nat, ∃ x : Option Addr × Nat × World, (Builtin.append_ #[22, 22] 22 #[.slice none 0 0, .slice (some ⟨b, o', none⟩) s (c - 4)]).run Try.prog ((((w.alloc (.cells #[.int .i64 0, .int .i64 0, .slice none 0 0] 24)).drewN nn).alloc (.cells #[.int .i64 C, .int .i64 I, .slice none 0 0] 24)).drew) = .ok (.slice x.1 s x.2.1) x.2.2 ∧
      Own x.2.2 (w.heap.size + 2) (.slice x.1 s x.2.1) ((l.drop 4).take s) ∧ Blk x.2.2 w.heap.size 24 upBox ∧ Blk x.2.2 (w.heap.size + 1) 24 [.int .i64 C, .int .i64 I, .slice none 0 0] ∧ Below w.heap.size w x.2.2 := by
    intro nn
    obtain ⟨X, hX⟩ : ∃ X, X = (((w.alloc (.cells #[.int .i64 0, .int .i64 0, .slice none 0 0] 24)).drewN nn).alloc (.cells #[.int .i64 C, .int .i64 I, .slice none 0 0] 24)).drew := ⟨_, rfl⟩
    have hB1 : Below w.heap.size w X := by
      rw [hX]
      exact below_drewN ((below_drewN ((Below.refl _ _).alloc (Nat.le_refl _) _) nn).alloc (by simp) _) 1
    have hXs : X.heap.size = w.heap.size + 2 := by rw [hX]; simp
    have x1 : Blk X w.heap.size 24 upBox := by
      rw [hX]
      exact (Below.heap_alloc ((w.alloc (.cells #[.int .i64 0, .int .i64 0, .slice none 0 0] 24)).drewN nn) _ _ (by simp)).trans (blk_new w _ _)
    have x2 : Blk X (w.heap.size + 1) 24 [.int .i64 C, .int .i64 I, .slice none 0 0] := by
      rw [hX]
      have h := blk_new ((w.alloc (.cells #[.int .i64 0, .int .i64 0, .slice none 0 0] 24)).drewN nn) 24 [.int .i64 C, .int .i64 I, .slice none 0 0]
      rw [show ((w.alloc (.cells #[.int .i64 0, .int .i64 0, .slice none 0 0] 24)).drewN nn).heap.size = w.heap.size + 1 by simp] at h
      exact h
    rw [← hX]
    obtain ⟨v', w2, hrun, ho, hg, _⟩ := append_run (Own.nil X (w.heap.size + 2)) (c - 4) (hsub.below (hB1.mono hB)) (fun e => by cases e) (by simp; omega) (by omega)
    have ho2 : Own w2 (w.heap.size + 2) v' ((l.drop 4).take s) := by simpa using ho
    have hsl2 : ((l.drop 4).take s).length = s := hsub.1
    obtain ⟨Dv, cv, rfl⟩ : ∃ Dv cv, v' = .slice Dv s cv := by
      rcases ho2.form with ⟨rfl, e⟩ | ⟨g', cap', rfl, _⟩
      · rw [e] at hsl2
        exact ⟨none, 0, by rw [← hsl2]; rfl⟩
      · exact ⟨_, _, by rw [hsl2]⟩
    refine ⟨(Dv, cv, w2), hrun, ho2, (hg.block _ x1.lt (by simp [Value.ownBlock])).trans x1, (hg.block _ x2.lt (by simp [Value.ownBlock])).trans x2, hB1.grown hg hB1.size (fun k e => by simp [Value.ownBlock] at e)⟩
  obtain ⟨G, hG⟩ := Classical.axiomOfChoice key
  have r0 : ∀ nn, (G nn).2.2.cell? ⟨w.heap.size, 0, none⟩ = some (.int .i64 0) := fun nn => (hG nn).2.2.1.cell 0
  have r1 : ∀ nn, (G nn).2.2.cell? ⟨w.heap.size, 1, none⟩ = some (.int .i64 0) := fun nn => (hG nn).2.2.1.cell 1
  have r2 : ∀ nn, (G nn).2.2.cell? ⟨w.heap.size, 2, none⟩ = some (.slice none 0 0) := fun nn => (hG nn).2.2.1.cell 2
  have f0 : ∀ nn, (G nn).2.2.frozen? ⟨w.heap.size, 0, none⟩ = false := fun nn => (hG nn).2.2.1.frozen 0
  have f1 : ∀ nn, (G nn).2.2.frozen? ⟨w.heap.size, 1, none⟩ = false := fun nn => (hG nn).2.2.1.frozen 1
  have f2 : ∀ nn, (G nn).2.2.frozen? ⟨w.heap.size, 2, none⟩ = false := fun nn => (hG nn).2.2.1.frozen 2
  have u0 : ∀ nn, (G nn).2.2.cell? ⟨w.heap.size + 1, 0, none⟩ = some (.int .i64 C) := fun nn => (hG nn).2.2.2.1.cell 0
  have u1 : ∀ nn, (G nn).2.2.cell? ⟨w.heap.size + 1, 1, none⟩ = some (.int .i64 I) := fun nn => (hG nn).2.2.2.1.cell 1
  have u2 : ∀ nn, (G nn).2.2.cell? ⟨w.heap.size + 1, 2, none⟩ = some (.slice none 0 0) := fun nn => (hG nn).2.2.2.1.cell 2
  have v2 : ∀ nn, (G nn).2.2.frozen? ⟨w.heap.size + 1, 2, none⟩ = false := fun nn => (hG nn).2.2.2.1.frozen 2
  have HG := Lib.hid hG
  have SS := Lib.hid hs
  have H0 := Lib.hid h0
  have TK : Hid ((upN l - 4).toNat = s) := by
    show _ = _
    rw [HN.out, hs]
    omega
  have fin : ∀ nn, UpPost w C I l (upE l) (.returned (.tuple #[.agg #[.int .i64 C, .int .i64 I, .slice (G nn).1 s (G nn).2.1], .int .i64 0])) (((((G nn).2.2.setCell ⟨w.heap.size + 1, 2, none⟩ (.slice (G nn).1 s (G nn).2.1)).setCell ⟨w.heap.size, 0, none⟩ (.int .i64 C)).setCell ⟨w.heap.size, 1, none⟩ (.int .i64 I)).setCell ⟨w.heap.size, 2, none⟩ (.slice (G nn).1 s (G nn).2.1)) := by
    intro nn
    obtain ⟨_, ho, _, _, hb⟩ := hG nn
    rw [h0]
    have hne : ∀ k, k < w.heap.size + 2 → (Value.slice (G nn).1 s (G nn).2.1).ownBlock = none ∨ (Value.slice (G nn).1 s (G nn).2.1).ownBlock ≠ some k := by
      intro k hk
      rcases e : (Value.slice (G nn).1 s (G nn).2.1).ownBlock with _ | q
      · exact .inl rfl
      · have := ho.block q e
        exact .inr (fun e => by injection e; omega)
    refine ⟨_, rfl, (((hb.setCell (p := ⟨w.heap.size + 1, 2, none⟩) (Nat.le_succ _) _).setCell (Nat.le_refl _) _).setCell (Nat.le_refl _) _).setCell (Nat.le_refl _) _, fun h => absurd rfl h, fun _ => ⟨_, _, _, rfl, ?_⟩⟩
    have h3 := (((ho.grown (only_set (p := ⟨w.heap.size + 1, 2, none⟩) (.slice (G nn).1 s (G nn).2.1)) (hne _ (by show w.heap.size + 1 < _; omega))).grown (only_set (p := ⟨w.heap.size, 0, none⟩) (.int .i64 C)) (hne _ (by show w.heap.size < _; omega))).grown (only_set (p := ⟨w.heap.size, 1, none⟩) (.int .i64 I)) (hne _ (by show w.heap.size < _; omega))).grown (only_set (p := ⟨w.heap.size, 2, none⟩) (.slice (G nn).1 s (G nn).2.1)) (hne _ (by show w.heap.size < _; omega))
    rw [TK.out]
    refine ⟨h3.1, ?_⟩
    rcases h3.2 with h | ⟨g', cap, cur, h1, h2, h3⟩
    · exact .inl h
    · exact .inr ⟨g', cap, cur, h1, by omega, h3⟩
  have FIN := Lib.hid fin
  clear hgood h0 hs HE ho' hsub key hG fin
  go_enter Try.func13, Try.ntmps13
  go_wp2
  go_quiet (fail)
  go_wp2
  go_region
  go_wp2
  clear b2 c2 b3 c3
  go_region_law (refine step_app rfl (.tmp 42) (.tmp 45) rfl (.slice none 0 0) (.slice (some ⟨b, o', none⟩) s (c - 4)) (by go_simp) (by go_simp) _ _ (HG.out _).1 ?_)
  go_wp2
  refine bodyPost_ret (v := .tuple #[.agg #[.int .i64 C, .int .i64 I, .slice (G _).1 s (G _).2.1], .int .i64 0]) ?_ rfl (FIN.out _)
  simp [results, Try.results13, go_sem, r0, r1, r2, f0, f1, f2]
end Go.Proofs.Ytakenibeaodnkaa
