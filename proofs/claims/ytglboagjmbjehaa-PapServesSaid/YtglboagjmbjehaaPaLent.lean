/-
  tetherlaw12.lent, kept.
-/
import Derived.Test.YtglboagjmbjehaaPaRaW
import Derived.Deep.RegionHeld3
namespace Go.Proofs.Ytglboagjmbjehaa
open Go.RowKit Go.Shelf
set_option maxRecDepth 100000
set_option maxHeartbeats 4000000
set_option linter.unusedSimpArgs false
set_option linter.unusedVariables false

theorem rd_77 (w : World) : Rd (w.alloc (.cells #[.int .u8 77] 5)) (w.heap.size + 1) (some ⟨w.heap.size, 0, none⟩) 1 [77] := by
  refine ⟨rfl, fun _ => ⟨w.heap.size, 0, rfl, by omega, fun j hj => ?_⟩⟩
  obtain rfl : j = 0 := by omega
  rw [Nat.add_zero]
  exact Blk.cell (show Blk (w.alloc (.cells #[.int .u8 77] 5)) w.heap.size 5 [.int .u8 77] from heap_alloc_new w _) 0
/-- a packet that was lent -/
def LentAt (W : World) (base : Nat) (l : List UInt8) (n g cap : Nat) : Prop := Own W base (.slice (some ⟨g, 0, none⟩) (n + 1) cap) (l ++ [77]) ∧ n + 1 ≤ cap
theorem lent_pk (C I : Int) (A : Option Addr) (n c B : Nat) (l : List UInt8) (w : World) (hr : Rd w B A n l) (hB : B ≤ w.heap.size) (hnil : A = none → c = 0) (hm : n ≤ 140737488351232) :
    Calls Try.prog 12 #[.agg #[.int .i64 C, .int .i64 I, .slice A n c]] w fun e w' =>
      ∃ g cap, e = .returned (.agg #[.int .i64 C, .int .i64 I, .slice (some ⟨g, 0, none⟩) n cap]) ∧ LentAt w' w.heap.size l n g cap ∧ Below w.heap.size w w' := by
  have hl := hr.1
  obtain ⟨V, hV⟩ : ∃ V, (w.alloc (.cells #[.int .i64 C, .int .i64 I, .slice A n c] 38)).alloc (.cells #[.int .i64 0, .int .i64 0, .slice none 0 0] 38) = V := ⟨_, rfl⟩
  have bV : Below w.heap.size w V := by rw [← hV]; exact ((Below.refl _ _).alloc (Nat.le_refl _) _).alloc (by simp) _
  have zV : V.heap.size = w.heap.size + 2 := by rw [← hV]; simp
  have h0 : Blk V w.heap.size 38 [.int .i64 C, .int .i64 I, .slice A n c] := by
    rw [← hV]
    exact (Below.heap_alloc _ _ _ (by simp)).trans (heap_alloc_new w _)
  have h1 : Blk V (w.heap.size + 1) 38 [.int .i64 0, .int .i64 0, .slice none 0 0] := by
    rw [← hV]
    have h := heap_alloc_new (w.alloc (.cells #[.int .i64 C, .int .i64 I, .slice A n c] 38)) (.cells #[.int .i64 0, .int .i64 0, .slice none 0 0] 38)
    rw [World.size_alloc] at h
    exact h
  have rV := hr.below (bV.mono hB)
  obtain ⟨v1, w1, r1, o1, g1, b1⟩ := append_run (Own.nil V V.heap.size) c rV hnil (by simp; omega) (Nat.le_refl _)
  have B1 : Below V.heap.size V w1 := (Below.refl _ _).grown g1 (Nat.le_refl _) (by simp [Value.ownBlock])
  obtain ⟨v2, w2, r2, o2, g2, b2⟩ := append_run (o1.alloc (.cells #[.int .u8 77] 5)) 1 (rd_77 w1) (by simp) (by simp; omega) (by have := B1.size; simp; omega)
  have B2 : Below V.heap.size V w2 := (B1.alloc B1.size _).grown g2 (by have := B1.size; simp; omega) (by
    intro k hk
    rcases b1 with e | e <;> rw [e] at hk <;> simp [Value.ownBlock] at hk
    omega)
  have hv2 : ∃ g cap, v2 = .slice (some ⟨g, 0, none⟩) (n + 1) cap ∧ n + 1 ≤ cap := by
    rcases o2.2 with ⟨_, e⟩ | ⟨g, cap, cur, e, _, _, h1, _⟩
    · simp at e
    · refine ⟨g, cap, ?_, ?_⟩
      · rw [e]
        simp [hl]
      · simpa [hl] using h1
  obtain ⟨g, cap, rfl, hcap⟩ := hv2
  have k0 : Blk w1 w.heap.size 38 [.int .i64 C, .int .i64 I, .slice A n c] := (B1.block _ (by omega)).trans h0
  have q0 : Blk w2 w.heap.size 38 [.int .i64 C, .int .i64 I, .slice A n c] := (B2.block _ (by omega)).trans h0
  have q1 : Blk w2 (w.heap.size + 1) 38 [.int .i64 0, .int .i64 0, .slice none 0 0] := (B2.block _ (by omega)).trans h1
  have y2 : V.cell? ⟨w.heap.size, 2, none⟩ = some (.slice A n c) := h0.cell 2
  have x0 : w2.cell? ⟨w.heap.size, 0, none⟩ = some (.int .i64 C) := q0.cell 0
  have x1 : w2.cell? ⟨w.heap.size, 1, none⟩ = some (.int .i64 I) := q0.cell 1
  have x2 : w2.cell? ⟨w.heap.size, 2, none⟩ = some (.slice A n c) := q0.cell 2
  have f2 := q0.frozen 2
  have u0 := q1.cell 0
  have u1 := q1.cell 1
  have u2 := q1.cell 2
  have e0 := q1.frozen 0
  have e1 := q1.frozen 1
  have e2 := q1.frozen 2
  have s0 := Blk.lt q0
  have s1 := Blk.lt q1
  have FIN : Hid (LentAt ((((w2.setCell ⟨w.heap.size, 2, none⟩ (.slice (some ⟨g, 0, none⟩) n cap)).setCell ⟨w.heap.size + 1, 0, none⟩ (.int .i64 C)).setCell ⟨w.heap.size + 1, 1, none⟩ (.int .i64 I)).setCell ⟨w.heap.size + 1, 2, none⟩ (.slice (some ⟨g, 0, none⟩) n cap)) w.heap.size l n g cap ∧
      Below w.heap.size w ((((w2.setCell ⟨w.heap.size, 2, none⟩ (.slice (some ⟨g, 0, none⟩) n cap)).setCell ⟨w.heap.size + 1, 0, none⟩ (.int .i64 C)).setCell ⟨w.heap.size + 1, 1, none⟩ (.int .i64 I)).setCell ⟨w.heap.size + 1, 2, none⟩ (.slice (some ⟨g, 0, none⟩) n cap))) := by
    have hS1 : w2.grownBy (w2.setCell ⟨w.heap.size, 2, none⟩ (.slice (some ⟨g, 0, none⟩) n cap)) (some w.heap.size) := gset' _ _ _ _
    have hne : ∀ q, q < V.heap.size → (Value.slice (some ⟨g, 0, none⟩) (n + 1) cap).ownBlock = none ∨ (Value.slice (some ⟨g, 0, none⟩) (n + 1) cap).ownBlock ≠ some q := by
      intro q hq
      rcases o2.form with ⟨e, _⟩ | ⟨g', cap', e, h2, _⟩
      · cases e
      · injection e with e
        injection e with e
        injection e with e
        refine .inr fun e2 => ?_
        simp [Value.ownBlock] at e2
        omega
    have o3 := (o2.grown hS1 (hne _ (by omega))).grown (gset3 (w2.setCell ⟨w.heap.size, 2, none⟩ (.slice (some ⟨g, 0, none⟩) n cap)) (w.heap.size + 1) (.int .i64 C) (.int .i64 I) (.slice (some ⟨g, 0, none⟩) n cap)) (hne _ (by omega))
    refine ⟨⟨?_, hcap⟩, ?_⟩
    · refine ⟨by simp, ?_⟩
      have h4 := o3.2
      simp only [List.nil_append] at h4
      rcases h4 with h | ⟨g', cap', cur, e1, e2, e3⟩
      · exact .inl h
      · exact .inr ⟨g', cap', cur, e1, by omega, e3⟩
    · have b := bV.trans (B2.mono (by omega))
      exact (((b.setCell (p := ⟨w.heap.size, 2, none⟩) (Nat.le_refl _) _).setCell (p := ⟨w.heap.size + 1, 0, none⟩) (by show _ ≤ w.heap.size + 1; omega) _).setCell (p := ⟨w.heap.size + 1, 1, none⟩) (by show _ ≤ w.heap.size + 1; omega) _).setCell (p := ⟨w.heap.size + 1, 2, none⟩) (by show _ ≤ w.heap.size + 1; omega) _
  have R1 := Lib.hid r1
  have R2 := Lib.hid r2
  have HV := Lib.hid hV
  have HQ := Lib.hid q1
  clear o1 o2 g1 g2 b1 b2 B1 B2 hr hl r1 r2 h0 h1 bV rV hV q0 q1 k0
  go_enter Try.func12, Try.ntmps12
  go_wp2_with (first
    | (rw [HV.out])
    | (at_builtin; refine wpList_appT rfl (.tmp 4) (.tmp 6) #[36, 36] rfl _ _ rfl rfl _ _ R1.out ?_)
    | (at_builtin; refine wpList_appT rfl (.tmp 8) (.tmp 9) #[36, 36] rfl _ _ rfl rfl _ _ R2.out ?_))
  have hb4 := blk3 (x := .int .i64 C) (y := .int .i64 I) (z := .slice (some ⟨g, 0, none⟩) n cap) (show Blk (w2.setCell ⟨w.heap.size, 2, none⟩ (.slice (some ⟨g, 0, none⟩) n cap)) (w.heap.size + 1) 38 _ from ((gset' w2 w.heap.size 2 _).block _ s1 (by intro e; injection e with e; omega)).trans HQ.out)
  have p0 := hb4.cell 0
  have p1 := hb4.cell 1
  have p2 := hb4.cell 2
  exact bodyPost_ret (v := .agg #[.int .i64 C, .int .i64 I, .slice (some ⟨g, 0, none⟩) n cap]) (by simp [results, Try.results12, go_sem, p0, p1, p2]) rfl ⟨g, cap, rfl, FIN.out⟩
end Go.Proofs.Ytglboagjmbjehaa
