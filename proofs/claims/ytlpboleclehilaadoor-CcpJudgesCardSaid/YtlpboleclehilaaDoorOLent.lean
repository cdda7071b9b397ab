/-
  tetherref09.Lent: a list in new memory.
-/
import Derived.Test.YtlpboleclehilaaDoorOpWithout
import Derived.Test.YtlpboleclehilaaDoorStepApp
namespace Go.Proofs.YtlpboleclehilaaDoor
open Go.RowKit
set_option maxRecDepth 100000
set_option maxHeartbeats 4000000
set_option linter.unusedSimpArgs false
set_option linter.unusedVariables false

theorem below_of_none {w w' : World} (h : w.grownBy w' none) : Below w.heap.size w w' := ⟨h.os, h.tape, h.output, h.size, fun i hi => h.block i hi (by simp)⟩
theorem olent_any (A : Option Addr) (n c B : Nat) (s : List Opt) (w : World) (hr : OptRd w B A n s) (hB : B ≤ w.heap.size) (hn : n ≤ 4398046511103) :
    Calls Tryd.prog 6 #[.slice A n c] w fun e w' => ∃ F f, e = .returned (.slice F n f) ∧ OwnL w' w.heap.size (.slice F n f) s ∧ Below w.heap.size w w' := by
  have HR := Lib.hid hr
  have hlen := hr.1
  clear hr
  go_enter Tryd.func6, Tryd.ntmps6
  go_wp2
  go_loopw [3, 4] (fun v i wr => ∃ (V : World) (k : Nat), V = wr ∧ k ≤ n ∧ i = .int .i64 k ∧ Hid (OwnL V w.heap.size v (s.take k) ∧ Below w.heap.size w V)) (fun _ i _ => n - (intOf i).toNat)
  case atStart => exact ⟨_, 0, rfl, Nat.zero_le _, rfl, OwnL.nil _ _, Below.refl _ _⟩
  case round =>
    rename_i wr
    obtain ⟨V, k, rfl, hkn, rfl, hJ⟩ := hrel
    by_cases hlt : k < n
    · obtain ⟨b, off, rfl, hbl, hc⟩ := HR.out.2 (by omega)
      obtain ⟨c1, E, kk, cc, c2, hRd, hE, hkc, hkb⟩ := hc k (by omega)
      have hbz : b < w.heap.size := by omega
      obtain ⟨x, hx⟩ : ∃ x, s[k]'(by omega) = x := ⟨_, rfl⟩
      have hst : s.take (k + 1) = s.take k ++ [s[k]'(by omega)] := List.take_succ_eq_append_getElem (by omega)
      rw [hx] at c1 hRd hst
      obtain ⟨K, l⟩ := x
      have hll : l.length = kk := hRd.1
      obtain ⟨hL, hBw⟩ := hJ.out
      have s1 := hBw.size
      have d1 : V.cell? ⟨b, off + k * 2, none⟩ = some (.int .i64 K) := (hBw.cell hbz).trans c1
      have d2 : V.cell? ⟨b, off + k * 2 + 1, none⟩ = some (.slice E kk cc) := (hBw.cell hbz).trans c2
      have hbV : b < V.heap.size := by omega
      obtain ⟨W1, hW1⟩ : ∃ W1, V.alloc (.cells #[.int .i64 K, .slice none 0 0] 61) = W1 := ⟨_, rfl⟩
      have knew : Blk W1 V.heap.size 61 [.int .i64 K, .slice none 0 0] := by rw [← hW1]; exact blk_new V _ _
      have sW : W1.heap.size = V.heap.size + 1 := by rw [← hW1]; simp
      have BA : Below V.heap.size V W1 := by rw [← hW1]; exact (Below.refl _ _).alloc (Nat.le_refl _) _
      have e2 : W1.cell? ⟨b, off + k * 2 + 1, none⟩ = some (.slice E kk cc) := (BA.cell (show b < V.heap.size from hbV)).trans d2
      have n0 := knew.cell 0
      have n1 := knew.cell 1
      have hBd : Below w.heap.size w W1.drew := below_drewN (hBw.trans (BA.mono s1)) 1
      obtain ⟨v', w2, hrun, ho, hg, hob⟩ := append_run (Own.nil W1.drew W1.heap.size) (A := E) (n := kk) cc (hRd.below (hBd.mono hB)) hE (by simp; omega) (Nat.le_refl _)
      rw [List.nil_append] at ho
      obtain ⟨F, ff, rfl, -⟩ := own_rdv1 ho
      rw [hll] at hrun ho
      have hgB := below_of_none hg
      have knew2 : Blk w2 V.heap.size 61 [.int .i64 K, .slice none 0 0] := (hgB.block _ (show V.heap.size < W1.heap.size by omega)).trans knew
      have y0 := knew2.cell 0
      have y1 := knew2.cell 1
      have g1 := knew2.frozen 1
      have BD : Below V.heap.size V W1.drew := below_drewN BA 1
      have B2 : Below V.heap.size V w2 := BD.trans (hgB.mono (by show V.heap.size ≤ W1.heap.size; omega))
      have AP : ∀ v, OwnL V w.heap.size v (s.take k) → ∃ v' w', (Builtin.append_ #[28, 28] 28 #[v, .slice (some ⟨w2.heap.size, 0, none⟩) 1 1]).run Tryd.prog ((w2.setCell ⟨V.heap.size, 1, none⟩ (.slice F kk ff)).alloc (.cells #[.int .i64 K, .slice F kk ff] 61)) = .ok v' w' ∧ OwnL w' w.heap.size v' (s.take (k + 1)) ∧ Below w.heap.size w w' := by
        intro v hv
        have B3 : Below V.heap.size V (w2.setCell ⟨V.heap.size, 1, none⟩ (.slice F kk ff)) := B2.setCell (Nat.le_refl _) _
        have o3 : Own (w2.setCell ⟨V.heap.size, 1, none⟩ (.slice F kk ff)) w.heap.size (.slice F kk ff) l := by
          refine (ho.base_le (show w.heap.size ≤ W1.heap.size by omega)).grown (only_set (p := ⟨V.heap.size, 1, none⟩) _) ?_
          rcases hq : (Value.slice F kk ff).ownBlock with _ | q
          · exact .inl rfl
          · refine .inr fun e => ?_
            have e' : q = V.heap.size := by injection e
            have h2 := (ho.block q hq).1
            omega
        rw [hst]
        have hsz : (w2.setCell ⟨V.heap.size, 1, none⟩ (.slice F kk ff)).heap.size = w2.heap.size := by simp
        have h := app_set (hv.later B3) K F kk ff l o3 (by rw [List.length_take]; omega) (Nat.le_trans s1 B3.size) w (hBw.trans (B3.mono s1)) (Nat.le_refl _)
        rw [hsz] at h
        exact h
      have HW := Lib.hid hW1
      have R2 := Lib.hid hrun
      have HAP := Lib.hid (AP _ hL)
      clear hc c1 c2 hx hst hJ hL hBw BA hBd ho hg hob hgB knew knew2 BD B2 AP hW1 hrun hRd hE hkc
      go_upto_region 6 with (rw [HW.out])
      go_region_law (refine step_app rfl (.tmp 19) (.tmp 24) rfl _ _ rfl rfl _ _ R2.out ?_)
      all_goals
        obtain ⟨v', w', hrun, hl2, hb2⟩ := HAP.out
        have HR7 := Lib.hid hrun
        have HN := Lib.hid (And.intro hl2 hb2)
        clear hrun hl2 hb2
        go_wp2_with (at_builtin; refine wpList_appO 28 28 rfl (.tmp 27) (.tmp 29) rfl _ _ rfl rfl _ _ HR7.out ?_)
        go_roundw
        case rel => exact ⟨_, k + 1, rfl, by omega, by go_num, HN.out⟩
        case measure => simp [intOf]; omega
    · have hkn' : k = n := by omega
      subst hkn'
      obtain ⟨hL, hBw⟩ := hJ.out
      rw [List.take_of_length_le (by omega)] at hL
      obtain ⟨F, f, hv⟩ := hL.shape
      rw [hlen] at hv
      subst hv
      have HN := Lib.hid (And.intro hL hBw)
      clear hL hBw hJ
      go_wp2
      go_ret
      exact ⟨F, f, rfl, HN.out.1, HN.out.2⟩
end Go.Proofs.YtlpboleclehilaaDoor
