/-
  tetherref01.Spoil writes over a slice of the call's own and nothing else.
-/
import Derived.Test.YtlpboleclehilaaDoorOne
import Derived.LoopTactic
import Derived.Laws.BitsAllLaws
namespace Go.Proofs.YtlpboleclehilaaDoor
open Go.RowKit
set_option maxRecDepth 100000
set_option linter.unusedSimpArgs false
set_option linter.unusedVariables false

theorem xor_byte (c : UInt8) : bits .xor .u8 (c.toNat : Int) 90 = ((c ^^^ 90).toNat : Int) := by
  have h := c.toNat_lt
  have h2 := u8_xor (c.toNat : Int) 90 (by omega) (by omega) (by omega) (by omega)
  rw [h2]
  simp

theorem spoil_row (g n cap base : Nat) (l : List UInt8) (w : World) (hn : n = l.length) (ho : Own w base (.slice (some ⟨g, 0, none⟩) n cap) l) (hb : base ≤ w.heap.size) (hg : g < w.heap.size) (hm : n ≤ 140737488351240) :
    Calls Tryd.prog 35 #[.slice (some ⟨g, 0, none⟩) n cap] w fun e w' => e = .returned (.tuple #[]) ∧ w.grownBy w' (some g) := by
  have H := Lib.hid ho
  have N := Lib.hid hn
  clear hn ho
  go_enter Tryd.func35, Tryd.ntmps35
  go_wp2
  go_loopw [2] (fun i wr => ∃ k : Nat, ∃ l' : List UInt8, k ≤ n ∧ i = .int .i64 k ∧ l'.length = n ∧ Own wr base (.slice (some ⟨g, 0, none⟩) n cap) l' ∧ w.grownBy wr (some g)) (fun i _ => n - (intOf i).toNat)
  case atStart => exact ⟨0, l, Nat.zero_le _, rfl, N.out.symm, H.out, World.grownBy.refl _ _⟩
  case round =>
    obtain ⟨k, l', hk, rfl, hl', ho', hgr⟩ := hrel
    by_cases hlt : k < n
    · obtain ⟨cc, hcc⟩ : ∃ cc, cc = l'.getD k 0 := ⟨_, rfl⟩
      have hc := ho'.cell hl'.symm k (by omega)
      have hf := ho'.unfrozen hl'.symm k
      have ec : byteAt l' k = (cc.toNat : Int) := by rw [hcc]; rfl
      rw [ec] at hc
      have o2 := Lib.hid (ho'.set_ hl'.symm k (cc ^^^ 90) _ (xor_byte cc))
      have g2 := Lib.hid (only_then hgr (only_set (w := wr) (p := ⟨g, k, none⟩) (.int .u8 (bits .xor .u8 (cc.toNat : Int) 90))) (fun i hi => .inl hi))
      have L := Lib.hid (show (l'.set k (cc ^^^ 90)).length = n by rw [List.length_set]; exact hl')
      clear ho' hgr hl' ec hcc
      go_wp2
      go_roundw
      case rel => exact ⟨k + 1, _, by omega, by go_num, L.out, o2.out, g2.out⟩
      case measure => simp [intOf]; omega
    · have hk' : k = n := by omega
      subst hk'
      have hs := hgr.size
      obtain ⟨v2, w2, r2, o2, g2, b2⟩ := append_run (ho'.alloc (.cells #[.int .u8 99] 5)) 1 (rd_one wr 99 99 rfl) (by simp) (by omega) (by simp; omega)
      have hl2 : k + 1 = (l' ++ [99]).length := by simp [hl']
      rcases o2.form with ⟨_, e⟩ | ⟨g', cap', rfl, _, hg', hcap'⟩
      · simp at e
      · simp only [← hl2] at o2 r2 b2 hcap'
        have hc := o2.cell hl2 k (by omega)
        have hf := o2.unfrozen hl2 k
        have G := Lib.hid (only_then (only_then (only_alloc hgr _) g2 (fun i hi => .inl hi)) (only_set (w := w2) (p := ⟨g', k, none⟩) (.int .u8 98)) (by
          intro i hi
          injection hi with hi
          rcases b2 with e | e
          · simp [Value.ownBlock] at e
            exact .inl (by simp [Value.ownBlock, ← hi, e])
          · simp [Value.ownBlock] at e
            exact .inr (by simp at hi; omega)))
        have R2 := Lib.hid r2
        clear o2 g2 b2 r2 ho' hl' hl2 hgr
        go_wp2_with (at_builtin; refine wpList_app rfl (.tmp 17) (.tmp 18) rfl _ _ rfl rfl _ _ R2.out ?_)
        go_end0
        exact ⟨rfl, G.out⟩

theorem spoil_own (v : Value) (base : Nat) (l : List UInt8) (w : World) (ho : Own w base v l) (hb : base ≤ w.heap.size) (hm : l.length ≤ 140737488351240) :
    Calls Tryd.prog 35 #[v] w fun e w' => e = .returned (.tuple #[]) ∧ w.grownBy w' v.ownBlock := by
  rcases ho.form with ⟨rfl, rfl⟩ | ⟨g, cap, rfl, hbg, hg, hcap⟩
  · obtain ⟨v2, w2, r2, o2, g2, b2⟩ := append_run (ho.alloc (.cells #[.int .u8 99] 5)) 1 (rd_one w 99 99 rfl) (by simp) (by simp) (by simp; omega)
    rcases o2.form with ⟨_, e⟩ | ⟨g', cap', rfl, _, hg', hcap'⟩
    · simp at e
    · have hc := o2.cell rfl 0 (by simp)
      have hf := o2.unfrozen rfl 0
      have hlt : w.heap.size ≤ g' := by
        rcases b2 with e | e
        · simp [Value.ownBlock] at e
        · simp [Value.ownBlock] at e
          omega
      have G := Lib.hid (only_then (only_then (only_alloc (World.grownBy.refl w none) _) g2 (by simp [Value.ownBlock])) (only_set (w := w2) (p := ⟨g', 0, none⟩) (.int .u8 98)) (by
        intro k hk
        injection hk with hk
        exact .inr (by simp at hk; omega)))
      have R2 := Lib.hid r2
      clear o2 g2 b2 r2 ho
      go_enter Tryd.func35, Tryd.ntmps35
      go_wp2
      refine wp_loop_rounds 1 ?_
      rw [rounds_succ]
      go_wp2_with (at_builtin; refine wpList_app rfl (.tmp 17) (.tmp 18) rfl _ _ rfl rfl _ _ R2.out ?_)
      go_end0
      exact ⟨rfl, G.out⟩
  · exact spoil_row g _ cap base l w rfl ho hb hg hm
end Go.Proofs.YtlpboleclehilaaDoor
