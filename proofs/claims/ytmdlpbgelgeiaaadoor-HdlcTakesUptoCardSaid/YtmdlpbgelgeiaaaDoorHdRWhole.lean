/-
  tetherref03.Line.whole, where bytes have come that end with no escape (written by wip/gen_hdrwhole.py).
-/
import Derived.Test.YtmdlpbgelgeiaaaDoorHdRLine
import Derived.Deep.RegionHeldLaw
import Derived.Deep.RegionHeld3
namespace Go.Proofs.YtmdlpbgelgeiaaaDoor
open Go.RowKit
set_option maxRecDepth 100000
set_option maxHeartbeats 2000000
set_option linter.unusedSimpArgs false
set_option linter.unusedVariables false

/-- a counter goes up, and no frame is told -/
theorem wh_count {W V : World} {rb : Nat} {m a : Int} {p q : Bool} {r0 r' : RSt} (h : RLn V rb m a p q (.slice none 0 0) r0) (hg : W.grownBy V (some rb)) (k : Blk V W.heap.size 24 [.int .i64 0, .slice none 0 0]) (hb : rb < W.heap.size) (i : Nat) (v : Value)
    (e : (rlC m a p q (.slice none 0 0) r0).set i v = rlC m a p q (.slice none 0 0) r') (er : r'.raw = []) (x y : Value) :
    V.frozen? ⟨rb, i, none⟩ = false ∧ ((V.setCell ⟨rb, i, none⟩ v).cell? ⟨W.heap.size, 0, none⟩ = some (.int .i64 0) ∧ (V.setCell ⟨rb, i, none⟩ v).cell? ⟨W.heap.size, 1, none⟩ = some (.slice none 0 0) ∧ (V.setCell ⟨rb, i, none⟩ v).frozen? ⟨W.heap.size, 0, none⟩ = false ∧ (V.setCell ⟨rb, i, none⟩ v).frozen? ⟨W.heap.size, 1, none⟩ = false) ∧
    ((((V.setCell ⟨rb, i, none⟩ v).setCell ⟨W.heap.size, 0, none⟩ x).setCell ⟨W.heap.size, 1, none⟩ y).cell? ⟨W.heap.size, 0, none⟩ = some x ∧ (((V.setCell ⟨rb, i, none⟩ v).setCell ⟨W.heap.size, 0, none⟩ x).setCell ⟨W.heap.size, 1, none⟩ y).cell? ⟨W.heap.size, 1, none⟩ = some y) ∧
    RLn (((V.setCell ⟨rb, i, none⟩ v).setCell ⟨W.heap.size, 0, none⟩ x).setCell ⟨W.heap.size, 1, none⟩ y) rb m a p q (.slice none 0 0) r' ∧ W.grownBy (((V.setCell ⟨rb, i, none⟩ v).setCell ⟨W.heap.size, 0, none⟩ x).setCell ⟨W.heap.size, 1, none⟩ y) (some rb) := by
  have h1 := h.put (r' := r') i v e (by rw [er]; exact Own.nil _ _)
  have k1 : Blk (V.setCell ⟨rb, i, none⟩ v) W.heap.size 24 [.int .i64 0, .slice none 0 0] := (Below.heap_setCell _ ⟨rb, i, none⟩ _ W.heap.size (by show W.heap.size ≠ rb; omega)).trans k
  have k2 := (k1.set_ 0 x).set_ 1 y
  exact ⟨h.blk.frozen i, ⟨k1.cell 0, k1.cell 1, k1.frozen 0, k1.frozen 1⟩, ⟨k2.cell 0, k2.cell 1⟩,
    (h1.other _ 0 _ (by omega) (by simp [Value.ownBlock])).other _ 1 _ (by omega) (by simp [Value.ownBlock]), gr_new (gr_new (gr_own hg i v) _ 0 _ (Nat.le_refl _)) _ 1 _ (Nat.le_refl _)⟩
theorem own_else {V : World} {base : Nat} {v : Value} {l : List UInt8} (h : Own V base v l) (k i : Nat) (u : Value) (hk : k < base) : Own (V.setCell ⟨k, i, none⟩ u) base v l := by
  refine h.grown (only_set _) ?_
  rcases hg : v.ownBlock with _ | g
  · exact .inl rfl
  · exact .inr (fun e => by have := (h.block g hg).1; injection e with e; simp at e; omega)
theorem un_step2 (l : List UInt8) (u : List UInt8) (d : UInt8) (h : unE l = (false, u)) : unE (l ++ [125] ++ [d]) = (false, u ++ [d ^^^ 32]) := by
  rw [unE_app, unE_app, h]
  have e : unS (false, u) 125 = (true, u) := by unfold unS; rw [if_pos ⟨rfl, rfl⟩]
  rw [e]
  unfold unS
  rw [if_neg (by simp)]
  rfl
theorem un_step1 (l : List UInt8) (u : List UInt8) (d : UInt8) (h : unE l = (false, u)) (hd : d ≠ 125) : unE (l ++ [d]) = (false, u ++ [d]) := by
  rw [unE_app, h]
  unfold unS
  rw [if_neg (fun k => hd k.1)]
  rfl
theorem last_not {l : List UInt8} {k : Nat} (hk : k < l.length) (h : l.getD k 0 = 125) (hl : l.getLast? ≠ some 125) : k + 1 < l.length := by
  rcases Nat.lt_or_ge (k + 1) l.length with g | g
  · exact g
  · exfalso
    apply hl
    have e : k = l.length - 1 := by omega
    rw [List.getLast?_eq_getElem?, ← e, List.getElem?_eq_getElem hk, ← h, List.getD_eq_getElem?_getD, List.getElem?_eq_getElem hk]
    rfl

theorem rwhole_rest (rb : Nat) (m a : Int) (p q : Bool) (M : Nat) (Bv : Value) (r : RSt) (W : World) (h : RLn W rb m a p q Bv r) (hz : r.raw.length ≠ 0) (hl : r.raw.getLast? ≠ some 125) (hm : r.raw.length ≤ 70368744177664) (hM : (M : Int) = m + 6) (hm0 : 64 ≤ m) (hm1 : m ≤ 16384) :
    Calls Tryd.prog 47 #[.pointer (some ⟨rb, 0, none⟩)] W fun e w' => WhR W w' rb m a p q M r e := by
  have hb := Blk.lt h.blk
  obtain ⟨W1, hW1⟩ : ∃ W1, W.alloc (.cells #[.int .i64 0, .slice none 0 0] 24) = W1 := ⟨_, rfl⟩
  have b1 : Below W.heap.size W W1 := by rw [← hW1]; exact (Below.refl _ _).alloc (Nat.le_refl _) _
  have s1 : W1.heap.size = W.heap.size + 1 := by rw [← hW1]; simp
  obtain ⟨x1, x2, x3, x4⟩ := wh_start h
  rw [hW1] at x1 x2 x3 x4
  have h1 := h.later b1
  have c4 : W1.cell? ⟨rb, 4, none⟩ = some Bv := h1.blk.cell 4
  have f4 := h1.blk.frozen 4
  obtain ⟨g, cap, rfl, hg1, hg2, hg3⟩ : ∃ g cap, Bv = .slice (some ⟨g, 0, none⟩) r.raw.length cap ∧ rb + 1 ≤ g ∧ g < W.heap.size ∧ r.raw.length ≤ cap := by
    rcases h.own.form with ⟨_, e⟩ | h
    · exact absurd (by rw [e]; rfl) hz
    · exact h
  obtain ⟨W2, hW2⟩ : ∃ W2, W1.setCell ⟨rb, 4, none⟩ (.slice none 0 0) = W2 := ⟨_, rfl⟩
  rw [hW2] at x1 x2 x3 x4
  have s2 : W2.heap.size = W.heap.size + 1 := by rw [← hW2]; simpa [World.setCell] using s1
  have X1 := Lib.hid x1
  have X2 := Lib.hid x2
  have X3 := Lib.hid x3
  have X4 := Lib.hid x4
  have S2 := Lib.hid s2
  have HB0 : rb < W.heap.size := hb
  obtain ⟨n, hn⟩ : ∃ n, n = r.raw.length := ⟨_, rfl⟩
  have HN := Lib.hid hn
  have HLAST := Lib.hid hl
  rw [← hn] at c4 hz hm
  have n0 : ((n : Int) == 0) = false := by simp; omega
  have n1 : ((n : Int) - 1) = ((n - 1 : Nat) : Int) := by omega
  have n2 : n - 1 < n := by omega
  have n3 : (n : Int) ≤ 70368744177664 := by omega
  have n4 : (1 : Int) ≤ (n : Int) := by omega
  have n5 : ((n : Int) - 1).toNat = n - 1 := by omega
  have cl0 := x3.cell rfl (r.raw.length - 1) (by omega)
  obtain ⟨yl, hyl⟩ : ∃ y, y = byteAt r.raw (r.raw.length - 1) := ⟨_, rfl⟩
  have cl : W2.cell? ⟨g, n - 1, none⟩ = some (.int .u8 yl) := by rw [hyl, hn]; exact cl0
  have dl : (yl == 125) = false := by
    rw [hyl, byteAt_eq _ _ (by omega)]
    have : r.raw[r.raw.length - 1]'(by omega) ≠ 125 := fun e => hl (by rw [List.getLast?_eq_getElem?, List.getElem?_eq_getElem (by omega), e])
    simp
    intro e
    exact this (UInt8.toNat_inj.1 (by show _ = 125; omega))
  have HW := Lib.hid hW1
  have HW2 := Lib.hid hW2
  clear h h1 x1 x2 x3 x4 b1 hW1 hW2 s1 s2 hn hl cl0 hyl hg3
  go_enter Tryd.func47, Tryd.ntmps47
  go_upto_region 1 with (fail)
  rw [HW.out]
  go_upto_region 3 with (fail)
  rw [HW2.out]
  clear c4 f4
  go_wp2
  go_loopw [5, 6] (fun u i wr => ∃ (k : Nat) (U : List UInt8), i = .int .i64 k ∧ k ≤ n ∧ Hid (unE (r.raw.take k) = (false, U)) ∧ Hid (Own wr W2.heap.size u U) ∧ Hid (Below W2.heap.size W2 wr)) (fun _ i _ => n - (intOf i).toNat)
  case atStart => exact ⟨0, [], rfl, Nat.zero_le _, rfl, Own.nil _ _, Below.refl _ _⟩
  case round =>
    obtain ⟨k, U, rfl, hk, HU, HO, HB⟩ := hrel
    have hUl : U.length ≤ k := by
      have h1 := unE_len (r.raw.take k)
      rw [HU.out, List.length_take] at h1
      have h2 : U.length ≤ min k r.raw.length := h1
      omega
    have hw2 := HB.out.size
    by_cases hlt : k < n
    · have hkl : k < r.raw.length := by rw [← HN.out]; exact hlt
      have hx : Own wr (rb + 1) (.slice (some ⟨g, 0, none⟩) r.raw.length cap) r.raw := X3.out.later HB.out
      obtain ⟨cc, hcc⟩ : ∃ cc, cc = r.raw.getD k 0 := ⟨_, rfl⟩
      have e1 := hd_take_next r.raw k hkl
      rw [← hcc] at e1
      obtain ⟨y, hy⟩ : ∃ y : Int, y = (cc.toNat : Int) := ⟨_, rfl⟩
      have ck : wr.cell? ⟨g, k, none⟩ = some (.int .u8 y) := by rw [hy, hcc]; exact hx.cell rfl k hkl
      by_cases h125 : cc = 125
      · have hk1 : k + 1 < n := by rw [HN.out]; exact last_not hkl (by rw [← hcc]; exact h125) HLAST.out
        have hkl1 : k + 1 < r.raw.length := by rw [← HN.out]; exact hk1
        obtain ⟨dd, hdd⟩ : ∃ dd, dd = r.raw.getD (k + 1) 0 := ⟨_, rfl⟩
        have e2 := hd_take_next r.raw (k + 1) hkl1
        rw [← hdd, e1, h125] at e2
        have HE : Hid (unE (r.raw.take (k + 1 + 1)) = (false, U ++ [dd ^^^ 32])) := by show _ = _; rw [e2]; exact un_step2 _ _ _ HU.out
        have d1 : (y == 125) = true := by rw [hy, h125]; rfl
        have ck1 : wr.cell? ⟨g, k + 1, none⟩ = some (.int .u8 (dd.toNat : Int)) := by rw [hdd]; exact hx.cell rfl (k + 1) hkl1
        have hxo := xor32 dd
        obtain ⟨t, ht⟩ : ∃ t : Int, t = (dd.toNat : Int) := ⟨_, rfl⟩
        rw [← ht] at ck1 hxo
        have t0 : 0 ≤ t := by omega
        have t1 : t ≤ 255 := by have := dd.toNat_lt; omega
        obtain ⟨v3, w3, r3, o3, g3, b3⟩ := append_run (HO.out.alloc (.cells #[.int .u8 (bits .xor .u8 t 32)] 5)) 1 (rd_one wr (dd ^^^ 32) _ hxo) (by simp) (by omega) (by simp; omega)
        have B3 : Hid (Below W2.heap.size W2 w3) := (HB.out.alloc hw2 _).grown g3 (by simp; omega) (fun g e => (HO.out.block g e).1)
        have R3 := Lib.hid r3
        have O3 := Lib.hid o3
        have hk2 : (k : Int) + 1 < (n : Int) := by omega
        clear hx hcc e1 hy h125 hdd e2 hxo ht r3 o3 g3 b3
        go_wp2_with (at_builtin; refine wpList_app rfl (.tmp 52) (.tmp 58) rfl _ _ rfl rfl _ _ R3.out ?_)
        go_roundw
        case rel => exact ⟨k + 2, _, by go_num, by omega, HE, O3, B3⟩
        case measure => simp [intOf]; omega
      · have d1 : (y == 125) = false := by
          rw [hy]
          simp
          intro e
          exact h125 (UInt8.toNat_inj.1 (by show _ = 125; omega))
        have HE : Hid (unE (r.raw.take (k + 1)) = (false, U ++ [cc])) := by show _ = _; rw [e1]; exact un_step1 _ _ _ HU.out h125
        obtain ⟨v3, w3, r3, o3, g3, b3⟩ := append_run (HO.out.alloc (.cells #[.int .u8 y] 5)) 1 (rd_one wr cc y hy) (by simp) (by omega) (by simp; omega)
        have B3 : Hid (Below W2.heap.size W2 w3) := (HB.out.alloc hw2 _).grown g3 (by simp; omega) (fun g e => (HO.out.block g e).1)
        have R3 := Lib.hid r3
        have O3 := Lib.hid o3
        clear hx hcc e1 hy h125 r3 o3 g3 b3
        go_wp2_with (at_builtin; refine wpList_app rfl (.tmp 60) (.tmp 65) rfl _ _ rfl rfl _ _ R3.out ?_)
        go_roundw
        case rel => exact ⟨k + 1, _, by go_num, by omega, HE, O3, B3⟩
        case measure => simp [intOf]; omega
    · obtain rfl : k = n := by omega
      have hU : unL r = U := by
        have := HU.out
        rw [List.take_of_length_le (by rw [HN.out]; omega)] at this
        unfold unL
        rw [this]
      have h2 := X1.out.later HB.out
      have g2 := gr_later X2.out HB.out
      have k2 : Blk wr W.heap.size 24 [.int .i64 0, .slice none 0 0] := (HB.out.block _ (by have := S2.out; omega)).trans X4.out
      have o2 := HO.out
      have zN : ¬ r.raw.length = 0 := by rw [← HN.out]; exact hz
      have lN := HLAST.out
      obtain ⟨A5, n5', c5, rfl⟩ : ∃ A n c, u5 = .slice A n c := by
        rcases o2.form with ⟨e, _⟩ | ⟨g, cap, e, _⟩
        · exact ⟨_, _, _, e⟩
        · exact ⟨_, _, _, e⟩
      obtain ⟨q1, q2, q3⟩ := o2.lenF
      have QL : Hid (n5' = U.length) := q1
      have hUm : n5' ≤ 70368744177664 := by omega
      clear q1
      by_cases w4 : n5' < 4
      · have w4i : (n5' : Int) < 4 := by omega
        have u4 : (unL r).length < 4 := by rw [hU, ← QL.out]; exact w4
        have e1 : rwhS M p q r = { rclr r with ru := inc r.ru } := by unfold rwhS; rw [if_neg zN, if_neg lN, if_pos u4]
        have e2 : rwhB M p q r = false := by unfold rwhB; rw [if_pos (.inr (.inr (.inl u4)))]
        obtain ⟨f6, ⟨z0, z1, zf0, zf1⟩, ⟨v0, v1⟩, y1, y2⟩ := wh_count (r' := { rclr r with ru := inc r.ru }) h2 g2 k2 HB0 6 (.int .i64 (wrap64 (r.ru + 1))) rfl rfl (.int .i64 0) (.slice none 0 0)
        have FIN : Hid (WhR W (((wr.setCell ⟨rb, 6, none⟩ (.int .i64 (wrap64 (r.ru + 1)))).setCell ⟨W.heap.size, 0, none⟩ (.int .i64 0)).setCell ⟨W.heap.size, 1, none⟩ (.slice none 0 0)) rb m a p q M r (.returned (.tuple #[.agg #[.int .i64 0, .slice none 0 0], .bool false]))) :=
          ⟨0, none, 0, 0, by rw [e2], by rw [e1]; exact y1, (fun e => by rw [e2] at e; cases e), y2⟩
        have c6 : wr.cell? ⟨rb, 6, none⟩ = some (.int .i64 r.ru) := h2.blk.cell 6
        clear e1 e2 y1 y2 h2 g2 k2 o2 hU HU HO HB zN lN u4 QL
        go_wp2
        exact bodyPost_ret (v := .tuple #[.agg #[.int .i64 0, .slice none 0 0], .bool false]) (by simp [results, Tryd.results47, go_sem, v0, v1]) rfl FIN.out
      · have w4i : (4 : Int) ≤ (n5' : Int) := by omega
        have u4 : ¬ (unL r).length < 4 := by rw [hU, ← QL.out]; exact w4
        have c0 : wr.cell? ⟨rb, 0, none⟩ = some (.int .i64 m) := h2.blk.cell 0
        by_cases wM : M < n5'
        · have wMi : m + 6 < (n5' : Int) := by omega
          have uM : M < (unL r).length := by rw [hU, ← QL.out]; exact wM
          have e1 : rwhS M p q r = { rclr r with gi := inc r.gi } := by unfold rwhS; rw [if_neg zN, if_neg lN, if_neg u4, if_pos uM]
          have e2 : rwhB M p q r = false := by unfold rwhB; rw [if_pos (.inr (.inr (.inr uM)))]
          obtain ⟨f7, ⟨z0, z1, zf0, zf1⟩, ⟨v0, v1⟩, y1, y2⟩ := wh_count (r' := { rclr r with gi := inc r.gi }) h2 g2 k2 HB0 7 (.int .i64 (wrap64 (r.gi + 1))) rfl rfl (.int .i64 0) (.slice none 0 0)
          have FIN : Hid (WhR W (((wr.setCell ⟨rb, 7, none⟩ (.int .i64 (wrap64 (r.gi + 1)))).setCell ⟨W.heap.size, 0, none⟩ (.int .i64 0)).setCell ⟨W.heap.size, 1, none⟩ (.slice none 0 0)) rb m a p q M r (.returned (.tuple #[.agg #[.int .i64 0, .slice none 0 0], .bool false]))) :=
            ⟨0, none, 0, 0, by rw [e2], by rw [e1]; exact y1, (fun e => by rw [e2] at e; cases e), y2⟩
          have c7 : wr.cell? ⟨rb, 7, none⟩ = some (.int .i64 r.gi) := h2.blk.cell 7
          clear e1 e2 y1 y2 h2 g2 k2 o2 hU HU HO HB zN lN u4 uM QL
          go_wp2
          exact bodyPost_ret (v := .tuple #[.agg #[.int .i64 0, .slice none 0 0], .bool false]) (by simp [results, Tryd.results47, go_sem, v0, v1]) rfl FIN.out
        · have wMi : (n5' : Int) ≤ m + 6 := by omega
          have uM : ¬ M < (unL r).length := by rw [hU, ← QL.out]; exact wM
          obtain ⟨g5, hA5, hg5a, hg5b, hc5⟩ : ∃ g5, A5 = some ⟨g5, 0, none⟩ ∧ W2.heap.size ≤ g5 ∧ g5 < wr.heap.size ∧ n5' ≤ c5 := by
            rcases o2.form with ⟨e, e2⟩ | ⟨g, cap, e, h1, h2, h3⟩
            · exfalso; have h9 := QL.out; rw [e2] at h9; simp at h9; omega
            · injection e with e1 e2 e3
              exact ⟨g, e1, h1, h2, by omega⟩
          subst hA5
          obtain ⟨j, hj⟩ : ∃ j, j = n5' - 2 := ⟨_, rfl⟩
          have hj2 : 2 ≤ j := by omega
          have hjn : n5' = j + 2 := by omega
          subst hjn
          clear hj
          have i2 : ((j + 2 : Nat) : Int) - 2 = (j : Int) := by omega
          have SL : ∀ X, (Instr.slice 22 (.slice (some ⟨g5, 0, none⟩) (j + 2) c5) none (some (.int .i64 (j : Int))) none).run Tryd.prog X = .ok (.slice (some ⟨g5, 0, none⟩) j c5) X := by
            intro X
            rw [run_slice_h X 22 _ _ _ (by rw [slice_elem]; exact Tryd.underlying22) .i64 _ (by omega) (by omega), slice_elem, byte_sizeOf]
            simp [sliced, Addr.add]
          obtain ⟨ua, hua⟩ : ∃ x, x = U.getD j 0 := ⟨_, rfl⟩
          obtain ⟨ub, hub⟩ : ∃ x, x = U.getD (j + 1) 0 := ⟨_, rfl⟩
          have hUL : U.length = j + 2 := QL.out.symm
          have eU : U.take j ++ [ua, ub] = U := by
            have e1 := hd_take_next U j (by omega)
            have e2 := hd_take_next U (j + 1) (by omega)
            rw [List.take_of_length_le (by omega), e1, ← hua, ← hub, List.append_assoc] at e2
            exact e2.symm
          have hsi := sum_iff (U.take j) ua ub
          rw [eU] at hsi
          have ca : wr.cell? ⟨g5, j, none⟩ = some (.int .u8 (ua.toNat : Int)) := by rw [hua]; exact o2.cell QL.out j (by omega)
          have cb : wr.cell? ⟨g5, j + 1, none⟩ = some (.int .u8 (ub.toNat : Int)) := by rw [hub]; exact o2.cell QL.out (j + 1) (by omega)
          have hrj := o2.rd QL.out j (by omega)
          obtain ⟨z, hz'⟩ : ∃ z : Int, z = ((sum16 (U.take j) : Nat) : Int) := ⟨_, rfl⟩
          have SC := rsum03_any (some ⟨g5, 0, none⟩) j c5 _ (U.take j) wr hrj (by unfold maxLen; omega)
          rw [← hz'] at SC
          have hs16 := sum16_lt (U.take j)
          have z0' : 0 ≤ z := by omega
          have z1' : z ≤ 65535 := by omega
          have hq : IntKind.u16.wrap (z.tdiv 256) % 256 = z / 256 := by
            rw [Int.tdiv_eq_ediv_of_nonneg z0', IntWalk.u16_in _ (by omega)]
            omega
          replace SC := Lib.hid SC
          obtain ⟨xa, hxa⟩ : ∃ x : Int, x = (ua.toNat : Int) := ⟨_, rfl⟩
          obtain ⟨xb, hxb⟩ : ∃ x : Int, x = (ub.toNat : Int) := ⟨_, rfl⟩
          rw [← hxa] at ca
          rw [← hxb] at cb
          have hjt : (unL r).take ((unL r).length - 2) = U.take j := by rw [hU, hUL]; rfl
          by_cases ha : xa = z % 256
          · by_cases hb2 : xb = z / 256
            · have hcr : crc P16 65535 U = 61624 := hsi.2 ⟨by omega, by omega⟩
              have d1 : (xa != z % 256) = false := by simpa using ha
              have d2 : (xb != IntKind.u16.wrap (z.tdiv 256) % 256) = false := by rw [hq]; simpa using hb2
              obtain ⟨E, hE⟩ : ∃ E, E = pE (U.take j) p q := ⟨_, rfl⟩
              have hjk : jdK p q (unL r) = if E ≠ 0 then 2 else 0 := by rw [hU]; unfold jdK; rw [if_neg (by rw [hcr]; simp), hUL, hE]; rfl
              have q0 : wr.cell? ⟨rb, 2, none⟩ = some (.bool p) := h2.blk.cell 2
              have q1 : wr.cell? ⟨rb, 3, none⟩ = some (.bool q) := h2.blk.cell 3
              have PC : Hid (∀ X, Below wr.heap.size wr X → Calls Tryd.prog 23 #[.slice (some ⟨g5, 0, none⟩) j c5, .bool p, .bool q] X fun e w4 => ∃ z A4 m4 c4, e = .returned (.tuple #[.agg #[.int .i64 z, .slice A4 m4 c4], .int .i64 E]) ∧ Below X.heap.size X w4 ∧ Hid (Below wr.heap.size wr w4) ∧ Hid (E = 0 → z = frP (unL r) ∧ Own w4 X.heap.size (.slice A4 m4 c4) (frI (unL r)))) := by
                show ∀ X, _
                intro X hX
                refine (rparse_any (some ⟨g5, 0, none⟩) j c5 wr.heap.size (U.take j) p q X ((hrj.wide (by first | exact Nat.le_refl _ | omega)).below hX) hX.size (by omega) (by simp) (by omega)).mono ?_
                rintro e w4 ⟨v, rfl, hpr, hb4⟩
                have hsx := hX.size
                have hf : Below wr.heap.size wr w4 := hX.trans (hb4.mono hsx)
                unfold PrsR at hpr
                rw [← hE] at hpr
                by_cases hz : E = 0
                · rw [if_pos hz] at hpr
                  obtain ⟨A4, m4, c4, rfl, hm4, ho4⟩ := hpr
                  exact ⟨_, A4, m4, c4, by rw [← hE], hb4, hf, fun _ => ⟨by unfold frP; rw [hjt], by unfold frI; rw [hjt]; exact ho4⟩⟩
                · rw [if_neg hz] at hpr
                  subst hpr
                  exact ⟨0, none, 0, 0, by rw [← hE], hb4, hf, fun e => absurd e hz⟩
              have H2 := Lib.hid h2
              have G2 := Lib.hid g2
              have K2 := Lib.hid k2
              have HJK := Lib.hid hjk
              have rbl : rb < wr.heap.size := by have := S2.out; omega
              have ZN := Lib.hid zN
              have LN := Lib.hid lN
              have U4 := Lib.hid u4
              have UM := Lib.hid uM
              clear hU HU HO zN lN u4 uM hua hub hUL eU hsi hrj hz' hs16 hq hxa hxb hjt ha hb2 hcr hE hjk h2 g2 k2 o2
              go_upto_region 26 with (go_at_call 41; refine SC.out.mono ?_; rintro e w' ⟨rfl, rfl⟩)
              go_cut [8, 9] from 10 (fun u8 u9 W5 => ∃ k z A4 m4 c4, u8 = .pointer (some ⟨k, 0, none⟩) ∧ u9 = .int .i64 E ∧ wr.heap.size ≤ k ∧ Hid (Blk W5 k 24 [.int .i64 z, .slice A4 m4 c4]) ∧ Hid (Below wr.heap.size wr W5) ∧ Hid (E = 0 → z = frP (unL r) ∧ Own W5 wr.heap.size (.slice A4 m4 c4) (frI (unL r))))
              case first =>
                have hA1 : Below wr.heap.size wr wr.drew := below_dS (Below.refl _ _)
                have hA2 : Below wr.heap.size wr (wr.alloc (.cells #[.int .i64 0, .slice none 0 0] 24)).drew := below_dS ((Below.refl _ _).alloc (Nat.le_refl _) _)
                have n1' : Blk (wr.alloc (.cells #[.int .i64 0, .slice none 0 0] 24)).drew wr.heap.size 24 [.int .i64 0, .slice none 0 0] := heap_alloc_new wr _
                have HA1 := Lib.hid hA1
                have HA2 := Lib.hid hA2
                have N1 := Lib.hid n1'
                clear hA1 hA2 n1' ca cb c0
                have t0 := World.new_ne wr _ q0
                have t1 := World.new_ne wr _ q1
                have hw1 : IntKind.i64.wrap (((j + 2 : Nat) : Int) - 2) = (j : Int) := by rw [IntWalk.i64_in _ (by omega)]; omega
                have hw2 : IntKind.i64.wrap ((j : Int) + 2 - 2) = (j : Int) := by rw [IntWalk.i64_in _ (by omega)]; omega
                have hw3 : IntKind.i64.wrap (j : Int) = (j : Int) := IntWalk.i64_in _ (by omega)
                go_region_held3 (fun w' => w'.cell? ⟨rb, 2, none⟩ = some (.bool p) ∧ w'.cell? ⟨rb, 3, none⟩ = some (.bool q)) (go_keep) (first
                  | (go_at_call 23; ((with_reducible refine (PC.out _ HA1.out).mono ?_); rintro e w4 ⟨z, A4, m4, c4, rfl, bb, HB4, HF4⟩; have r0 := (bb.cell (p := ⟨rb, 2, none⟩) (by show rb < _; have := HA1.out.size; omega)).trans q0; have r1 := (bb.cell (p := ⟨rb, 3, none⟩) (by show rb < _; have := HA1.out.size; omega)).trans q1; have t5 := World.new_ne w4 _ r0; clear bb))
                  | (go_at_call 23; ((with_reducible refine (PC.out _ HA2.out).mono ?_); rintro e w4 ⟨z, A4, m4, c4, rfl, bb, HB4, HF4⟩; have r0 := (bb.cell (p := ⟨rb, 2, none⟩) (by show rb < _; have := HA2.out.size; omega)).trans ((HA2.out.cell (p := ⟨rb, 2, none⟩) (by show rb < _; omega)).trans q0); have r1 := (bb.cell (p := ⟨rb, 3, none⟩) (by show rb < _; have := HA2.out.size; omega)).trans ((HA2.out.cell (p := ⟨rb, 3, none⟩) (by show rb < _; omega)).trans q1); have n2' : Blk w4 wr.heap.size 24 [.int .i64 0, .slice none 0 0] := (bb.block _ (Blk.lt N1.out)).trans N1.out; have p0 := Blk.cell n2' 0; have p1 := Blk.cell n2' 1; have g0 := Blk.frozen n2' 0; have g1 := Blk.frozen n2' 1; have N2 := Lib.hid n2'; clear bb n2')))
                all_goals
                  go_wp2
                  go_meet
                  case rel =>
                    first
                      | exact ⟨_, z, A4, m4, c4, rfl, rfl, HB4.out.size, blk_new w4 24 [.int .i64 z, .slice A4 m4 c4], HB4.out.alloc HB4.out.size _, fun e => ⟨(HF4.out e).1, (own_lower (HF4.out e).2 HA1.out.size).alloc _⟩⟩
                      | exact ⟨_, z, A4, m4, c4, rfl, rfl, Nat.le_refl _, (N2.out.set_ 0 (.int .i64 z)).set_ 1 (.slice A4 m4 c4), (HB4.out.setCell (p := ⟨wr.heap.size, 0, none⟩) (Nat.le_refl _) _).setCell (p := ⟨wr.heap.size, 1, none⟩) (Nat.le_refl _) _, fun e => ⟨(HF4.out e).1, own_lower (own_else (own_else (HF4.out e).2 wr.heap.size 0 _ (Blk.lt N1.out)) wr.heap.size 1 _ (Blk.lt N1.out)) HA2.out.size⟩⟩
              case rest =>
                obtain ⟨k, zz, A4, m4, c4, rfl, rfl, hkw, KW, HB5, HF5⟩ := hcut
                rename World => W5
                have h2 := H2.out.later HB5.out
                have g2 := gr_later G2.out HB5.out
                have k2 : Blk W5 W.heap.size 24 [.int .i64 0, .slice none 0 0] := (HB5.out.block _ (by have := S2.out; omega)).trans K2.out
                have zN := ZN.out
                have lN := LN.out
                have u4 := U4.out
                have uM := UM.out
                have ncn : ¬ (r.raw.length = 0 ∨ r.raw.getLast? = some 125 ∨ (unL r).length < 4 ∨ M < (unL r).length) := by
                  rintro (k | k | k | k)
                  · exact zN k
                  · exact lN k
                  · exact u4 k
                  · exact uM k
                by_cases hE0 : E = 0
                · have hj0 : jdK p q (unL r) = 0 := by rw [HJK.out, if_neg (by simpa using hE0)]
                  have e1 : rwhS M p q r = { rclr r with fr := inc r.fr } := by unfold rwhS; rw [if_neg zN, if_neg lN, if_neg u4, if_neg uM, if_pos hj0]
                  have e2 : rwhB M p q r = true := by unfold rwhB; rw [if_neg ncn, hj0]; rfl
                  obtain ⟨f5, ⟨z0, z1, zf0, zf1⟩, ⟨v0, v1⟩, y1, y2⟩ := wh_count (r' := { rclr r with fr := inc r.fr }) h2 g2 k2 HB0 5 (.int .i64 (wrap64 (r.fr + 1))) rfl rfl (.int .i64 zz) (.slice A4 m4 c4)
                  obtain ⟨hf1, hf2⟩ := HF5.out hE0
                  have wsz : W.heap.size < wr.heap.size := by have := S2.out; omega
                  have FIN : Hid (WhR W (((W5.setCell ⟨rb, 5, none⟩ (.int .i64 (wrap64 (r.fr + 1)))).setCell ⟨W.heap.size, 0, none⟩ (.int .i64 zz)).setCell ⟨W.heap.size, 1, none⟩ (.slice A4 m4 c4)) rb m a p q M r (.returned (.tuple #[.agg #[.int .i64 zz, .slice A4 m4 c4], .bool true]))) :=
                    ⟨zz, A4, m4, c4, by rw [e2], by rw [e1]; exact y1, (fun _ => ⟨hf1, own_lower (own_else (own_else (own_else hf2 rb 5 _ rbl) W.heap.size 0 _ wsz) W.heap.size 1 _ wsz) (by omega)⟩), y2⟩
                  have c5' : W5.cell? ⟨rb, 5, none⟩ = some (.int .i64 r.fr) := h2.blk.cell 5
                  have kk : Blk (W5.setCell ⟨rb, 5, none⟩ (.int .i64 (wrap64 (r.fr + 1)))) k 24 [.int .i64 zz, .slice A4 m4 c4] := (Below.heap_setCell _ ⟨rb, 5, none⟩ _ k (by show k ≠ rb; omega)).trans KW.out
                  have kk0 := kk.cell 0
                  have kk1 := kk.cell 1
                  subst hE0
                  clear e1 e2 y1 y2 h2 g2 k2 hf1 hf2 kk ncn zN lN u4 uM hj0 HF5 HB5 ca cb c0
                  go_wp2
                  exact bodyPost_ret (v := .tuple #[.agg #[.int .i64 zz, .slice A4 m4 c4], .bool true]) (by simp [results, Tryd.results47, go_sem, v0, v1]) rfl FIN.out
                · have hj2' : jdK p q (unL r) = 2 := by rw [HJK.out, if_pos (by simpa using hE0)]
                  have dE : (E != 0) = true := by simpa using hE0
                  have e1 : rwhS M p q r = { rclr r with wr := inc r.wr } := by unfold rwhS; rw [if_neg zN, if_neg lN, if_neg u4, if_neg uM, if_neg (by rw [hj2']; decide), if_neg (by rw [hj2']; decide)]
                  have e2 : rwhB M p q r = false := by unfold rwhB; rw [hj2']; split <;> rfl
                  obtain ⟨f10, ⟨z0, z1, zf0, zf1⟩, ⟨v0, v1⟩, y1, y2⟩ := wh_count (r' := { rclr r with wr := inc r.wr }) h2 g2 k2 HB0 10 (.int .i64 (wrap64 (r.wr + 1))) rfl rfl (.int .i64 0) (.slice none 0 0)
                  have FIN : Hid (WhR W (((W5.setCell ⟨rb, 10, none⟩ (.int .i64 (wrap64 (r.wr + 1)))).setCell ⟨W.heap.size, 0, none⟩ (.int .i64 0)).setCell ⟨W.heap.size, 1, none⟩ (.slice none 0 0)) rb m a p q M r (.returned (.tuple #[.agg #[.int .i64 0, .slice none 0 0], .bool false]))) :=
                    ⟨0, none, 0, 0, by rw [e2], by rw [e1]; exact y1, (fun e => by rw [e2] at e; cases e), y2⟩
                  have c10 : W5.cell? ⟨rb, 10, none⟩ = some (.int .i64 r.wr) := h2.blk.cell 10
                  clear e1 e2 y1 y2 h2 g2 k2 ncn zN lN u4 uM hj2' hE0 HF5 HB5 ca cb c0
                  go_wp2
                  exact bodyPost_ret (v := .tuple #[.agg #[.int .i64 0, .slice none 0 0], .bool false]) (by simp [results, Tryd.results47, go_sem, v0, v1]) rfl FIN.out
            · have hj1 : jdK p q (unL r) = 1 := by rw [hU]; unfold jdK; rw [if_pos (fun e => hb2 (by have := (hsi.1 e).2; omega))]
              have d1 : (xa != z % 256) = false := by simpa using ha
              have d2 : (xb != IntKind.u16.wrap (z.tdiv 256) % 256) = true := by rw [hq]; simpa using hb2
              have e1 : rwhS M p q r = { rclr r with su := inc r.su } := by unfold rwhS; rw [if_neg zN, if_neg lN, if_neg u4, if_neg uM, if_neg (by rw [hj1]; decide), if_pos hj1]
              have e2 : rwhB M p q r = false := by unfold rwhB; rw [hj1]; split <;> rfl
              obtain ⟨f8, ⟨z0, z1, zf0, zf1⟩, ⟨v0, v1⟩, y1, y2⟩ := wh_count (r' := { rclr r with su := inc r.su }) h2 g2 k2 HB0 8 (.int .i64 (wrap64 (r.su + 1))) rfl rfl (.int .i64 0) (.slice none 0 0)
              have FIN : Hid (WhR W (((wr.setCell ⟨rb, 8, none⟩ (.int .i64 (wrap64 (r.su + 1)))).setCell ⟨W.heap.size, 0, none⟩ (.int .i64 0)).setCell ⟨W.heap.size, 1, none⟩ (.slice none 0 0)) rb m a p q M r (.returned (.tuple #[.agg #[.int .i64 0, .slice none 0 0], .bool false]))) :=
                ⟨0, none, 0, 0, by rw [e2], by rw [e1]; exact y1, (fun e => by rw [e2] at e; cases e), y2⟩
              have c8 : wr.cell? ⟨rb, 8, none⟩ = some (.int .i64 r.su) := h2.blk.cell 8
              clear e1 e2 y1 y2 h2 g2 k2 o2 hU HU HO HB zN lN u4 uM QL hua hub hUL eU hsi hrj hz' hs16 hq hxa hxb hjt ha hj1 hb2
              go_wp2_with (go_at_call 41; refine SC.out.mono ?_; rintro e w' ⟨rfl, rfl⟩)
              exact bodyPost_ret (v := .tuple #[.agg #[.int .i64 0, .slice none 0 0], .bool false]) (by simp [results, Tryd.results47, go_sem, v0, v1]) rfl FIN.out
          · have hj1 : jdK p q (unL r) = 1 := by rw [hU]; unfold jdK; rw [if_pos (fun e => ha (by have := (hsi.1 e).1; omega))]
            have d1 : (xa != z % 256) = true := by simpa using ha
            have e1 : rwhS M p q r = { rclr r with su := inc r.su } := by unfold rwhS; rw [if_neg zN, if_neg lN, if_neg u4, if_neg uM, if_neg (by rw [hj1]; decide), if_pos hj1]
            have e2 : rwhB M p q r = false := by unfold rwhB; rw [hj1]; split <;> rfl
            obtain ⟨f8, ⟨z0, z1, zf0, zf1⟩, ⟨v0, v1⟩, y1, y2⟩ := wh_count (r' := { rclr r with su := inc r.su }) h2 g2 k2 HB0 8 (.int .i64 (wrap64 (r.su + 1))) rfl rfl (.int .i64 0) (.slice none 0 0)
            have FIN : Hid (WhR W (((wr.setCell ⟨rb, 8, none⟩ (.int .i64 (wrap64 (r.su + 1)))).setCell ⟨W.heap.size, 0, none⟩ (.int .i64 0)).setCell ⟨W.heap.size, 1, none⟩ (.slice none 0 0)) rb m a p q M r (.returned (.tuple #[.agg #[.int .i64 0, .slice none 0 0], .bool false]))) :=
              ⟨0, none, 0, 0, by rw [e2], by rw [e1]; exact y1, (fun e => by rw [e2] at e; cases e), y2⟩
            have c8 : wr.cell? ⟨rb, 8, none⟩ = some (.int .i64 r.su) := h2.blk.cell 8
            clear e1 e2 y1 y2 h2 g2 k2 o2 hU HU HO HB zN lN u4 uM QL hua hub hUL eU hsi hrj hz' hs16 hq hxa hxb hjt ha hj1
            go_wp2_with (go_at_call 41; refine SC.out.mono ?_; rintro e w' ⟨rfl, rfl⟩)
            exact bodyPost_ret (v := .tuple #[.agg #[.int .i64 0, .slice none 0 0], .bool false]) (by simp [results, Tryd.results47, go_sem, v0, v1]) rfl FIN.out
end Go.Proofs.YtmdlpbgelgeiaaaDoor
