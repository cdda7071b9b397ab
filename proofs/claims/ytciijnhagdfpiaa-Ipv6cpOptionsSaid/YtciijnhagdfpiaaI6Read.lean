/-
  ipv6cp.Read: which identifier options ask.
-/
import Derived.Test.YtciijnhagdfpiaaI6Judges
namespace Go.Proofs.Ytciijnhagdfpiaa
open Go.RowKit
set_option maxRecDepth 100000
set_option maxHeartbeats 4000000
set_option linter.unusedSimpArgs false
set_option linter.unusedVariables false

def wrQ (s : List Opt) (i : Nat) : Bool := mR s i || !rgt (s.getD i (0, []))
theorem wr_at {s : List Opt} {i : Nat} (h : i < s.length) : wrQ s i = (mR s i || !rgt s[i]) := by
  unfold wrQ
  rw [getD_at h]
theorem indexf6_any (A : Option Addr) (n c B z : Nat) (s : List Opt) (w : World) (hr : OptRd w B A n s) (hB : B ≤ w.heap.size) (hz : Blk w z 58 (lookC 0 (mR s 0))) (hBz : B ≤ z) (hn : n ≤ 4398046511103) :
    Calls Try.prog 47 #[.slice A n c, .func (.func 33) #[.pointer (some ⟨z, 0, none⟩)] #[]] w fun e w' => ∃ r : Int, e = .returned (.int .i64 r) ∧ ((r = -1 ∧ ∀ j, j < n → wrQ s j = false) ∨ (0 ≤ r ∧ ∃ j, j < n ∧ wrQ s j = true)) ∧ w.grownBy w' (some z) := by
  have HR := Lib.hid hr
  have hlen := hr.1
  have HZ := Lib.hid hz.lt
  have H0 : Hid (Blk w z 58 (lookC 0 (mR s 0)) ∧ w.grownBy w (some z) ∧ ∀ j, j < 0 → wrQ s j = false) := ⟨hz, World.grownBy.refl _ _, fun j hj => absurd hj (Nat.not_lt_zero _)⟩
  clear hr hz
  go_enter Try.func47, Try.ntmps47
  go_wp2
  go_loopw [8] (fun i wr => ∃ (V : World) (k : Nat), V = wr ∧ k ≤ n ∧ i = .int .i64 k ∧ Hid (Blk V z 58 (lookC 0 (mR s k)) ∧ w.grownBy V (some z) ∧ ∀ j, j < k → wrQ s j = false)) (fun i _ => n - (intOf i).toNat)
  case atStart => exact ⟨_, 0, rfl, Nat.zero_le _, rfl, H0⟩
  case round =>
    obtain ⟨V, k, rfl, hk, rfl, hJ⟩ := hrel
    by_cases hlt : k < n
    · obtain ⟨b, off, rfl, hbl, hc⟩ := HR.out.2 (by omega)
      obtain ⟨c1, E, kk, cc, c2, hRd, -⟩ := hc k (by omega)
      have hks : k < s.length := by omega
      have hw := wr_at hks
      have hm := mR_step s k hks
      obtain ⟨x, hx⟩ : ∃ x, s[k]'hks = x := ⟨_, rfl⟩
      rw [hx] at c1 hRd hw hm
      obtain ⟨K, l⟩ := x
      obtain ⟨hbz, hgw, hno⟩ := hJ.out
      have hzl := HZ.out
      have d1 : V.cell? ⟨b, off + k * 2, none⟩ = some (.int .i64 K) := hgw.cell c1 (fun e => absurd (show b = z by injection e) (by omega))
      have d2 : V.cell? ⟨b, off + k * 2 + 1, none⟩ = some (.slice E kk cc) := hgw.cell c2 (fun e => absurd (show b = z by injection e) (by omega))
      have WR := wrong6_any z 0 (mR s k) K E kk cc l V hbz hRd.1
      rw [← hw, ← hm] at WR
      have WR := Lib.hid (WR.mono (R' := fun e W2 => e = .returned (.bool (wrQ s k)) ∧ Hid (Blk W2 z 58 (lookC 0 (mR s (k + 1))) ∧ w.grownBy W2 (some z))) (by
        rintro e W2 ⟨rfl, h2, g2⟩
        exact ⟨rfl, Lib.hid ⟨h2, gb_trans hgw g2⟩⟩))
      have HNO := Lib.hid hno
      clear hc c1 c2 hRd hw hm hx hbz hgw hno hJ
      rcases hq : wrQ s k with _ | _
      · rw [hq] at WR
        have HQ : Hid (∀ j, j < k + 1 → wrQ s j = false) := fun j hj => by
          rcases Nat.lt_succ_iff_lt_or_eq.1 hj with h | rfl
          · exact HNO.out j h
          · exact hq
        clear hq
        go_wp2_with (go_at_call 33; (with_reducible refine WR.out.mono ?_); rintro e W2 ⟨rfl, HN⟩)
        go_roundw
        case rel => exact ⟨_, k + 1, rfl, by omega, by go_num, HN.out.1, HN.out.2, HQ.out⟩
        case measure => simp [intOf]; omega
      · rw [hq] at WR
        have HQ : Hid (wrQ s k = true) := hq
        clear hq
        go_wp2_with (go_at_call 33; (with_reducible refine WR.out.mono ?_); rintro e W2 ⟨rfl, HN⟩)
        go_ret
        exact ⟨_, rfl, .inr ⟨Int.natCast_nonneg _, k, hlt, HQ.out⟩, HN.out.2⟩
    · have hk' : k = n := by omega
      subst hk'
      have HJ := Lib.hid hJ.out
      clear hJ
      go_wp2
      go_ret
      exact ⟨-1, rfl, .inl ⟨rfl, HJ.out.2.2⟩, HJ.out.2.1⟩
def wr6 : List Opt → Bool
  | [] => false
  | [o] => !rgt o
  | _ => true
theorem wr_none : ∀ {s : List Opt}, (∀ j, j < s.length → wrQ s j = false) → wr6 s = false
  | [], _ => rfl
  | [o], h => by
    have := h 0 (by simp)
    rw [wr_at (by simp)] at this
    simpa [mR, wr6] using this
  | o :: o2 :: s, h => by
    have a := h 0 (by simp)
    have b := h 1 (by simp)
    rw [wr_at (by simp)] at a b
    rw [mR_step _ 0 (by simp)] at b
    simp only [Bool.or_eq_false_iff] at a b
    have a2 : rgt o = true := by simpa using a.2
    have b1 : (o.1 == 1) = false := b.1.2
    unfold rgt at a2
    rw [b1] at a2
    simp at a2
theorem wr_some : ∀ {s : List Opt} {j : Nat}, j < s.length → wrQ s j = true → wr6 s = true
  | [], j, h, _ => absurd h (by simp)
  | [o], j, h, h2 => by
    obtain rfl : j = 0 := by simp at h; exact h
    rw [wr_at (by simp)] at h2
    simpa [mR, wr6] using h2
  | o :: o2 :: s, _, _, _ => rfl
theorem containsf6_any (A : Option Addr) (n c B z : Nat) (s : List Opt) (w : World) (hr : OptRd w B A n s) (hB : B ≤ w.heap.size) (hz : Blk w z 58 (lookC 0 (mR s 0))) (hBz : B ≤ z) (hn : n ≤ 4398046511103) :
    Calls Try.prog 32 #[.slice A n c, .func (.func 33) #[.pointer (some ⟨z, 0, none⟩)] #[]] w fun e w' => e = .returned (.bool (wr6 s)) ∧ w.grownBy w' (some z) := by
  have hl := hr.1
  have IX := Lib.hid ((indexf6_any A n c B z s w hr hB hz hBz hn).mono (R' := fun e w' => ∃ r : Int, e = .returned (.int .i64 r) ∧ Hid (decide (0 ≤ r) = wr6 s) ∧ Hid (w.grownBy w' (some z))) (by
    rintro e w' ⟨r, rfl, h | h, g⟩
    · refine ⟨r, rfl, ?_, Lib.hid g⟩
      show _ = _
      rw [wr_none (fun j hj => h.2 j (by omega)), h.1]
      rfl
    · obtain ⟨h0, j, hj, hq⟩ := h
      refine ⟨r, rfl, ?_, Lib.hid g⟩
      show _ = _
      rw [wr_some (by omega) hq]
      exact decide_eq_true h0))
  clear hr hz
  go_enter Try.func32, Try.ntmps32
  go_wp2_with (go_at_call 47; (with_reducible refine IX.out.mono ?_); rintro e w2 ⟨r, rfl, HV, HG⟩)
  go_ret
  exact ⟨by rw [← HV.out]; rfl, HG.out⟩
theorem read6_any (A : Option Addr) (n c B : Nat) (s : List Opt) (w : World) (hr : OptRd w B A n s) (hB : B ≤ w.heap.size) (hn : n ≤ 4398046511103) :
    Calls Try.prog 10 #[.slice A n c] w fun e w' => e = .returned (rd6V s) ∧ Below w.heap.size w w' := by
  obtain rfl := hr.1
  have CF := Lib.hid (show Calls Try.prog 32 #[.slice A s.length c, .func (.func 33) #[.pointer (some ⟨w.heap.size, 0, none⟩)] #[]] (w.alloc (.cells #[.int .u64 0, .bool false] 58)) fun e w2 => e = .returned (.bool (wr6 s)) ∧ Hid (Below w.heap.size w w2) from by
    have k1 := blk_new w 58 [.int .u64 0, .bool false]
    have B1 : Below w.heap.size w (w.alloc (.cells #[.int .u64 0, .bool false] 58)) := (Below.refl _ _).alloc (Nat.le_refl _) _
    have k1' : Blk (w.alloc (.cells #[.int .u64 0, .bool false] 58)) w.heap.size 58 (lookC 0 (mR s 0)) := k1
    refine (containsf6_any A s.length c B w.heap.size s _ (hr.below (B1.mono hB) (Nat.le_refl _)) (by have := B1.size; omega) k1' hB hn).mono ?_
    rintro e w2 ⟨rfl, g⟩
    exact ⟨rfl, Lib.hid (B1.grown g B1.size (fun q e => by injection e; omega))⟩)
  rcases s with _ | ⟨o, _ | ⟨o2, s⟩⟩
  · have HV : Hid (wr6 [] = false) := rfl
    rw [HV.out] at CF
    have hl0 : ([] : List Opt).length = 0 := rfl
    rw [hl0] at CF ⊢
    clear hr hl0 hn
    go_enter Try.func10, Try.ntmps10
    go_wp2_with (go_at_call 32; (with_reducible refine CF.out.mono ?_); rintro e w2 ⟨rfl, H2⟩)
    exact bodyPost_ret (v := .tuple #[.int .u64 0, .bool false, .int .i64 0]) (by simp [results, Try.results10, go_sem]) rfl ⟨rfl, H2.out⟩
  · obtain ⟨b, off, rfl, hb, hc⟩ := hr.2 (by simp)
    obtain ⟨x1, E, kk, cc, x2, hRd, -, hkc, -⟩ := hc 0 (by simp)
    obtain ⟨K, l⟩ := o
    have hl : l.length = kk := hRd.1
    have hl1 : ([(K, l)] : List Opt).length = 1 := rfl
    rw [hl1] at CF ⊢
    rcases hrg : rgt (K, l) with _ | _
    · have HV : Hid (rd6 [(K, l)] = (0, false, 91)) := by show _ = _; rw [rd6_one, if_neg (by rw [hrg]; simp)]
      have HWv : wr6 [(K, l)] = true := by show (!rgt (K, l)) = true; rw [hrg]; rfl
      rw [HWv] at CF
      clear hc x1 x2 hRd hr hl hl1 hrg HWv
      go_enter Try.func10, Try.ntmps10
      go_wp2_with (go_at_call 32; (with_reducible refine CF.out.mono ?_); rintro e w2 ⟨rfl, H2⟩)
      exact bodyPost_ret (v := .tuple #[.int .u64 0, .bool false, .int .i64 91]) (by simp [results, Try.results10, go_sem]) rfl ⟨by unfold rd6V; rw [HV.out], H2.out⟩
    · have HV : Hid (rd6 [(K, l)] = (num l 8, true, 0)) := by show _ = _; rw [rd6_one, if_pos hrg]
      have HWv : wr6 [(K, l)] = false := by show (!rgt (K, l)) = false; rw [hrg]; rfl
      rw [HWv] at CF
      obtain ⟨hK1, h8⟩ := right_yes hrg
      obtain rfl : kk = 8 := by omega
      have CF := Lib.hid (CF.out.mono (R' := fun e w2 => e = .returned (.bool false) ∧ (w2.cell? ⟨b, off, none⟩ = some (.int .i64 K) ∧ w2.cell? ⟨b, off + 1, none⟩ = some (.slice E 8 cc)) ∧ Hid (Calls Try.prog 34 #[.agg #[.int .i64 K, .slice E 8 cc]] w2 fun e w3 => e = .returned (.int .u64 (num l 8)) ∧ Hid (Below w.heap.size w w3))) (by
        rintro e w2 ⟨rfl, h2⟩
        have hbw : b < w.heap.size := by omega
        refine ⟨rfl, ⟨(h2.out.cell (p := ⟨b, off, none⟩) hbw).trans x1, (h2.out.cell (p := ⟨b, off + 1, none⟩) hbw).trans x2⟩, Lib.hid ((asked_any K E cc B l w2 (hRd.below (h2.out.mono hB)) (by have := h2.out.size; omega) hkc).mono ?_)⟩
        rintro e w3 ⟨rfl, h3⟩
        exact ⟨rfl, Lib.hid (h2.out.trans (h3.mono h2.out.size))⟩))
      clear hc x1 x2 hRd hr hl hl1 hrg HWv hK1 h8
      go_enter Try.func10, Try.ntmps10
      go_wp2_with (first
        | (go_at_call 32; (with_reducible refine CF.out.mono ?_); rintro e w2 ⟨rfl, ⟨y1, y2⟩, CA⟩)
        | (go_at_call 34; (with_reducible refine CA.out.mono ?_); rintro e w3 ⟨rfl, H3⟩))
      exact bodyPost_ret (v := .tuple #[.int .u64 (num l 8), .bool true, .int .i64 0]) (by simp [results, Try.results10, go_sem]) rfl ⟨by unfold rd6V; rw [HV.out], H3.out⟩
  · have HV : Hid (rd6 (o :: o2 :: s) = (0, false, 91)) := rfl
    have HWv : wr6 (o :: o2 :: s) = true := rfl
    rw [HWv] at CF
    obtain ⟨m, hm⟩ : ∃ m, (o :: o2 :: s).length = m := ⟨_, rfl⟩
    rw [hm] at CF ⊢
    clear hr HWv hm hn
    go_enter Try.func10, Try.ntmps10
    go_wp2_with (go_at_call 32; (with_reducible refine CF.out.mono ?_); rintro e w2 ⟨rfl, H2⟩)
    exact bodyPost_ret (v := .tuple #[.int .u64 0, .bool false, .int .i64 91]) (by simp [results, Try.results10, go_sem]) rfl ⟨by unfold rd6V; rw [HV.out], H2.out⟩
theorem rwant6_any (cv : Array Value) (id mf draw : Int) (w : World) (hc : ConfI cv id mf) (hd : In64 draw) :
    Calls Try.prog 15 #[.agg cv, .int .u64 draw] w fun e w' => e = .returned (.int .u64 (wnt id draw)) ∧ Below w.heap.size w w' := by
  obtain ⟨W1, hW1⟩ : ∃ W1, w.alloc (.cells cv 26) = W1 := ⟨_, rfl⟩
  have k1 : Blk W1 w.heap.size 26 cv.toList := by rw [← hW1]; exact blk_new w _ _
  have B1 : Below w.heap.size w W1 := by rw [← hW1]; exact (Below.refl _ _).alloc (Nat.le_refl _) _
  have c15 : W1.cell? ⟨w.heap.size, 15, none⟩ = some (.int .u64 id) := by rw [k1.cell 15, Array.getElem?_toList]; exact hc.2.1
  have HW := Lib.hid hW1
  have HB := Lib.hid B1
  clear k1 B1 hW1
  by_cases h0 : id = 0
  · subst h0
    have HG := Lib.hid (rgiven_any draw 0 W1 hd)
    have HV : Hid (wnt 0 draw = giv draw 0) := if_pos rfl
    go_enter Try.func15, Try.ntmps15
    go_upto_region 1 with (fail)
    rw [HW.out]
    clear HW
    go_wp2_with (go_at_call 25; (with_reducible refine HG.out.mono ?_); rintro e w2 ⟨rfl, rfl⟩)
    go_ret
    exact ⟨by rw [HV.out]; rfl, HB.out⟩
  · have e0 : (id != 0) = true := by simpa using h0
    have HV : Hid (wnt id draw = id) := if_neg h0
    clear h0
    go_enter Try.func15, Try.ntmps15
    go_upto_region 1 with (fail)
    rw [HW.out]
    clear HW
    go_wp2
    go_ret
    exact ⟨by rw [HV.out]; rfl, HB.out⟩
end Go.Proofs.Ytciijnhagdfpiaa
