/-
  tetherref01.Reader's Take, Num, Left: what they answer and what is left.
-/
import Derived.Test.YtamcoppfjmggcaaTakes
import Derived.Test.YtamcoppfjmggcaaRefGet
namespace Go.Proofs.Ytamcoppfjmggcaa
open Go.RowKit
set_option maxRecDepth 100000
set_option linter.unusedSimpArgs false
set_option linter.unusedVariables false

def RefAt (w : World) (B g : Nat) (r : List UInt8) (e : Int) : Prop := ∃ a, Rdr w B g 39 a e ∧ (e = 0 → a = r)
theorem RefAt.later {w w' : World} {B g : Nat} {r : List UInt8} {e : Int} (h : RefAt w B g r e) (hB : Below w.heap.size w w') : RefAt w' B g r e := by
  obtain ⟨a, h1, h2⟩ := h
  exact ⟨a, h1.later hB, h2⟩
theorem RefAt.drewN {w : World} {B g : Nat} {r : List UInt8} {e : Int} (h : RefAt w B g r e) (k : Nat) : RefAt (w.drewN k) B g r e := h
theorem RefAt.cell1 {w : World} {B g : Nat} {r : List UInt8} {e : Int} (h : RefAt w B g r e) : w.cell? ⟨g, 1, none⟩ = some (.int .i64 e) := by
  obtain ⟨_, ⟨_, _, _, hb, _⟩, _⟩ := h
  exact hb.cell 1
theorem Rdr.errd {w : World} {B g t : Nat} {r : List UInt8} {e e2 : Int} (h : Rdr w B g t r e) : Rdr (w.setCell ⟨g, 1, none⟩ (.int .i64 e2)) B g t r e2 := by
  obtain ⟨A, k, c, hb, hr, h1, h2, h3, h4, h5⟩ := h
  exact ⟨A, k, c, hb.set_ 1 _, hr.apart hb h5 (only_set (w := w) (p := ⟨g, 1, none⟩) _), h1, h2, h3, h4, by rw [World.size_setCell]; exact h5⟩

theorem reftake_any (B g : Nat) (n : Int) (r : List UInt8) (e : Int) (w : World) (h : RefAt w B g r e) :
    Calls Try.prog 21 #[.pointer (some ⟨g, 0, none⟩), .int .i64 n] w fun e' w' =>
      ∃ v, e' = .returned v ∧ Own w' w.heap.size v (tkOut r e n) ∧ RefAt w' B g (tkRest r e n) (tkErr r e n) ∧ w.grownBy w' (some g) := by
  obtain ⟨a, hR, ha⟩ := h
  have hR0 := hR
  obtain ⟨A, k, c, hb, hr, h1, h2, h3, hgB, hBs⟩ := hR
  have c0 : w.cell? ⟨g, 0, none⟩ = some (.slice A k c) := hb.cell 0
  have c1 : w.cell? ⟨g, 1, none⟩ = some (.int .i64 e) := hb.cell 1
  have f1 := hb.frozen 1
  by_cases he : e ≠ 0
  · have e1 : tkErr r e n = e := if_pos he
    have e2 : tkOut r e n = [] := by unfold tkOut; rw [e1, if_neg he]
    rw [e1, e2]
    have hz : (e != 0) = true := by simpa using he
    have R := Lib.hid hR0
    have HE := Lib.hid he
    clear hR0 hb hr h3 ha he e1 e2
    go_enter Try.func21, Try.ntmps21
    go_wp2
    go_ret
    exact ⟨_, rfl, Own.nil _ _, ⟨a, R.out, fun h => absurd h HE.out⟩, World.grownBy.refl _ _⟩
  · obtain rfl : e = 0 := by simpa using he
    obtain rfl := ha rfl
    have hl := hr.1
    by_cases hn : n < 0
    · have e1 : tkErr a 0 n = 1 := by unfold tkErr; simp [hn]
      have e2 : tkOut a 0 n = [] := by unfold tkOut; rw [e1]; rfl
      rw [e1, e2]
      have R := Lib.hid (hR0.errd (e2 := 1))
      have G := Lib.hid (only_set (w := w) (p := ⟨g, 1, none⟩) (.int .i64 1))
      clear hR0 hb hr h3 ha he e1 e2 hl
      go_enter Try.func21, Try.ntmps21
      go_wp2
      go_ret
      exact ⟨_, rfl, Own.nil _ _, ⟨a, R.out, fun h => by cases h⟩, G.out⟩
    · obtain ⟨m, rfl⟩ := Int.eq_ofNat_of_zero_le (show 0 ≤ n by omega)
      by_cases hlt : (a.length : Int) < m
      · have e1 : tkErr a 0 m = 8 := by unfold tkErr; rw [if_neg (by simp), if_neg hn, if_pos hlt]
        have e2 : tkOut a 0 m = [] := by unfold tkOut; rw [e1]; rfl
        rw [e1, e2]
        have R := Lib.hid (hR0.errd (e2 := 8))
        have G := Lib.hid (only_set (w := w) (p := ⟨g, 1, none⟩) (.int .i64 8))
        rw [hl] at hlt
        clear hR0 hb hr h3 ha he e1 e2 hl hn
        go_enter Try.func21, Try.ntmps21
        go_wp2
        go_ret
        exact ⟨_, rfl, Own.nil _ _, ⟨a, R.out, fun h => by cases h⟩, G.out⟩
      · have e1 : tkErr a 0 m = 0 := by unfold tkErr; rw [if_neg (by simp), if_neg hn, if_neg hlt]
        have e2 : tkOut a 0 m = a.take m := by unfold tkOut; rw [e1, if_pos rfl, Int.toNat_natCast]
        have e3 : tkRest a 0 m = a.drop m := by unfold tkRest; rw [e1, if_pos rfl, Int.toNat_natCast]
        rw [e1, e2, e3]
        have hmk : m ≤ k := by omega
        have hmc : m ≤ c := by omega
        have hnil : A = none → c = 0 := by
          rcases h3 with ⟨_, h⟩ | ⟨b, off, h⟩
          · exact fun _ => h
          · intro e
            rw [h] at e
            cases e
        obtain ⟨v1, w1, r1, o1, g1, b1⟩ := append_run (Own.nil w w.heap.size) c (hr.front hmk) hnil (by simp; omega) (Nat.le_refl _)
        have hg1 : Below w.heap.size w w1 := (Below.refl _ _).grown g1 (Nat.le_refl _) (by simp [Value.ownBlock])
        have hb1 : Blk w1 g 39 [.slice A k c, .int .i64 0] := (hg1.block g hb.lt).trans hb
        have hr1 : Rd w1 B A k a := hr.below (hg1.mono hBs)
        have hBs1 : B ≤ w1.heap.size := Nat.le_trans hBs hg1.size
        have c10 : w1.cell? ⟨g, 0, none⟩ = some (.slice A k c) := hb1.cell 0
        have f10 := hb1.frozen 0
        have vne : v1.ownBlock = none ∨ v1.ownBlock ≠ some g := by
          rcases b1 with h | h
          · exact .inl h
          · refine .inr ?_
            rw [h]
            have := hb.lt
            simp
            omega
        have cut := hr1.cut hmk h1
        have R1 := Lib.hid r1
        by_cases hcm : c = m
        · subst hcm
          obtain rfl : k = c := by omega
          rw [if_pos rfl, Nat.sub_self] at cut
          have R := Lib.hid (Rdr.stored (c := 0) hb1 hgB hBs1 cut (by omega) (by omega) (by
            rcases h3 with ⟨h, _⟩ | h
            · exact .inl ⟨h, rfl⟩
            · exact .inr h))
          have gs := only_set (w := w1) (p := ⟨g, 0, none⟩) (.slice A 0 0)
          have O := Lib.hid (o1.grown gs vne)
          have G := Lib.hid (only_then (only_of_below hg1 (some g)) gs (fun i hi => .inl hi))
          clear hR0 hb hr h3 ha he e1 e2 e3 hl hn hlt r1 o1 g1 b1 hg1 hb1 hr1 vne cut gs hnil
          go_enter Try.func21, Try.ntmps21
          go_wp2_with (at_builtin; refine wpList_app rfl (.tmp 26) (.tmp 32) rfl _ _ rfl rfl _ _ R1.out ?_)
          go_ret
          exact ⟨_, rfl, O.out, ⟨_, R.out, fun _ => rfl⟩, G.out⟩
        · rcases h3 with ⟨rfl, rfl⟩ | ⟨b, off, rfl⟩
          · omega
          · rw [if_neg hcm] at cut
            have cut2 : Rd w1 B (some ⟨b, off + m, none⟩) (k - m) (a.drop m) := cut
            have R := Lib.hid (Rdr.stored (c := c - m) hb1 hgB hBs1 cut2 (by omega) (by omega) (.inr ⟨_, _, rfl⟩))
            have gs := only_set (w := w1) (p := ⟨g, 0, none⟩) (.slice (some ⟨b, off + m, none⟩) (k - m) (c - m))
            have O := Lib.hid (o1.grown gs vne)
            have G := Lib.hid (only_then (only_of_below hg1 (some g)) gs (fun i hi => .inl hi))
            clear hR0 hb hr ha he e1 e2 e3 hl hn hlt r1 o1 g1 b1 hg1 hb1 hr1 vne cut cut2 gs hnil
            go_enter Try.func21, Try.ntmps21
            go_wp2_with (at_builtin; refine wpList_app rfl (.tmp 26) (.tmp 32) rfl _ _ rfl rfl _ _ R1.out ?_)
            go_ret
            exact ⟨_, rfl, O.out, ⟨_, R.out, fun _ => rfl⟩, G.out⟩

theorem Own.any {w : World} {base : Nat} {v : Value} {l : List UInt8} (h : Own w base v l) : ∃ A cap, v = .slice A l.length cap ∧ Rd w w.heap.size A l.length l ∧ l.length ≤ cap := by
  rcases h.form with ⟨rfl, rfl⟩ | ⟨g, cap, rfl, _, _, hc⟩
  · exact ⟨none, 0, rfl, Rd.nil, Nat.le_refl _⟩
  · have h1 := h.rd rfl l.length (Nat.le_refl _)
    rw [List.take_of_length_le (Nat.le_refl _)] at h1
    exact ⟨_, cap, rfl, h1, hc⟩

theorem num_front (l : List UInt8) (k : Nat) : num (l.take k) k = num l k := num_congr _ _ k fun _ hj => byteAt_take _ _ _ hj

theorem refnum_any (B g : Nat) (n : Int) (r : List UInt8) (e : Int) (w : World) (h : RefAt w B g r e) :
    Calls Try.prog 19 #[.pointer (some ⟨g, 0, none⟩), .int .i64 n] w fun e' w' =>
      e' = .returned (.int .u64 (nmVal r e n)) ∧ RefAt w' B g (nmRest r e n) (nmErr r e n) ∧ w.grownBy w' (some g) := by
  obtain ⟨a, hR, ha⟩ := h
  have hR0 := hR
  obtain ⟨A, k, c, hb, hr, h1, h2, h3, hgB, hBs⟩ := hR
  have c0 : w.cell? ⟨g, 0, none⟩ = some (.slice A k c) := hb.cell 0
  have c1 : w.cell? ⟨g, 1, none⟩ = some (.int .i64 e) := hb.cell 1
  have f1 := hb.frozen 1
  clear hb hr h1 h2 h3 hgB hBs
  have X : ∃ (L R' : List UInt8) (E' : Int), L.length ≤ 8 ∧ num L L.length = nmVal r e n ∧ nmRest r e n = R' ∧ nmErr r e n = E' ∧
      ((e = 0 ∧ ¬ (1 ≤ n ∧ n ≤ 8)) → Calls Try.prog 21 #[.pointer (some ⟨g, 0, none⟩), .int .i64 n] (w.setCell ⟨g, 1, none⟩ (.int .i64 1)) fun e' w' => ∃ v, e' = .returned v ∧ Own w' w.heap.size v L ∧ RefAt w' B g R' E' ∧ w.grownBy w' (some g)) ∧
      ((e ≠ 0 ∨ (1 ≤ n ∧ n ≤ 8)) → Calls Try.prog 21 #[.pointer (some ⟨g, 0, none⟩), .int .i64 n] w fun e' w' => ∃ v, e' = .returned v ∧ Own w' w.heap.size v L ∧ RefAt w' B g R' E' ∧ w.grownBy w' (some g)) := by
    by_cases he : e ≠ 0
    · have t1 : tkErr r e n = e := if_pos he
      have t2 : tkOut r e n = [] := by unfold tkOut; rw [t1, if_neg he]
      have t3 : tkRest r e n = [] := by unfold tkRest; rw [t1, if_neg he]
      have e1 : nmErr r e n = e := if_pos he
      have e2 : nmVal r e n = 0 := by unfold nmVal; rw [e1, if_neg he]
      have e3 : nmRest r e n = [] := by unfold nmRest; rw [e1, if_neg he]
      have T := reftake_any B g n r e w ⟨a, hR0, ha⟩
      rw [t1, t2, t3] at T
      exact ⟨[], [], e, by simp, e2.symm, e3, e1, fun h => absurd h.1 he, fun _ => T⟩
    · obtain rfl : e = 0 := by simpa using he
      obtain rfl := ha rfl
      by_cases hs : 1 ≤ n ∧ n ≤ 8
      · have T := reftake_any B g n a 0 w ⟨a, hR0, ha⟩
        have te : tkErr a 0 n = nmErr a 0 n := by
          unfold tkErr nmErr
          rw [if_neg (show ¬ n < 0 by omega), if_neg (show ¬ ¬ (1 ≤ n ∧ n ≤ 8) from fun h => h hs)]
        rw [te] at T
        by_cases hE : nmErr a 0 n = 0
        · have t2 : tkOut a 0 n = a.take n.toNat := by unfold tkOut; rw [te, if_pos hE]
          have t3 : tkRest a 0 n = a.drop n.toNat := by unfold tkRest; rw [te, if_pos hE]
          have e2 : nmVal a 0 n = num a n.toNat := by unfold nmVal; rw [if_pos hE]
          have e3 : nmRest a 0 n = a.drop n.toNat := by unfold nmRest; rw [if_pos hE]
          have hle : n.toNat ≤ a.length := by
            have := hE
            unfold nmErr at this
            rw [if_neg (by simp), if_neg (by simpa using hs)] at this
            split at this
            · omega
            · omega
          have hlen : (a.take n.toNat).length = n.toNat := by rw [List.length_take]; omega
          rw [t2, t3] at T
          refine ⟨_, _, _, by rw [hlen]; omega, ?_, e3, rfl, fun h => absurd hs h.2, fun _ => T⟩
          rw [hlen, e2, num_front]
        · have t2 : tkOut a 0 n = [] := by unfold tkOut; rw [te, if_neg hE]
          have t3 : tkRest a 0 n = [] := by unfold tkRest; rw [te, if_neg hE]
          have e2 : nmVal a 0 n = 0 := by unfold nmVal; rw [if_neg hE]
          have e3 : nmRest a 0 n = [] := by unfold nmRest; rw [if_neg hE]
          rw [t2, t3] at T
          exact ⟨[], _, _, by simp, e2.symm, e3, rfl, fun h => absurd hs h.2, fun _ => T⟩
      · have T := reftake_any B g n [] 1 (w.setCell ⟨g, 1, none⟩ (.int .i64 1)) ⟨a, hR0.errd, fun h => by cases h⟩
        have t1 : tkErr [] 1 n = 1 := if_pos (by omega)
        have t2 : tkOut [] 1 n = [] := by unfold tkOut; rw [t1]; rfl
        have t3 : tkRest [] 1 n = [] := by unfold tkRest; rw [t1]; rfl
        have e1 : nmErr a 0 n = 1 := by unfold nmErr; rw [if_neg (by simp), if_pos hs]
        have e2 : nmVal a 0 n = 0 := by unfold nmVal; rw [e1]; rfl
        have e3 : nmRest a 0 n = [] := by unfold nmRest; rw [e1]; rfl
        rw [t1, t2, t3] at T
        refine ⟨[], [], 1, by simp, e2.symm, e3, e1, fun _ => T.mono ?_, fun h => ?_⟩
        · rintro e' w' ⟨v, rfl, ho, hO, hG⟩
          refine ⟨v, rfl, ?_, hO, only_then (only_set (w := w) (p := ⟨g, 1, none⟩) _) hG (fun i hi => .inl hi)⟩
          simpa using ho
        · rcases h with h | h
          · exact absurd rfl h
          · exact absurd h hs
  obtain ⟨L, R', E', hL, hval, hrest, herr, hbad, hgood⟩ := X
  rw [hrest, herr, ← hval]
  clear hval hrest herr hR0 ha
  by_cases hc : e = 0 ∧ ¬ (1 ≤ n ∧ n ≤ 8)
  · have P := Lib.hid (hbad hc)
    obtain ⟨rfl, hs⟩ := hc
    clear hbad hgood
    rcases (show n < 1 ∨ (1 ≤ n ∧ 8 < n) by omega) with hn | ⟨hn1, hn⟩
    all_goals
      clear hs
      go_enter Try.func19, Try.ntmps19
      go_wp2_with fail
      refine (P.out).mono ?_
      rintro e' w1 ⟨v, rfl, ho, hO, hG⟩
      obtain ⟨V, cap, rfl, hrd, _⟩ := ho.any
      have H := Lib.hid hrd
      have OO := Lib.hid hO
      have G := Lib.hid hG
      clear ho hO hG hrd
      obtain ⟨q, hq⟩ : ∃ q, q = L.length := ⟨_, rfl⟩
      have hq8 : q ≤ 8 := by omega
      rw [← hq] at H ⊢
      have Q := Lib.hid hq
      clear hq
      go_wp2
      go_loop [6, 7] (fun v i => ∃ j : Nat, j ≤ q ∧ i = .int .i64 j ∧ v = .int .u64 (num L j)) (fun _ i => q - (intOf i).toNat)
      case atStart => exact ⟨0, Nat.zero_le _, rfl, rfl⟩
      case round =>
        obtain ⟨j, hj, rfl, rfl⟩ := hrel
        by_cases hlt : j < q
        · obtain ⟨b, o, rfl, _, hcell⟩ := H.out.2 (by omega)
          have hc := hcell j hlt
          have g0 := num_lo L j
          have g1 := num_below L j (by omega)
          have g2 := byteAt_lo L j
          have g3 := byteAt_hi L j
          have E := Lib.hid (show bits .or .u64 (num L j * 256) (byteAt L j) = num L (j + 1) from or_8 _ _ (by omega) (by omega) (by omega) (by omega) (by omega))
          clear hcell
          go_wp2
          go_round
          case rel => exact ⟨j + 1, by omega, by go_num, by rw [E.out]⟩
          case measure => simp [intOf]; omega
        · have : j = q := by omega
          subst this
          go_wp2
          go_ret
          exact ⟨ret_u64 (by rw [← Q.out]), OO.out, G.out⟩
  · have P := Lib.hid (hgood (by omega))
    clear hbad hgood
    by_cases he : e = 0
    · subst he
      obtain ⟨hn1, hn8⟩ : 1 ≤ n ∧ n ≤ 8 := by omega
      clear hc
      go_enter Try.func19, Try.ntmps19
      go_wp2_with fail
      refine (P.out).mono ?_
      rintro e' w1 ⟨v, rfl, ho, hO, hG⟩
      obtain ⟨V, cap, rfl, hrd, _⟩ := ho.any
      have H := Lib.hid hrd
      have OO := Lib.hid hO
      have G := Lib.hid hG
      clear ho hO hG hrd
      obtain ⟨q, hq⟩ : ∃ q, q = L.length := ⟨_, rfl⟩
      have hq8 : q ≤ 8 := by omega
      rw [← hq] at H ⊢
      have Q := Lib.hid hq
      clear hq
      go_wp2
      go_loop [6, 7] (fun v i => ∃ j : Nat, j ≤ q ∧ i = .int .i64 j ∧ v = .int .u64 (num L j)) (fun _ i => q - (intOf i).toNat)
      case atStart => exact ⟨0, Nat.zero_le _, rfl, rfl⟩
      case round =>
        obtain ⟨j, hj, rfl, rfl⟩ := hrel
        by_cases hlt : j < q
        · obtain ⟨b, o, rfl, _, hcell⟩ := H.out.2 (by omega)
          have hc := hcell j hlt
          have g0 := num_lo L j
          have g1 := num_below L j (by omega)
          have g2 := byteAt_lo L j
          have g3 := byteAt_hi L j
          have E := Lib.hid (show bits .or .u64 (num L j * 256) (byteAt L j) = num L (j + 1) from or_8 _ _ (by omega) (by omega) (by omega) (by omega) (by omega))
          clear hcell
          go_wp2
          go_round
          case rel => exact ⟨j + 1, by omega, by go_num, by rw [E.out]⟩
          case measure => simp [intOf]; omega
        · have : j = q := by omega
          subst this
          go_wp2
          go_ret
          exact ⟨ret_u64 (by rw [← Q.out]), OO.out, G.out⟩
    · have hz : (e == 0) = false := by simpa using he
      clear hc he
      go_enter Try.func19, Try.ntmps19
      go_wp2_with fail
      refine (P.out).mono ?_
      rintro e' w1 ⟨v, rfl, ho, hO, hG⟩
      obtain ⟨V, cap, rfl, hrd, _⟩ := ho.any
      have H := Lib.hid hrd
      have OO := Lib.hid hO
      have G := Lib.hid hG
      clear ho hO hG hrd
      obtain ⟨q, hq⟩ : ∃ q, q = L.length := ⟨_, rfl⟩
      have hq8 : q ≤ 8 := by omega
      rw [← hq] at H ⊢
      have Q := Lib.hid hq
      clear hq
      go_wp2
      go_loop [6, 7] (fun v i => ∃ j : Nat, j ≤ q ∧ i = .int .i64 j ∧ v = .int .u64 (num L j)) (fun _ i => q - (intOf i).toNat)
      case atStart => exact ⟨0, Nat.zero_le _, rfl, rfl⟩
      case round =>
        obtain ⟨j, hj, rfl, rfl⟩ := hrel
        by_cases hlt : j < q
        · obtain ⟨b, o, rfl, _, hcell⟩ := H.out.2 (by omega)
          have hc := hcell j hlt
          have g0 := num_lo L j
          have g1 := num_below L j (by omega)
          have g2 := byteAt_lo L j
          have g3 := byteAt_hi L j
          have E := Lib.hid (show bits .or .u64 (num L j * 256) (byteAt L j) = num L (j + 1) from or_8 _ _ (by omega) (by omega) (by omega) (by omega) (by omega))
          clear hcell
          go_wp2
          go_round
          case rel => exact ⟨j + 1, by omega, by go_num, by rw [E.out]⟩
          case measure => simp [intOf]; omega
        · have : j = q := by omega
          subst this
          go_wp2
          go_ret
          exact ⟨ret_u64 (by rw [← Q.out]), OO.out, G.out⟩

theorem refleft_any (B g : Nat) (r : List UInt8) (e : Int) (w : World) (h : RefAt w B g r e) (h0 : e ≠ 0 → r = []) :
    Calls Try.prog 23 #[.pointer (some ⟨g, 0, none⟩)] w fun e' w' => e' = .returned (.int .i64 (r.length : Int)) ∧ w = w' := by
  obtain ⟨a, ⟨A, k, c, hb, hr, _⟩, ha⟩ := h
  have c0 : w.cell? ⟨g, 0, none⟩ = some (.slice A k c) := hb.cell 0
  have c1 : w.cell? ⟨g, 1, none⟩ = some (.int .i64 e) := hb.cell 1
  by_cases he : e = 0
  · subst he
    obtain rfl := ha rfl
    rw [hr.1]
    clear hb hr ha h0
    go_enter Try.func23, Try.ntmps23
    go_wp2
    go_ret
    exact ⟨rfl, rfl⟩
  · rw [h0 he]
    have hz : (e != 0) = true := by simpa using he
    clear hb hr ha h0 he
    go_enter Try.func23, Try.ntmps23
    go_wp2
    go_ret
    exact ⟨rfl, rfl⟩

theorem RefAt.other {w w' : World} {B B2 g g2 : Nat} {r r2 : List UInt8} {e e2 : Int} (h : RefAt w B g r e) (hO : OctAt w B2 g2 r2 e2) (hne : g2 ≠ g) (hG : w.grownBy w' (some g2)) : RefAt w' B g r e := by
  obtain ⟨a, h1, h2⟩ := h
  exact ⟨a, h1.other hO.1 (Ne.symm hne) hG, h2⟩
theorem OctAt.other {w w' : World} {B B2 g g2 : Nat} {r r2 : List UInt8} {e e2 : Int} (h : OctAt w B2 g2 r2 e2) (hR : RefAt w B g r e) (hne : g2 ≠ g) (hG : w.grownBy w' (some g)) : OctAt w' B2 g2 r2 e2 := by
  obtain ⟨a, h1, h2⟩ := hR
  exact ⟨h.1.other h1 hne hG, h.2⟩
theorem RefAt.newer {w w' : World} {B g : Nat} {r : List UInt8} {e : Int} {row : Option Nat} (h : RefAt w B g r e) (hG : w.grownBy w' row) (hr : ∀ q, row = some q → B ≤ q) : RefAt w' B g r e := by
  obtain ⟨a, h1, h2⟩ := h
  exact ⟨a, h1.newer hG hr, h2⟩
theorem OctAt.newer {w w' : World} {B g : Nat} {r : List UInt8} {e : Int} {row : Option Nat} (h : OctAt w B g r e) (hG : w.grownBy w' row) (hr : ∀ q, row = some q → B ≤ q) : OctAt w' B g r e := ⟨h.1.newer hG hr, h.2⟩
theorem RefAt.inside {w : World} {B g : Nat} {r : List UInt8} {e : Int} (h : RefAt w B g r e) : g < B ∧ B ≤ w.heap.size := by
  obtain ⟨_, ⟨_, _, _, _, _, _, _, _, h4, h5⟩, _⟩ := h
  exact ⟨h4, h5⟩
theorem OctAt.inside {w : World} {B g : Nat} {r : List UInt8} {e : Int} (h : OctAt w B g r e) : g < B ∧ B ≤ w.heap.size := by
  obtain ⟨⟨_, _, _, _, _, _, _, _, h4, h5⟩, _⟩ := h
  exact ⟨h4, h5⟩
theorem tk_le (r : List UInt8) (e n : Int) : (tkOut r e n).length ≤ r.length ∧ (tkRest r e n).length ≤ r.length := by
  unfold tkOut tkRest
  split
  · rw [List.length_take, List.length_drop]
    omega
  · simp
theorem nm_le (r : List UInt8) (e n : Int) : (nmRest r e n).length ≤ r.length := by
  unfold nmRest
  split
  · rw [List.length_drop]
    omega
  · simp
end Go.Proofs.Ytamcoppfjmggcaa
