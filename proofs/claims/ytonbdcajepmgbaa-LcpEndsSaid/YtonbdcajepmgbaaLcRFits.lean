/-
  tetherref09.Subset, place, Fits.
-/
import Derived.Test.YtonbdcajepmgbaaLcFitsM
import Derived.Test.YtonbdcajepmgbaaSameAny
namespace Go.Proofs.Ytonbdcajepmgbaa
open Go.RowKit
set_option maxRecDepth 100000
set_option maxHeartbeats 2000000
set_option linter.unusedSimpArgs false
set_option linter.unusedVariables false

theorem eat_step (s t : List Opt) (i : Nat) (h : i < t.length) : (t.take (i + 1)).foldl eat s = eat ((t.take i).foldl eat s) t[i] := by
  rw [List.take_succ_eq_append_getElem h, List.foldl_append]
  rfl
theorem rsubset_yes (A D : Option Addr) (n m c d B : Nat) (s t : List Opt) (w : World) (hr : OptRd w B A n s) (hq : OptRd w B D m t) (hB : B ≤ w.heap.size) (hn : n ≤ 4398046511104) (hm : m ≤ 4398046511104) (he : t.foldl eat s = []) :
    Calls Try.prog 117 #[.slice A n c, .slice D m d] w fun e w' => e = .returned (.bool true) ∧ Below w.heap.size w w' := by
  have HR := Lib.hid (hr.wide hB)
  have HQ := Lib.hid (hq.wide hB)
  have HE := Lib.hid he
  clear hr hq he
  go_enter Try.func117, Try.ntmps117
  go_wp2
  go_loopw [5, 6] (fun v i wr => ∃ (W : World) (k j : Nat), W = wr ∧ k ≤ n ∧ j ≤ m ∧ v = .int .i64 k ∧ i = .int .i64 j ∧ Hid (Below w.heap.size w W ∧ (t.take j).foldl eat s = s.drop k)) (fun _ i _ => m - (intOf i).toNat)
  case atStart => exact ⟨_, 0, 0, rfl, Nat.zero_le _, Nat.zero_le _, rfl, rfl, Below.refl _ _, rfl⟩
  case round =>
    rename_i wr
    obtain ⟨wr, k, j, rfl, hk, hj, rfl, rfl, hJ⟩ := hrel
    obtain ⟨hBw, hT⟩ := hJ.out
    have hl1 := HR.out.1
    have hl2 := HQ.out.1
    by_cases hlt : j < m
    · by_cases hkn : k < n
      · have s1 := hBw.size
        obtain ⟨b, off, rfl, hb, hc⟩ := HR.out.2 (by omega)
        obtain ⟨b2, off2, rfl, hb2, hc2⟩ := HQ.out.2 (by omega)
        obtain ⟨x1, E, kk, cc, x2, hRd, _, _, hkb⟩ := hc k (by omega)
        obtain ⟨y1, F, jj, dd, y2, hRd2, _, _, hjb⟩ := hc2 j (by omega)
        have hst := eat_step s t j (by omega)
        rw [hT, List.drop_eq_getElem_cons (by omega : k < s.length)] at hst
        obtain ⟨y, hy⟩ : ∃ y, s[k]'(by omega) = y := ⟨_, rfl⟩
        obtain ⟨z, hz⟩ : ∃ z, t[j]'(by omega) = z := ⟨_, rfl⟩
        rw [hy] at x1 hRd
        rw [hz] at y1 hRd2
        rw [hy, hz] at hst
        obtain ⟨K, l⟩ := y
        obtain ⟨J, q⟩ := z
        have d1 : wr.cell? ⟨b, off + k * 2, none⟩ = some (.int .i64 K) := (hBw.cell hb).trans x1
        have d2 : wr.cell? ⟨b, off + k * 2 + 1, none⟩ = some (.slice E kk cc) := (hBw.cell hb).trans x2
        have e1 : wr.cell? ⟨b2, off2 + j * 2, none⟩ = some (.int .i64 J) := (hBw.cell hb2).trans y1
        have e2 : wr.cell? ⟨b2, off2 + j * 2 + 1, none⟩ = some (.slice F jj dd) := (hBw.cell hb2).trans y2
        have ON := one_any K J E F kk jj cc dd w.heap.size l q wr.drew (hRd.below hBw).drew (hRd2.below hBw).drew s1 (by unfold maxLen; omega) (by unfold maxLen; omega)
        by_cases hKJ : ((K, l) : Opt) = (J, q)
        · rw [decide_eq_true hKJ] at ON
          have HO := Lib.hid ON
          have HS : Hid ((t.take (j + 1)).foldl eat s = s.drop (k + 1)) := by
            show _ = _
            rw [hst]
            show (if (K, l) = (J, q) then s.drop (k + 1) else _) = _
            rw [if_pos hKJ]
          clear hc hc2 hJ hy hz hRd hRd2 x1 x2 y1 y2 ON hst hT hKJ
          go_wp2
          go_region_law (go_simp; go_at_call 95; (with_reducible refine HO.out.mono ?_); rintro e w3 ⟨rfl, h3⟩; have H3 := Lib.hid (show Below wr.heap.size wr w3 from ⟨h3.os, h3.tape, h3.output, h3.size, fun i hi => h3.block i hi⟩); clear h3)
          all_goals
            go_wp2
            go_roundw
            case rel => exact ⟨_, k + 1, j + 1, rfl, by omega, by omega, by go_num, by go_num, hBw.trans (H3.out.mono s1), HS.out⟩
            case measure => simp [intOf]; omega
        · rw [decide_eq_false hKJ] at ON
          have HO := Lib.hid ON
          have HS : Hid ((t.take (j + 1)).foldl eat s = s.drop k) := by
            show _ = _
            rw [hst]
            show (if (K, l) = (J, q) then s.drop (k + 1) else _) = _
            rw [if_neg hKJ, List.drop_eq_getElem_cons (by omega : k < s.length), hy]
          clear hc hc2 hJ hy hz hRd hRd2 x1 x2 y1 y2 ON hst hT hKJ
          go_wp2
          go_region_law (go_simp; go_at_call 95; (with_reducible refine HO.out.mono ?_); rintro e w3 ⟨rfl, h3⟩; have H3 := Lib.hid (show Below wr.heap.size wr w3 from ⟨h3.os, h3.tape, h3.output, h3.size, fun i hi => h3.block i hi⟩); clear h3)
          all_goals
            go_wp2
            go_roundw
            case rel => exact ⟨_, k, j + 1, rfl, by omega, by omega, rfl, by go_num, hBw.trans (H3.out.mono s1), HS.out⟩
            case measure => simp [intOf]; omega
      · have : k = n := by omega
        subst this
        have HB := Lib.hid hBw
        have hkk : ((k : Int) == (k : Int)) = true := by simp
        clear hJ hT hBw
        go_wp2
        go_ret
        exact ⟨rfl, HB.out⟩
    · have ej : j = m := by omega
      subst ej
      have hkn : k = n := by
        rw [List.take_of_length_le (by omega), HE.out] at hT
        have := congrArg List.length hT
        rw [List.length_drop] at this
        simp at this
        omega
      subst hkn
      have HB := Lib.hid hBw
      have hkk : ((k : Int) == (k : Int)) = true := by simp
      clear hJ hT hBw
      go_wp2
      go_ret
      exact ⟨rfl, HB.out⟩
theorem place_yes (A : Option Addr) (n c B p : Nat) (K : Int) (s : List Opt) (w : World) (hr : OptRd w B A n s) (hn : n ≤ 4398046511104) (hp : PlaceAt s K p) :
    Calls Try.prog 118 #[.slice A n c, .int .i64 K] w fun e w' => e = .returned (.int .i64 p) ∧ w = w' := by
  have hl := hr.1
  have hpn : p < n := by
    have := (List.getElem?_eq_some_iff.1 hp.1).1
    rw [kinds_len] at this
    omega
  obtain ⟨b, off, rfl, hb, hc⟩ := hr.2 (by omega)
  have HC := Lib.hid (show ∀ j (h : j < s.length), w.cell? ⟨b, off + j * 2, none⟩ = some (.int .i64 s[j].1) from fun j h => (hc j h).1)
  have hk : ∀ j (h : j < s.length), (kinds s)[j]? = some s[j].1 := fun j h => by unfold kinds; rw [List.getElem?_map, List.getElem?_eq_getElem h]; rfl
  have HP := Lib.hid (show (∀ h : p < s.length, s[p].1 = K) ∧ ∀ j (h : j < s.length), j < p → s[j].1 ≠ K from
    ⟨fun h => by have := hp.1; rw [hk p h] at this; injection this, fun j h hj e => hp.2 j hj (by rw [hk j h, e])⟩)
  clear hc hr hp hk
  go_enter Try.func118, Try.ntmps118
  go_wp2
  go_loop [5] (fun i => ∃ k : Nat, k ≤ p ∧ i = .int .i64 k) (fun i => p + 1 - (intOf i).toNat)
  case atStart => exact ⟨0, Nat.zero_le _, rfl⟩
  case round =>
    obtain ⟨k, hk, rfl⟩ := hrel
    have hkn : k < n := by omega
    have x1 := HC.out k (by omega)
    by_cases hlt : k < p
    · have hne := HP.out.2 k (by omega) hlt
      obtain ⟨J, hJ⟩ : ∃ J, (s[k]'(by omega)).1 = J := ⟨_, rfl⟩
      rw [hJ] at x1 hne
      have e1 : (J == K) = false := by simpa using hne
      clear hne hJ
      go_wp2
      go_round
      case rel => exact ⟨k + 1, by omega, by go_num⟩
      case measure => simp [intOf]; omega
    · have ek : k = p := by omega
      subst ek
      rw [HP.out.1 (by omega)] at x1
      have e1 : (K == K) = true := by simp
      go_wp2
      go_ret
      exact ⟨rfl, rfl⟩
def FPost (w : World) (e : Ending) (w' : World) : Prop := e = .returned (.tuple #[.bool true, .int .i64 0]) ∧ Below w.heap.size w w'
theorem rfits_ack (A D : Option Addr) (n c d B : Nat) (s : List Opt) (w : World) (hr : OptRd w B A n s) (hq : OptRd w B D n s) (hB : B ≤ w.heap.size) (hn : n ≤ 4398046511104) :
    Calls Try.prog 63 #[.int .i64 2, .slice A n c, .slice D n d] w fun e w' => FPost w e w' := by
  have SM := Lib.hid (rsame_yes A D n c d B s w hr hq hB hn)
  clear hr hq
  go_enter Try.func63, Try.ntmps63
  go_wp2_with (go_at_call 33; ((with_reducible refine SM.out.mono ?_); rintro e w2 ⟨rfl, hb⟩; have HB := Lib.hid hb; clear hb))
  go_ret2
  exact ⟨rfl, HB.out⟩
theorem rfits_rej (A D : Option Addr) (n m c d B : Nat) (s t : List Opt) (w : World) (hr : OptRd w B A n s) (hq : OptRd w B D m t) (hB : B ≤ w.heap.size) (hn : n ≤ 4398046511104) (hm : m ≤ 4398046511104) (h0 : 0 < m) (he : s.foldl eat t = []) :
    Calls Try.prog 63 #[.int .i64 4, .slice A n c, .slice D m d] w fun e w' => FPost w e w' := by
  have SM := Lib.hid (rsubset_yes D A m n d c B t s w hq hr hB hm hn he)
  have hm0 : (0 : Int) < (m : Int) := by omega
  clear hr hq
  go_enter Try.func63, Try.ntmps63
  go_wp2_with (go_at_call 117; ((with_reducible refine SM.out.mono ?_); rintro e w2 ⟨rfl, hb⟩; have HB := Lib.hid hb; clear hb))
  go_ret2
  exact ⟨rfl, HB.out⟩
theorem rfits_nak (A D : Option Addr) (n m c d B : Nat) (s t : List Opt) (w : World) (hr : OptRd w B A n s) (hq : OptRd w B D m t) (hn : n ≤ 4398046511104) (hm : m ≤ 4398046511104) (h0 : 0 < m) (hI : NakI s s.length t) :
    Calls Try.prog 63 #[.int .i64 3, .slice A n c, .slice D m d] w fun e w' => FPost w e w' := by
  obtain ⟨p, hp⟩ := hI
  have hl := hq.1
  have hl0 := hr.1
  obtain ⟨b, off, rfl, hb, hc⟩ := hq.2 h0
  have HC := Lib.hid (show ∀ j (h : j < t.length), w.cell? ⟨b, off + j * 2, none⟩ = some (.int .i64 t[j].1) from fun j h => (hc j h).1)
  have hk : ∀ j (h : j < t.length), (kinds t)[j]? = some t[j].1 := fun j h => by unfold kinds; rw [List.getElem?_map, List.getElem?_eq_getElem h]; rfl
  have HP := Lib.hid (show ∀ j (h : j < t.length), PlaceAt s t[j].1 (p j) ∧ p j < n ∧ ∀ i, i < j → p i < p j from fun j h => by
    obtain ⟨⟨K, u1, u2⟩, u3, u4⟩ := hp j h
    rw [hk j h] at u1
    injection u1 with u1
    subst u1
    exact ⟨u2, by omega, u4⟩)
  have HR := Lib.hid hr
  have hm0 : (0 : Int) < (m : Int) := by omega
  clear hc hq hr hp hk
  go_enter Try.func63, Try.ntmps63
  go_wp2
  go_loop [8, 9, 10] (fun v u i => ∃ (k : Nat) (z : Int), k ≤ m ∧ i = .int .i64 k ∧ v = .int .i64 z ∧ u = .bool false ∧ -1 ≤ z ∧ z ≤ 9223372036854775807 ∧ Hid (∀ h : k < t.length, z ≤ p k)) (fun _ _ i => m - (intOf i).toNat)
  case atStart => exact ⟨0, -1, Nat.zero_le _, rfl, rfl, rfl, by omega, by omega, fun _ => by omega⟩
  case round =>
    obtain ⟨k, z, hk, rfl, rfl, rfl, hz0, hz1, hz⟩ := hrel
    by_cases hlt : k < m
    · have x1 := HC.out k (by omega)
      obtain ⟨u1, u2, u3⟩ := HP.out k (by omega)
      have hzp := hz.out (by omega)
      obtain ⟨J, hJ⟩ : ∃ J, (t[k]'(by omega)).1 = J := ⟨_, rfl⟩
      rw [hJ] at x1 u1
      have PL := Lib.hid (place_yes A n c B (p k) J s w HR.out hn u1)
      have HZ : Hid (∀ h : k + 1 < t.length, ((p k : Nat) : Int) ≤ p (k + 1)) := fun h => by have := (HP.out (k + 1) h).2.2 k (by omega); omega
      obtain ⟨q, hq⟩ : ∃ q, p k = q := ⟨_, rfl⟩
      rw [hq] at PL HZ u2 hzp
      have q0 : ¬ ((q : Int) < 0) := by omega
      have q1 : ¬ ((q : Int) < z) := by omega
      clear u1 u3 hz hJ hq
      go_wp2_with (go_at_call 118; ((with_reducible refine PL.out.mono ?_); rintro e w2 ⟨rfl, rfl⟩))
      go_round
      case rel => exact ⟨k + 1, q, by omega, by go_num, rfl, rfl, by omega, by omega, HZ.out⟩
      case measure => simp [intOf]; omega
    · clear hz
      go_wp2
      go_ret2
      exact ⟨rfl, Below.refl _ _⟩
end Go.Proofs.Ytonbdcajepmgbaa
