/-
  opt.place, Find; tetherref09.place, Find, has, Without.
-/
import Derived.Test.YtciijnhagdfpiaaOpOwnR
import Derived.Test.YtciijnhagdfpiaaOpWithout
namespace Go.Proofs.Ytciijnhagdfpiaa
open Go.RowKit
set_option maxRecDepth 100000
set_option maxHeartbeats 2000000
set_option linter.unusedSimpArgs false
set_option linter.unusedVariables false

/-- where a type stands first; behind all, if nowhere -/
def plc : List Opt → Int → Nat
  | [], _ => 0
  | y :: s, K => if y.1 = K then 0 else plc s K + 1
theorem plc_le : ∀ (s : List Opt) (K : Int), plc s K ≤ s.length
  | [], _ => Nat.le_refl _
  | y :: s, K => by
    unfold plc
    have := plc_le s K
    simp only [List.length_cons]
    split <;> omega
theorem plc_at : ∀ (s : List Opt) (K : Int) (k : Nat) (h : k < s.length), s[k].1 = K → (∀ j (hj : j < k), (s[j]'(by omega)).1 ≠ K) → plc s K = k
  | [], _, k, h, _, _ => absurd h (Nat.not_lt_zero _)
  | y :: s, K, 0, h, e, _ => by unfold plc; rw [if_pos (show y.1 = K from e)]
  | y :: s, K, k + 1, h, e, hno => by
    unfold plc
    rw [if_neg (show ¬ y.1 = K from hno 0 (by omega)), plc_at s K k (by simpa using h) e (fun j hj => hno (j + 1) (by omega))]
theorem plc_none : ∀ (s : List Opt) (K : Int), (∀ j (hj : j < s.length), s[j].1 ≠ K) → plc s K = s.length
  | [], _, _ => rfl
  | y :: s, K, hno => by
    unfold plc
    rw [if_neg (show ¬ y.1 = K from hno 0 (by simp)), plc_none s K (fun j hj => hno (j + 1) (by simpa using hj))]
    rfl
theorem oplace_any (A : Option Addr) (n c B : Nat) (s : List Opt) (K : Int) (w : World) (hr : OptRd w B A n s) (hB : B ≤ w.heap.size) (hn : n ≤ 4398046511104) :
    Calls Try.prog 51 #[.slice A n c, .int .i64 K] w fun e w' => e = .returned (.int .i64 (plc s K : Nat)) ∧ Below w.heap.size w w' := by
  have HR := Lib.hid hr
  have hlen := hr.1
  clear hr
  go_enter Try.func51, Try.ntmps51
  go_wp2
  go_loopw [9] (fun i wr => ∃ (V : World) (k : Nat), V = wr ∧ k ≤ n ∧ i = .int .i64 k ∧ Hid (Below w.heap.size w V ∧ ∀ j (hj : j < s.length), j < k → s[j].1 ≠ K)) (fun i _ => n - (intOf i).toNat)
  case atStart => exact ⟨_, 0, rfl, Nat.zero_le _, rfl, Below.refl _ _, fun j hj h => absurd h (Nat.not_lt_zero _)⟩
  case round =>
    obtain ⟨V, k, rfl, hk, rfl, hJ⟩ := hrel
    obtain ⟨hBw, hno⟩ := hJ.out
    by_cases hlt : k < n
    · obtain ⟨b, off, rfl, hb, hc⟩ := HR.out.2 (by omega)
      obtain ⟨x1, E, kk, cc, x2, -⟩ := hc k (by omega)
      have s1 := hBw.size
      obtain ⟨J, hJ1⟩ : ∃ J, (s[k]'(by omega)).1 = J := ⟨_, rfl⟩
      rw [hJ1] at x1
      have d1 : V.cell? ⟨b, off + k * 2, none⟩ = some (.int .i64 J) := (hBw.cell (show b < w.heap.size by omega)).trans x1
      have d2 : V.cell? ⟨b, off + k * 2 + 1, none⟩ = some (.slice E kk cc) := (hBw.cell (show b < w.heap.size by omega)).trans x2
      have HBA := Lib.hid (hBw.alloc s1 (.cells #[.int .i64 J, .slice E kk cc] 54))
      by_cases he : J = K
      · have e1 : (J == K) = true := by simpa using he
        have HP := Lib.hid (plc_at s K k (by omega) (hJ1.trans he) (fun j hj => hno j (by omega) hj))
        clear hc x1 x2 hBw hno hJ hJ1 he
        go_wp2
        go_ret
        exact ⟨by rw [HP.out]; rfl, HBA.out⟩
      · have e1 : (J == K) = false := by simpa using he
        have HN := Lib.hid (show ∀ j (hj : j < s.length), j < k + 1 → s[j].1 ≠ K from fun j hj h => by
          rcases Nat.lt_succ_iff_lt_or_eq.1 h with h | h
          · exact hno j hj h
          · subst h; rw [hJ1]; exact he)
        clear hc x1 x2 hBw hno hJ hJ1 he
        go_wp2
        go_roundw
        case rel => exact ⟨_, k + 1, rfl, by omega, by go_num, HBA.out, HN.out⟩
        case measure => simp [intOf]; omega
    · have hk' : k = n := by omega
      have HP := Lib.hid (plc_none s K (fun j hj => hno j hj (by omega)))
      have HB := Lib.hid hBw
      clear hBw hno hJ
      go_wp2
      go_ret
      exact ⟨by rw [HP.out, hlen]; rfl, HB.out⟩
theorem rplace_any (A : Option Addr) (n c B : Nat) (s : List Opt) (K : Int) (w : World) (hr : OptRd w B A n s) (hn : n ≤ 4398046511104) :
    Calls Try.prog 42 #[.slice A n c, .int .i64 K] w fun e w' => e = .returned (.int .i64 (if plc s K < n then (plc s K : Nat) else -1)) ∧ w = w' := by
  have HR := Lib.hid hr
  have hlen := hr.1
  obtain ⟨R, hRR⟩ : ∃ R : Int, (if plc s K < n then ((plc s K : Nat) : Int) else -1) = R := ⟨_, rfl⟩
  rw [hRR]
  have HRR := Lib.hid hRR
  clear hr hRR
  go_enter Try.func42, Try.ntmps42
  go_wp2
  go_loop [5] (fun i => ∃ k : Nat, k ≤ n ∧ i = .int .i64 k ∧ Hid (∀ j (hj : j < s.length), j < k → s[j].1 ≠ K)) (fun i => n - (intOf i).toNat)
  case atStart => exact ⟨0, Nat.zero_le _, rfl, fun j hj h => absurd h (Nat.not_lt_zero _)⟩
  case round =>
    obtain ⟨k, hk, rfl, hJ⟩ := hrel
    have hno := hJ.out
    by_cases hlt : k < n
    · obtain ⟨b, off, rfl, hb, hc⟩ := HR.out.2 (by omega)
      obtain ⟨x1, -⟩ := hc k (by omega)
      obtain ⟨J, hJ1⟩ : ∃ J, (s[k]'(by omega)).1 = J := ⟨_, rfl⟩
      rw [hJ1] at x1
      by_cases he : J = K
      · have e1 : (J == K) = true := by simpa using he
        have HP := Lib.hid (plc_at s K k (by omega) (hJ1.trans he) (fun j hj => hno j (by omega) hj))
        clear hc hno hJ hJ1 he
        go_wp2
        go_ret
        exact ⟨by have h := HRR.out; rw [HP.out, if_pos hlt] at h; rw [← h]; rfl, rfl⟩
      · have e1 : (J == K) = false := by simpa using he
        have HN := Lib.hid (show ∀ j (hj : j < s.length), j < k + 1 → s[j].1 ≠ K from fun j hj h => by
          rcases Nat.lt_succ_iff_lt_or_eq.1 h with h | h
          · exact hno j hj h
          · subst h; rw [hJ1]; exact he)
        clear hc hno hJ hJ1 he
        go_wp2
        go_round
        case rel => exact ⟨k + 1, by omega, by go_num, HN.out⟩
        case measure => simp [intOf]; omega
    · have HP := Lib.hid (plc_none s K (fun j hj => hno j hj (by omega)))
      clear hno hJ
      go_wp2
      go_ret
      exact ⟨by have h := HRR.out; rw [HP.out, if_neg (by omega)] at h; rw [← h]; rfl, rfl⟩
/-- the first option of a type -/
def fnd (s : List Opt) (K : Int) : Opt := if h : plc s K < s.length then s[plc s K] else (0, [])
theorem fnd_at {s : List Opt} {K : Int} {k : Nat} (h : k < s.length) (hp : plc s K = k) : fnd s K = s[k] := by
  subst hp
  unfold fnd
  rw [dif_pos h]
theorem fnd_none {s : List Opt} {K : Int} (hp : plc s K = s.length) : fnd s K = (0, []) := by
  unfold fnd
  rw [dif_neg (by omega)]
def two28 : List Value := [.int .i64 0, .slice none 0 0]
theorem set2_below {w V : World} {z B : Nat} (h : Below B w V) (hz : B ≤ z) (a b : Value) : Below B w ((V.setCell ⟨z, 0, none⟩ a).setCell ⟨z, 1, none⟩ b) := (h.setCell hz a).setCell hz b
theorem ofind_any (A : Option Addr) (n c B : Nat) (s : List Opt) (K : Int) (w : World) (hr : OptRd w B A n s) (hB : B ≤ w.heap.size) (hn : n ≤ 4398046511103) :
    Calls Try.prog 45 #[.slice A n c, .int .i64 K] w fun e w' => ∃ D k d, e = .returned (.tuple #[.agg #[.int .i64 (fnd s K).1, .slice D k d], .bool (decide (plc s K < n))]) ∧ Own w' (w.heap.size + 1) (.slice D k d) (fnd s K).2 ∧ Below w.heap.size w w' := by
  have hlen := hr.1
  have hzv : ∀ W, (zeroValue 54).run Try.prog W = .ok (.agg #[.int .i64 0, .slice none 0 0]) W := fun W => by kernel_rfl
  obtain ⟨W1, hW1⟩ : ∃ W1, w.alloc (.cells #[.int .i64 0, .slice none 0 0] 54) = W1 := ⟨_, rfl⟩
  have B1 : Below w.heap.size w W1 := by rw [← hW1]; exact (Below.refl _ _).alloc (Nat.le_refl _) _
  have s1 : W1.heap.size = w.heap.size + 1 := by rw [← hW1]; simp
  have k1 : Blk W1 w.heap.size 54 [.int .i64 0, .slice none 0 0] := by rw [← hW1]; exact blk_new w _ _
  have r1 := hr.below (B1.mono hB) (Nat.le_refl _)
  have HW := Lib.hid hW1
  have hple := plc_le s K
  by_cases hp : plc s K < n
  · obtain ⟨b, off, rfl, hb, hc⟩ := hr.2 (by omega)
    obtain ⟨x1, E, kk, cc, x2, hRd, hE, hkc, hkb⟩ := hc (plc s K) (by omega)
    have hF : fnd s K = s[plc s K]'(by omega) := fnd_at (by omega) rfl
    obtain ⟨y, hy⟩ : ∃ y, s[plc s K]'(by omega) = y := ⟨_, rfl⟩
    rw [hy] at x1 hRd hF
    obtain ⟨J, l⟩ := y
    rw [hF, decide_eq_true hp]
    have PL : Hid (Calls Try.prog 51 #[.slice (some ⟨b, off, none⟩) n c, .int .i64 K] W1 fun e w2 => e = .returned (.int .i64 (plc s K : Nat)) ∧ (w2.cell? ⟨b, off + plc s K * 2, none⟩ = some (.int .i64 J) ∧ w2.cell? ⟨b, off + plc s K * 2 + 1, none⟩ = some (.slice E kk cc)) ∧
        Calls Try.prog 49 #[.agg #[.int .i64 J, .slice E kk cc]] w2 fun e w3 => ∃ F ff, e = .returned (.agg #[.int .i64 J, .slice F kk ff]) ∧ Own w3 (w.heap.size + 1) (.slice F kk ff) l ∧ Below w.heap.size w w3 ∧ Blk w3 w.heap.size 54 [.int .i64 0, .slice none 0 0]) := by
      refine (oplace_any _ n c B s K W1 r1 (by omega) (by omega)).mono ?_
      rintro e w2 ⟨rfl, b2⟩
      have B2 := B1.trans (b2.mono B1.size)
      have s2 := b2.size
      refine ⟨rfl, ⟨(B2.cell (show b < w.heap.size by omega)).trans x1, (B2.cell (show b < w.heap.size by omega)).trans x2⟩, (oclone_any J E kk cc B l _ (hRd.below (B2.mono hB)) (by have := B2.size; omega) hE (by omega)).mono ?_⟩
      rintro e w3 ⟨F, ff, rfl, ho, b3⟩
      have k2 := (b2.block _ k1.lt).trans k1
      exact ⟨F, ff, rfl, ho.base_le (by omega), B2.trans (b3.mono B2.size), (b3.block _ (by omega)).trans k2⟩
    have hb1 : (((plc s K : Nat) : Int) == n) = false := by simp; omega
    clear hr hc x1 x2 hRd hE hkc r1 hW1 B1 k1 hF hy
    go_enter Try.func45, Try.ntmps45
    go_upto_region 1 with (fail)
    rw [HW.out]
    go_wp2_with (first
      | (go_at_call 51; ((with_reducible refine PL.out.mono ?_); rintro e w2 ⟨rfl, ⟨d1, d2⟩, p2⟩; have P2 := Lib.hid p2; clear p2))
      | (go_at_call 49; ((with_reducible refine P2.out.mono ?_); rintro e w3 ⟨F, ff, rfl, ho, hB3, hk3⟩; have q0 := hk3.cell 0; have q1 := hk3.cell 1; have g0 := hk3.frozen 0; have g1 := hk3.frozen 1; have HO := Lib.hid ho; have HB3 := Lib.hid hB3; clear ho hB3 hk3)))
    refine bodyPost_ret (v := .tuple #[.agg #[.int .i64 J, .slice F kk ff], .bool true]) (by simp [results, Try.results45, go_sem, q0, q1, g0, g1]) rfl ⟨F, kk, ff, rfl, ?_, set2_below HB3.out (Nat.le_refl _) _ _⟩
    refine (HO.out.grown (only_set (p := ⟨w.heap.size, 0, none⟩) _) ?_).grown (only_set (p := ⟨w.heap.size, 1, none⟩) _) ?_
    all_goals
      rcases hq : (Value.slice F kk ff).ownBlock with _ | q
      · exact .inl rfl
      · exact .inr fun e => absurd (show q = w.heap.size by injection e) (by have h2 := (HO.out.block q hq).1; omega)
  · have hpn : plc s K = s.length := by omega
    have hF := fnd_none hpn
    rw [hF, decide_eq_false hp]
    have PL : Hid (Calls Try.prog 51 #[.slice A n c, .int .i64 K] W1 fun e w2 => e = .returned (.int .i64 (n : Nat)) ∧ Below w.heap.size w w2 ∧ Blk w2 w.heap.size 54 [.int .i64 0, .slice none 0 0]) := by
      refine (oplace_any _ n c B s K W1 r1 (by omega) (by omega)).mono ?_
      rintro e w2 ⟨rfl, b2⟩
      exact ⟨by rw [hpn, hlen], B1.trans (b2.mono B1.size), (b2.block _ k1.lt).trans k1⟩
    have hb1 : ((n : Int) == n) = true := by simp
    clear hr r1 hW1 B1 k1 hF hp hpn
    go_enter Try.func45, Try.ntmps45
    go_upto_region 1 with (fail)
    rw [HW.out]
    go_wp2_with (go_at_call 51; ((with_reducible refine PL.out.mono ?_); rintro e w2 ⟨rfl, hB2, hk2⟩; have q0 := hk2.cell 0; have q1 := hk2.cell 1; have g0 := hk2.frozen 0; have g1 := hk2.frozen 1; have HB2 := Lib.hid hB2; clear hB2 hk2))
    exact bodyPost_ret (v := .tuple #[.agg #[.int .i64 0, .slice none 0 0], .bool false]) (by simp [results, Try.results45, go_sem, q0, q1, g0, g1]) rfl ⟨none, 0, 0, rfl, Own.nil _ _, set2_below HB2.out (Nat.le_refl _) _ _⟩
end Go.Proofs.Ytciijnhagdfpiaa
