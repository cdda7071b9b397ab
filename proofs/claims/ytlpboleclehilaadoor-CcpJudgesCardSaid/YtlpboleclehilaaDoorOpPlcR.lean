/-
  opt.place, Find; tetherref09.place, Find, has, Without.
-/
import Derived.Test.YtlpboleclehilaaDoorOpOwnR
import Derived.Test.YtlpboleclehilaaDoorOpWithout
namespace Go.Proofs.YtlpboleclehilaaDoor
open Go.RowKit
set_option maxRecDepth 100000
set_option maxHeartbeats 2000000
set_option linter.unusedSimpArgs false
set_option linter.unusedVariables false

/-- where a type stands first; behind all, if nowhere -/
def plc : List Opt → Int → Nat
  | [], _ => 0
  | y :: s, K => if y.1 = K then 0 else plc s K + 1
theorem plc_le : ∀ (s : List Opt) (K : Int), plc s K ≤ s.length
  | [], _ => Nat.le_refl _
  | y :: s, K => by
    unfold plc
    have := plc_le s K
    simp only [List.length_cons]
    split <;> omega
theorem plc_at : ∀ (s : List Opt) (K : Int) (k : Nat) (h : k < s.length), s[k].1 = K → (∀ j (hj : j < k), (s[j]'(by omega)).1 ≠ K) → plc s K = k
  | [], _, k, h, _, _ => absurd h (Nat.not_lt_zero _)
  | y :: s, K, 0, h, e, _ => by unfold plc; rw [if_pos (show y.1 = K from e)]
  | y :: s, K, k + 1, h, e, hno => by
    unfold plc
    rw [if_neg (show ¬ y.1 = K from hno 0 (by omega)), plc_at s K k (by simpa using h) e (fun j hj => hno (j + 1) (by omega))]
theorem plc_none : ∀ (s : List Opt) (K : Int), (∀ j (hj : j < s.length), s[j].1 ≠ K) → plc s K = s.length
  | [], _, _ => rfl
  | y :: s, K, hno => by
    unfold plc
    rw [if_neg (show ¬ y.1 = K from hno 0 (by simp)), plc_none s K (fun j hj => hno (j + 1) (by simpa using hj))]
    rfl
theorem rplace_any (A : Option Addr) (n c B : Nat) (s : List Opt) (K : Int) (w : World) (hr : OptRd w B A n s) (hn : n ≤ 4398046511104) :
    Calls Tryd.prog 39 #[.slice A n c, .int .i64 K] w fun e w' => e = .returned (.int .i64 (if plc s K < n then (plc s K : Nat) else -1)) ∧ w = w' := by
  have HR := Lib.hid hr
  have hlen := hr.1
  obtain ⟨R, hRR⟩ : ∃ R : Int, (if plc s K < n then ((plc s K : Nat) : Int) else -1) = R := ⟨_, rfl⟩
  rw [hRR]
  have HRR := Lib.hid hRR
  clear hr hRR
  go_enter Tryd.func39, Tryd.ntmps39
  go_wp2
  go_loop [5] (fun i => ∃ k : Nat, k ≤ n ∧ i = .int .i64 k ∧ Hid (∀ j (hj : j < s.length), j < k → s[j].1 ≠ K)) (fun i => n - (intOf i).toNat)
  case atStart => exact ⟨0, Nat.zero_le _, rfl, fun j hj h => absurd h (Nat.not_lt_zero _)⟩
  case round =>
    obtain ⟨k, hk, rfl, hJ⟩ := hrel
    have hno := hJ.out
    by_cases hlt : k < n
    · obtain ⟨b, off, rfl, hb, hc⟩ := HR.out.2 (by omega)
      obtain ⟨x1, -⟩ := hc k (by omega)
      obtain ⟨J, hJ1⟩ : ∃ J, (s[k]'(by omega)).1 = J := ⟨_, rfl⟩
      rw [hJ1] at x1
      by_cases he : J = K
      · have e1 : (J == K) = true := by simpa using he
        have HP := Lib.hid (plc_at s K k (by omega) (hJ1.trans he) (fun j hj => hno j (by omega) hj))
        clear hc hno hJ hJ1 he
        go_wp2
        go_ret
        exact ⟨by have h := HRR.out; rw [HP.out, if_pos hlt] at h; rw [← h]; rfl, rfl⟩
      · have e1 : (J == K) = false := by simpa using he
        have HN := Lib.hid (show ∀ j (hj : j < s.length), j < k + 1 → s[j].1 ≠ K from fun j hj h => by
          rcases Nat.lt_succ_iff_lt_or_eq.1 h with h | h
          · exact hno j hj h
          · subst h; rw [hJ1]; exact he)
        clear hc hno hJ hJ1 he
        go_wp2
        go_round
        case rel => exact ⟨k + 1, by omega, by go_num, HN.out⟩
        case measure => simp [intOf]; omega
    · have HP := Lib.hid (plc_none s K (fun j hj => hno j hj (by omega)))
      clear hno hJ
      go_wp2
      go_ret
      exact ⟨by have h := HRR.out; rw [HP.out, if_neg (by omega)] at h; rw [← h]; rfl, rfl⟩
/-- the first option of a type -/
def fnd (s : List Opt) (K : Int) : Opt := if h : plc s K < s.length then s[plc s K] else (0, [])
theorem fnd_at {s : List Opt} {K : Int} {k : Nat} (h : k < s.length) (hp : plc s K = k) : fnd s K = s[k] := by
  subst hp
  unfold fnd
  rw [dif_pos h]
theorem fnd_none {s : List Opt} {K : Int} (hp : plc s K = s.length) : fnd s K = (0, []) := by
  unfold fnd
  rw [dif_neg (by omega)]
def two28 : List Value := [.int .i64 0, .slice none 0 0]
theorem set2_below {w V : World} {z B : Nat} (h : Below B w V) (hz : B ≤ z) (a b : Value) : Below B w ((V.setCell ⟨z, 0, none⟩ a).setCell ⟨z, 1, none⟩ b) := (h.setCell hz a).setCell hz b
end Go.Proofs.YtlpboleclehilaaDoor
