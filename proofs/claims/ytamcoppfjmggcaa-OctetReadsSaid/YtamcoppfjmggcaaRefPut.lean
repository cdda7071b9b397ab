/-
  tetherref01.Put: a number behind bytes, or the error.
-/
import Derived.Test.YtamcoppfjmggcaaLent
import Derived.Test.YtamcoppfjmggcaaMath
import Derived.LoopTactic
import Derived.Deep.Light
namespace Go.Proofs.Ytamcoppfjmggcaa
open Go.RowKit
set_option maxRecDepth 100000
set_option linter.unusedSimpArgs false
set_option linter.unusedVariables false

theorem refput_size (A : Option Addr) (n c : Nat) (x s : Int) (w : World) (hs : ¬ (1 ≤ s ∧ s ≤ 8)) :
    Calls Try.prog 10 #[.slice A n c, .int .u64 x, .int .i64 s] w fun e w' => e = .returned (.tuple #[.slice none 0 0, .int .i64 1]) ∧ w = w' := by
  by_cases h1 : s < 1
  · clear hs
    go_enter Try.func10, Try.ntmps10
    go_wp2
    go_ret2
    exact ⟨rfl, rfl⟩
  · have h2 : 8 < s := by omega
    clear hs
    go_enter Try.func10, Try.ntmps10
    go_wp2
    go_ret2
    exact ⟨rfl, rfl⟩

theorem refput_much (A : Option Addr) (n c s : Nat) (x : Int) (w : World) (hs1 : 1 ≤ s) (hs8 : s < 8) (hx0 : 0 ≤ x) (hx1 : x < 18446744073709551616) (hq : (x / 2 ^ (8 * s) != 0) = true) :
    Calls Try.prog 10 #[.slice A n c, .int .u64 x, .int .i64 (s : Int)] w fun e w' => e = .returned (.tuple #[.slice none 0 0, .int .i64 1]) ∧ w = w' := by
  go_enter Try.func10, Try.ntmps10
  go_wp2
  go_ret2
  exact ⟨rfl, rfl⟩

theorem byte_shr (x : Int) (q : Nat) (h : 0 ≤ x) : x / 2 ^ (8 * q) % 256 = ((UInt8.ofNat (x.toNat / 256 ^ q % 256)).toNat : Int) := by
  obtain ⟨m, rfl⟩ := Int.eq_ofNat_of_zero_le h
  rw [Int.toNat_natCast, UInt8.toNat_ofNat']
  have e : (2 : Int) ^ (8 * q) = ((256 ^ q : Nat) : Int) := by
    rw [Int.pow_mul]
    simp
  rw [e]
  have : ((m / 256 ^ q : Nat) : Int) = (m : Int) / ((256 ^ q : Nat) : Int) := by simp
  omega
theorem putB_next (m s q : Nat) (h : q < s) : putB (m / 256 ^ (q + 1)) (s - (q + 1)) ++ [UInt8.ofNat (m / 256 ^ q % 256)] = putB (m / 256 ^ q) (s - q) := by
  have e : s - q = (s - (q + 1)) + 1 := by omega
  rw [e, putB, Nat.pow_succ, Nat.div_div_eq_div_mul]

theorem refput_ok (A : Option Addr) (n c s : Nat) (x : Int) (l : List UInt8) (w : World) (hr : Rd w w.heap.size A n l) (hnil : A = none → c = 0) (hs1 : 1 ≤ s) (hs8 : s ≤ 8) (hx0 : 0 ≤ x) (hx1 : x < 18446744073709551616)
    (hq : (x / 2 ^ (8 * s) != 0) = false) (hm : n ≤ 140737488351232) :
    Calls Try.prog 10 #[.slice A n c, .int .u64 x, .int .i64 (s : Int)] w fun e w' =>
      ∃ v, e = .returned (.tuple #[v, .int .i64 0]) ∧ Own w' w.heap.size v (l ++ putB x.toNat s) ∧ Below w.heap.size w w' := by
  obtain ⟨v1, w1, r1, o1, g1, b1⟩ := append_run (Own.nil w w.heap.size) c hr hnil (by simp; omega) (Nat.le_refl _)
  have B1 : Below w.heap.size w w1 := (Below.refl _ _).grown g1 (Nat.le_refl _) (by simp [Value.ownBlock])
  have hl := Lib.hid hr.1
  have O1 := Lib.hid o1
  have R1 := Lib.hid r1
  have BB := Lib.hid B1
  clear o1 r1 g1 b1 hr B1
  have M : l.length ≤ 140737488351232 := by
    have := hl.out
    omega
  by_cases h8 : s < 8
  all_goals
    go_enter Try.func10, Try.ntmps10
    go_wp2_with (at_builtin; refine wpList_app rfl (.tmp 28) (.tmp 29) rfl _ _ rfl rfl _ _ R1.out ?_)
    go_loopw [8, 9] (fun v i wr => ∃ z : Int, i = .int .i64 z ∧ -1 ≤ z ∧ z < s ∧ Own wr w.heap.size v (l ++ putB (x.toNat / 256 ^ (z + 1).toNat) (s - (z + 1).toNat)) ∧ Below w.heap.size w wr) (fun _ i _ => (intOf i + 1).toNat)
    case atStart =>
      refine ⟨_, rfl, by omega, by omega, ?_, BB.out⟩
      have e : ((s : Int) - 1 + 1).toNat = s := by omega
      rw [e, Nat.sub_self]
      simpa [putB] using O1.out
    case round =>
      rename_i wr
      obtain ⟨z, rfl, hz1, hzs, ho, hB⟩ := hrel
      by_cases h0 : 0 ≤ z
      · obtain ⟨q, rfl⟩ := Int.eq_ofNat_of_zero_le h0
        have e1 : ((q : Int) + 1).toNat = q + 1 := by omega
        rw [e1] at ho
        have hsz := hB.size
        obtain ⟨v2, w2, r2, o2, g2, b2⟩ := append_run (ho.alloc (.cells #[.int .u8 (x / 2 ^ (8 * q) % 256)] 5)) 1 (rd_one wr (UInt8.ofNat (x.toNat / 256 ^ q % 256)) _ (byte_shr x q hx0)) (by simp) (by rw [List.length_append, putB_length]; omega) (by simp; omega)
        rw [List.append_assoc, putB_next x.toNat s q (by omega)] at o2
        have hB2 : Below w.heap.size w w2 := (hB.alloc hsz _).grown g2 (by simp; omega) (by
          intro k hk
          rcases ho.form with ⟨e, _⟩ | ⟨g, cap, e, hg, _⟩
          · rw [e] at hk
            simp [Value.ownBlock] at hk
          · rw [e] at hk
            simp [Value.ownBlock] at hk
            omega)
        have R2 := Lib.hid r2
        have O2 := Lib.hid o2
        have B2 := Lib.hid hB2
        clear r2 o2 g2 b2 ho hB hB2 e1
        go_wp2_with (at_builtin; refine wpList_app rfl (.tmp 37) (.tmp 44) rfl _ _ rfl rfl _ _ R2.out ?_)
        go_roundw
        case rel =>
          refine ⟨_, rfl, by omega, by omega, ?_, B2.out⟩
          have e : ((q : Int) - 1 + 1).toNat = q := by omega
          rw [e]
          exact O2.out
        case measure => simp [intOf]
      · have e : z = -1 := by omega
        subst e
        rw [show ((-1 : Int) + 1).toNat = 0 from rfl, Nat.pow_zero, Nat.div_one, Nat.sub_zero] at ho
        have O2 := Lib.hid ho
        have B2 := Lib.hid hB
        clear ho hB
        go_wp2
        go_ret2
        exact ⟨_, rfl, O2.out, B2.out⟩
end Go.Proofs.Ytamcoppfjmggcaa
