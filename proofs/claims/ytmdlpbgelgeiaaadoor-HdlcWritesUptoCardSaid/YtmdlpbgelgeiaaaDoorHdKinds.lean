/-
  hdlc.kindsOf, hdlc.mapRight, hdlc.protoRight.
-/
import Derived.Test.YtmdlpbgelgeiaaaDoorHdMath
import Derived.LoopTactic
import Derived.Laws.BitsAllLaws
import Derived.Lib.RabinKarpLaws
namespace Go.Proofs.YtmdlpbgelgeiaaaDoor
open Go.RowKit
set_option maxRecDepth 100000
set_option maxHeartbeats 1000000
set_option linter.unusedSimpArgs false
set_option linter.unusedVariables false

theorem store_row {w : World} {g t : Nat} {cs vs : List Value} (h : Blk w g t cs) (hl : vs.length = cs.length) (h1 : ∀ v ∈ vs, v.oneCell' = true) :
    ∃ w', (storeCells ⟨g, 0, none⟩ vs).run Tryd.prog w = .ok () w' ∧ Blk w' g t vs ∧ w.grownBy w' (some g) := by
  have h2 := run_storeCells_from (P := Tryd.prog) g t vs 0 cs.toArray w h (by simp [hl]) h1
  exact ⟨w.setRow g vs.toArray, by simpa using h2, setRow_heap w g _ _ t _ h, grown_setRow _⟩
theorem info256 : (Tryd.prog.info? 79).map (·.size) = some 256 := by kernel_rfl
theorem zero256 (w : World) : (zeroValue 79).run Tryd.prog w = .ok (.agg (kdK 0 0).toArray) w := by kernel_rfl
theorem and1 (x : Int) (h0 : 0 ≤ x) (h1 : x < 9223372036854775808) : bits .and .i64 x 1 = x % 2 := by
  obtain ⟨n, rfl⟩ := Int.eq_ofNat_of_zero_le h0
  have h := and_one n (by omega)
  rw [h]; omega
theorem nmd_bit (a : Int) (k : Nat) (h0 : 0 ≤ a) (h1 : a < 4294967296) : (bits .and .i64 (a / 2 ^ k) 1 == 1) = nmd a k := by
  have e1 : 0 ≤ a / 2 ^ k := Int.ediv_nonneg h0 (by have := Int.pow_pos (n := 2) (m := k) (by decide); omega)
  have e2 : a / 2 ^ k ≤ a := Int.ediv_le_self _ h0
  rw [and1 _ e1 (by omega)]
  unfold nmd
  rw [Bool.eq_iff_iff]
  simp
theorem kindsOf_any (a : Int) (h0 : 0 ≤ a) (h1 : a < 4294967296) (w : World) :
    Calls Tryd.prog 45 #[.int .i64 a] w fun e w' => e = .returned (.agg (kdL a).toArray) ∧ Below w.heap.size w w' := by
  have hz : ∀ w : World, (zeroValue 79).run Tryd.prog w = .ok (.agg (kdK a 0).toArray) w := fun w => by rw [kdK_zero]; exact zero256 w
  go_enter Tryd.func45, Tryd.ntmps45
  go_wp2
  go_loopw [5] (fun v wr => ∃ k : Nat, v = .int .i64 k ∧ k ≤ 32 ∧ Blk wr (w.heap.size + 1) 79 (kdK a k) ∧ Blk wr w.heap.size 79 (kdK a 0) ∧ Below w.heap.size w wr) (fun v _ => 32 - (intOf v).toNat)
  case atStart =>
    have b0 := blk_new w 79 (kdK a 0)
    have b1 := blk_new (w.alloc (.cells (kdK a 0).toArray 79)) 79 (kdK a 0)
    rw [World.size_alloc] at b1
    exact ⟨0, rfl, by omega, b1, (Below.heap_alloc _ _ _ (by simp)).trans b0, ((Below.refl _ _).alloc (Nat.le_refl _) _).alloc (by simp) _⟩
  case round =>
    obtain ⟨k, rfl, hk, hb1, hb0, hB⟩ := hrel
    by_cases hlt : k < 32
    · have c1 : wr.cell? ⟨w.heap.size + 1, k, none⟩ = _ := (hb1.cell k).trans (kdK_get a k k (by omega))
      have f1 := hb1.frozen k
      have HB1 := Lib.hid hb1
      have HB0 := Lib.hid hb0
      have HB := Lib.hid hB
      clear hb1 hb0 hB hz
      cases hn : nmd a k
      · have hbit := (nmd_bit a k h0 h1).trans hn
        have HN := Lib.hid (kdK_no a k hn)
        clear hn
        go_wp2
        go_roundw
        case rel => exact ⟨k + 1, by go_num, by omega, by rw [← HN.out]; exact HB1.out, HB0.out, HB.out⟩
        case measure => simp [intOf]; omega
      · have hbit := (nmd_bit a k h0 h1).trans hn
        have HN := Lib.hid (kdK_yes a k hlt hn)
        clear hn
        go_wp2
        go_roundw
        case rel =>
          have b1 := HB1.out.set_ k (.int .u8 1)
          rw [HN.out] at b1
          exact ⟨k + 1, by go_num, by omega, b1, (Below.heap_setCell _ _ _ _ (by simp)).trans HB0.out, HB.out.setCell (by simp) _⟩
        case measure => simp [intOf]; omega
    · obtain rfl : k = 32 := by omega
      have c125 : wr.cell? ⟨w.heap.size + 1, 125, none⟩ = _ := (hb1.cell 125).trans (kdK_get a 32 125 (by omega))
      have c126 : wr.cell? ⟨w.heap.size + 1, 126, none⟩ = _ := (hb1.cell 126).trans (kdK_get a 32 126 (by omega))
      have f125 := hb1.frozen 125
      have f126 := hb1.frozen 126
      have hb2 := (hb1.set_ 125 (.int .u8 2)).set_ 126 (.int .u8 3)
      rw [kdK_end] at hb2
      obtain ⟨W3, hst, hb3, hg3⟩ := store_row (w := (wr.setCell ⟨w.heap.size + 1, 125, none⟩ (.int .u8 2)).setCell ⟨w.heap.size + 1, 126, none⟩ (.int .u8 3)) (vs := kdL a) ((Below.heap_setCell _ _ _ _ (by simp)).trans ((Below.heap_setCell _ _ _ _ (by simp)).trans hb0)) (by simp [kdK, kdL]) (kdL_one a)
      have BF : Hid (Below w.heap.size w W3) := (((hB.setCell (p := ⟨w.heap.size + 1, 125, none⟩) (by simp) _).setCell (p := ⟨w.heap.size + 1, 126, none⟩) (by simp) _).grown hg3 (by have := hB.size; simp [World.setCell]; omega) (fun k e => by cases e; omega))
      obtain ⟨vs, hvs⟩ : ∃ vs, vs = kdL a := ⟨_, rfl⟩
      rw [← hvs] at hb2 hb3 hst
      have HV := Lib.hid hvs
      have hlen : vs.length = 256 := by rw [hvs, kdL_length]
      have HB2 := Lib.hid hb2
      have HB3 := Lib.hid hb3
      have HI : Hid ((Tryd.prog.info? 79).map (·.size) = some vs.toArray.size) := by
        show _ = _
        rw [info256, hvs]; simp [kdL]
      clear hb1 hb0 hB hz hb2 hb3 hg3 hvs
      go_wp2_with (refine wpList_load_row rfl 79 (.tmp 3) rfl (w.heap.size + 1) rfl 79 vs.toArray (0, 0) _ HB2.out Tryd.underlying79 rfl HI.out ?_)
      exact bodyPost_ret (results_cell_row rfl _ _ w.heap.size _ vs.toArray (0,0) _ rfl HB3.out Tryd.underlying79 rfl HI.out) rfl ⟨by rw [HV.out], BF.out⟩

/-- is a number a map -/
def mapB (a : Int) : Bool := decide (0 ≤ a ∧ a ≤ 4294967295)
theorem mapRight_any (a : Int) (w : World) : Calls Tryd.prog 38 #[.int .i64 a] w fun e w' => e = .returned (.bool (mapB a)) ∧ w = w' := by
  by_cases h0 : 0 ≤ a
  · by_cases h1 : a ≤ 4294967295
    · have e : mapB a = true := by unfold mapB; simp; omega
      rw [e]
      have d0 : decide (0 ≤ a) = true := by simp; omega
      have d1 : decide (a ≤ 4294967295) = true := by simp; omega
      go_enter Tryd.func38, Tryd.ntmps38
      go_wp2
      go_ret
      exact ⟨rfl, rfl⟩
    · have e : mapB a = false := by unfold mapB; simp; omega
      rw [e]
      have d0 : decide (0 ≤ a) = true := by simp; omega
      have d1 : decide (a ≤ 4294967295) = false := by simp; omega
      go_enter Tryd.func38, Tryd.ntmps38
      go_wp2
      go_ret
      exact ⟨rfl, rfl⟩
  · have e : mapB a = false := by unfold mapB; simp; omega
    rw [e]
    have d0 : decide (0 ≤ a) = false := by simp; omega
    go_enter Tryd.func38, Tryd.ntmps38
    go_wp2
    go_ret
    exact ⟨rfl, rfl⟩
theorem i64_and_nat (a b : Nat) (ha : a < 9223372036854775808) (hb : b < 9223372036854775808) : bits .and .i64 (a : Int) (b : Int) = ((a &&& b : Nat) : Int) := by
  have ea : (BitVec.ofInt 64 (a : Int)).toNat = a := by rw [BitVec.toNat_ofInt]; omega
  have eb : (BitVec.ofInt 64 (b : Int)).toNat = b := by rw [BitVec.toNat_ofInt]; omega
  have key : (BitVec.ofInt 64 (a : Int) &&& BitVec.ofInt 64 (b : Int)).toNat = a &&& b := by rw [BitVec.toNat_and, ea, eb]
  show IntKind.i64.wrap ((BitVec.ofInt 64 (a : Int) &&& BitVec.ofInt 64 (b : Int)).toNat : Nat) = _
  have hle : a &&& b ≤ a := Nat.and_le_left
  rw [key, IntKind.wrap_i64]
  omega
theorem and257_nat (m : Nat) : m &&& 257 = m % 2 + 256 * (m / 256 % 2) := by
  have h1 : m &&& 1 = m % 2 := Nat.and_two_pow_sub_one_eq_mod m 1
  have h2 : m &&& 256 = 256 * (m / 256 % 2) := by
    have a := Nat.and_mod_two_pow (a := m) (b := 256) (n := 8)
    have b := Nat.and_div_two_pow (a := m) (b := 256) (n := 8)
    have c : m / 2 ^ 8 &&& 256 / 2 ^ 8 = m / 256 % 2 := Nat.and_two_pow_sub_one_eq_mod (m / 256) 1
    rw [c] at b
    rw [show 256 % 2 ^ 8 = 0 from rfl, Nat.and_zero] at a
    omega
  have h3 : (257 : Nat) = 2 ^ 8 * 1 ||| 1 := by decide
  have h4 := Nat.two_pow_add_eq_or_of_lt (show m % 2 < 2 ^ 8 by omega) (m / 256 % 2)
  rw [h3, Nat.and_or_distrib_left, show 2 ^ 8 * 1 = 256 from rfl, h1, h2, Nat.add_comm]
  exact h4.symm
/-- is a number a protocol's -/
def protoB (n : Int) : Bool := decide (0 < n ∧ n ≤ 65535 ∧ n % 2 = 1 ∧ n / 256 % 2 = 0)
theorem and257 (n : Int) (h0 : 0 < n) (h1 : n ≤ 65535) : (bits .and .i64 n 257 == 1) = protoB n := by
  obtain ⟨m, rfl⟩ := Int.eq_ofNat_of_zero_le (show 0 ≤ n by omega)
  have e : bits .and .i64 (m : Int) 257 = ((m &&& 257 : Nat) : Int) := i64_and_nat m 257 (by omega) (by omega)
  rw [e]
  have hb : m &&& 257 = m % 2 + 256 * (m / 256 % 2) := and257_nat m
  unfold protoB
  rw [hb, Bool.eq_iff_iff]
  simp
  omega
theorem protoRight_any (n : Int) (w : World) : Calls Tryd.prog 37 #[.int .i64 n] w fun e w' => e = .returned (.bool (protoB n)) ∧ w = w' := by
  by_cases h0 : 0 < n
  · by_cases h1 : n ≤ 65535
    · have e := and257 n h0 h1
      have d0 : decide (0 < n) = true := by simp; omega
      have d1 : decide (n ≤ 65535) = true := by simp; omega
      cases hp : protoB n
      all_goals
        rw [hp] at e
        clear hp
        go_enter Tryd.func37, Tryd.ntmps37
        go_wp2
        go_ret
        exact ⟨rfl, rfl⟩
    · have e : protoB n = false := by unfold protoB; simp; omega
      rw [e]
      have d0 : decide (0 < n) = true := by simp; omega
      have d1 : decide (n ≤ 65535) = false := by simp; omega
      go_enter Tryd.func37, Tryd.ntmps37
      go_wp2
      go_ret
      exact ⟨rfl, rfl⟩
  · have e : protoB n = false := by unfold protoB; simp; omega
    rw [e]
    have d0 : decide (0 < n) = false := by simp; omega
    go_enter Tryd.func37, Tryd.ntmps37
    go_wp2
    go_ret
    exact ⟨rfl, rfl⟩
end Go.Proofs.YtmdlpbgelgeiaaaDoor
