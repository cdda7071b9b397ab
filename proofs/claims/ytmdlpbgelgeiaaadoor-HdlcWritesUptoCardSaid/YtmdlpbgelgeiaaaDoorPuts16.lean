/-
  fcs.Put16: bytes with their sum behind; fcs.Cut16 of good bytes. In new memory.
-/
import Derived.Test.YtmdlpbgelgeiaaaDoorTogether
import Derived.Test.YtmdlpbgelgeiaaaDoorCutBad
namespace Go.Proofs.YtmdlpbgelgeiaaaDoor
open Go.RowKit
set_option maxRecDepth 100000
set_option maxHeartbeats 400000
set_option linter.unusedSimpArgs false
set_option linter.unusedVariables false

/-- the sum's bytes, the lowest first -/
def low16 (x : Nat) : List UInt8 := [UInt8.ofNat (x % 256), UInt8.ofNat (x / 256 % 256)]
theorem low16_length (x : Nat) : (low16 x).length = 2 := rfl

theorem low16_cells (x : Nat) (y : Int) (hy : y = (x : Int)) (hx : x < 2 ^ 16) : (low16 x).map cellOf = [.int .u8 (y % 256), .int .u8 (y / 256)] := by
  have h : ∀ (m : Nat) (z : Int), z = ((m % 256 : Nat) : Int) → cellOf (UInt8.ofNat (m % 256)) = .int .u8 z := by
    intro m z hz
    unfold cellOf
    rw [UInt8.toNat_ofNat', hz]
    congr 1
    omega
  show [cellOf (UInt8.ofNat (x % 256)), cellOf (UInt8.ofNat (x / 256 % 256))] = _
  rw [h (x) (y % 256) (by omega), h (x / 256) (y / 256) (by omega)]

theorem put16_any (A : Option Addr) (n c B : Nat) (l : List UInt8) (w : World) (hr : Rd w B A n l) (hB : B ≤ w.heap.size) (hc : n ≤ c) (hn : n ≤ 140737488355320) (hT : Tab16 w) :
    Calls Tryd.prog 39 #[.slice A n c] w fun e w' => ∃ g, e = .returned (.slice (some ⟨g, 0, none⟩) (n + 2) (n + 2)) ∧ Own w' w.heap.size (.slice (some ⟨g, 0, none⟩) (n + 2) (n + 2)) (l ++ low16 (sum16 l)) ∧ Below w.heap.size w w' := by
  have C := sum16_any A n c B l w hr hc (by unfold maxLen; omega) hT
  have hl := sum16_lt l
  obtain ⟨y, hy⟩ : ∃ y : Int, y = ((sum16 l : Nat) : Int) := ⟨_, rfl⟩
  rw [← hy] at C
  have y0 : 0 ≤ y := by omega
  have y1 : y ≤ 65535 := by omega
  have hcells := low16_cells (sum16 l) y hy hl
  have P : Hid (∀ k, Calls Tryd.prog 49 #[.slice A n c, .slice (some ⟨w.heap.size, 0, none⟩) 2 2] ((w.drewN k).alloc (.cells #[.int .u8 (y % 256), .int .u8 (y / 256)] 5)) fun e w' => ∃ g, e = .returned (.slice (some ⟨g, 0, none⟩) (n + 2) (n + 2)) ∧ Own w' w.heap.size (.slice (some ⟨g, 0, none⟩) (n + 2) (n + 2)) (l ++ low16 (sum16 l)) ∧ Below w.heap.size w w') := by
    show ∀ k, Calls _ _ _ _ _
    intro k
    have hb := rd_built (w.drewN k) (low16 (sum16 l)) (0, 0)
    rw [hcells] at hb
    have hB2 : Below w.heap.size w ((w.drewN k).alloc (.cells #[.int .u8 (y % 256), .int .u8 (y / 256)] 5)) := (below_drewN (Below.refl _ _) k).alloc (Nat.le_refl _) _
    have hr2 : Rd ((w.drewN k).alloc (.cells #[.int .u8 (y % 256), .int .u8 (y / 256)] 5)) (w.heap.size + 1) A n l := (hr.below (hB2.mono hB)).wide (by omega)
    refine (together_any A (some ⟨w.heap.size, 0, none⟩) n c 2 2 (w.heap.size + 1) l (low16 (sum16 l)) _ hr2 hb (by rw [World.size_alloc]; exact Nat.le_refl _) (by omega)).mono ?_
    rintro e w' ⟨rfl, ho, hB3⟩
    have hs := hB2.size
    refine ⟨_, rfl, ?_, hB2.trans (hB3.mono hs)⟩
    refine ⟨ho.1, ?_⟩
    rcases ho.2 with h | ⟨g', cap, cur, h1, h2, h3⟩
    · exact .inl h
    · exact .inr ⟨g', cap, cur, h1, Nat.le_trans hs h2, h3⟩
  have CC := Lib.hid C
  clear C hr hy hl hcells
  go_enter Tryd.func39, Tryd.ntmps39
  go_wp2_with fail
  refine (CC.out).mono ?_
  rintro e w1 ⟨rfl, k, rfl⟩
  go_wp2_with fail
  refine (P.out k).mono ?_
  rintro e w2 ⟨g, rfl, ho, hB⟩
  have O := Lib.hid ho
  have BB := Lib.hid hB
  clear ho hB
  go_wp2
  go_ret
  exact ⟨g, rfl, O.out, BB.out⟩

theorem stps16_low (p : Nat) : ∀ k q, stps p k (2 ^ k * q) = q
  | 0, q => by simp [stps]
  | k + 1, q => by
    have e : 2 ^ (k + 1) * q = 2 * (2 ^ k * q) := by rw [Nat.pow_succ, Nat.mul_assoc, Nat.mul_left_comm]
    have h : stp p (2 * (2 ^ k * q)) = 2 ^ k * q := by
      unfold stp
      rw [if_neg (by omega), Nat.xor_zero]
      omega
    rw [stps, e, h, stps16_low p k]
theorem good16 (l : List UInt8) : crc P16 65535 (l ++ low16 (sum16 l)) = 61624 := by
  rw [crc_append]
  have hr := crc16_lt l 65535 (by omega)
  have hs : sum16 l = 65535 ^^^ crc P16 65535 l := by
    rw [full_xor16 _ hr]
    rfl
  generalize crc P16 65535 l = r at *
  have hx := sum16_lt l
  generalize sum16 l = x at *
  have t0 : (UInt8.ofNat (x % 256)).toNat = x % 256 := by rw [UInt8.toNat_ofNat']; omega
  have t1 : (UInt8.ofNat (x / 256 % 256)).toNat = x / 256 % 256 := by rw [UInt8.toNat_ofNat']; omega
  show stps P16 8 (stps P16 8 (r ^^^ (UInt8.ofNat (x % 256)).toNat) ^^^ (UInt8.ofNat (x / 256 % 256)).toNat) = 61624
  rw [t0, t1]
  have step : ∀ a b, stps P16 8 a ^^^ b = stps P16 8 (a ^^^ 256 * b) := by
    intro a b
    rw [stps_xor, show 256 * b = 2 ^ 8 * b from rfl, stps16_low]
  have glue : ∀ m k, m < 2 ^ k → ∀ t, m ^^^ 2 ^ k * t = m + 2 ^ k * t := by
    intro m k hm t
    have h := Nat.two_pow_add_eq_or_of_lt hm t
    have hz : m ^^^ 2 ^ k * t = 2 ^ k * t ||| m := by
      apply Nat.eq_of_testBit_eq
      intro i
      rw [Nat.testBit_xor, Nat.testBit_or, Nat.testBit_two_pow_mul]
      by_cases hi : k ≤ i
      · have : m.testBit i = false := Nat.testBit_lt_two_pow (Nat.lt_of_lt_of_le hm (Nat.pow_le_pow_right (by omega) hi))
        simp [hi, this]
      · simp [hi]
    omega
  rw [step, ← stps_add]
  have e : r ^^^ x % 256 ^^^ 256 * (x / 256 % 256) = 65535 := by
    rw [Nat.xor_assoc, show (256 : Nat) = 2 ^ 8 from rfl, glue (x % 2 ^ 8) 8 (by omega), show x % 2 ^ 8 + 2 ^ 8 * (x / 2 ^ 8 % 2 ^ 8) = x by omega, hs, Nat.xor_comm 65535 r, ← Nat.xor_assoc, Nat.xor_self, Nat.zero_xor]
  rw [e]
  decide +kernel

theorem cut16_ok (A : Option Addr) (n c B : Nat) (l : List UInt8) (w : World) (hr : Rd w B A n l) (hB : B ≤ w.heap.size) (hc : n ≤ c) (hn : 2 ≤ n) (hm : n ≤ 140737488355328) (hT : Tab16 w) (hg : crc P16 65535 l = 61624) :
    Calls Tryd.prog 56 #[.slice A n c] w fun e w' => ∃ g, e = .returned (.tuple #[.slice (some ⟨g, 0, none⟩) (n - 2) (n - 2), .int .i64 0]) ∧ Own w' w.heap.size (.slice (some ⟨g, 0, none⟩) (n - 2) (n - 2)) (l.take (n - 2)) ∧ Below w.heap.size w w' := by
  have C : Calls Tryd.prog 53 #[.int .u16 65535, .slice A n c] w _ := on16_any A n c 65535 B l w hr hc (by unfold maxLen; omega) (by omega) hT
  rw [hg] at C
  have C2 : Calls Tryd.prog 53 #[.int .u16 65535, .slice A n c] w fun e w' => e = .returned (.int .u16 61624) ∧ ∃ k, w' = w.drewN k := C
  obtain ⟨b, off, rfl, _, _⟩ := hr.2 (by omega)
  have P : Hid (∀ k, Calls Tryd.prog 49 #[.slice (some ⟨b, off, none⟩) (n - 2) c, .slice none 0 0] (w.drewN k) fun e w' => ∃ g, e = .returned (.slice (some ⟨g, 0, none⟩) (n - 2) (n - 2)) ∧ Own w' w.heap.size (.slice (some ⟨g, 0, none⟩) (n - 2) (n - 2)) (l.take (n - 2)) ∧ Below w.heap.size w w') := by
    show ∀ k, Calls _ _ _ _ _
    intro k
    have hf : Rd (w.drewN k) B (some ⟨b, off, none⟩) (n - 2) (l.take (n - 2)) := by
      have hl := hr.1
      refine ⟨by rw [List.length_take]; omega, fun h0 => ?_⟩
      obtain ⟨b', off', e, hlt, hcell⟩ := hr.2 (by omega)
      injection e with e
      injection e with e1 e2
      subst e1 e2
      refine ⟨b, off, rfl, hlt, fun j hj => ?_⟩
      have h := hcell j (by omega)
      rw [show byteAt (l.take (n - 2)) j = byteAt l j by unfold byteAt; rw [List.getD_eq_getElem?_getD, List.getD_eq_getElem?_getD, List.getElem?_take_of_lt hj]]
      exact h
    refine (together_any _ none (n - 2) c 0 0 B _ [] (w.drewN k) hf Rd.nil hB (by omega)).mono ?_
    rintro e w' ⟨rfl, ho, hB3⟩
    rw [List.append_nil] at ho
    exact ⟨_, rfl, ho, (below_drewN (Below.refl _ _) k).trans hB3⟩
  have CC := Lib.hid C2
  have hn2 : (2 : Int) ≤ (n : Int) := by omega
  have hns : ((n : Int) - 2).toNat = n - 2 := by omega
  have hnc : n - 2 ≤ c := by omega
  clear C C2 hr hg hT
  go_enter Tryd.func56, Tryd.ntmps56
  go_wp2_with fail
  refine (CC.out).mono ?_
  rintro e w1 ⟨rfl, k, rfl⟩
  go_wp2_with fail
  refine (P.out k).mono ?_
  rintro e w2 ⟨g, rfl, ho, hB⟩
  have O := Lib.hid ho
  have BB := Lib.hid hB
  clear ho hB
  go_wp2
  go_ret2
  exact ⟨g, rfl, O.out, BB.out⟩
end Go.Proofs.YtmdlpbgelgeiaaaDoor
