/-
  tetherref02.Put: bytes with a sum behind, the lowest byte first. In new memory.
-/
import Derived.Test.YtamcoppfjmggcaaDoorLent2
import Derived.Test.YtamcoppfjmggcaaDoorPuts16
import Derived.Test.YtamcoppfjmggcaaDoorPuts32
namespace Go.Proofs.YtamcoppfjmggcaaDoor
open Go.RowKit
set_option maxRecDepth 100000
set_option maxHeartbeats 400000
set_option linter.unusedSimpArgs false
set_option linter.unusedVariables false

/-- so many bytes of a number, the lowest first -/
def lowN (x : Nat) : Nat → List UInt8
  | 0 => []
  | k + 1 => lowN x k ++ [UInt8.ofNat (x / 256 ^ k % 256)]
theorem lowN_length (x : Nat) : ∀ k, (lowN x k).length = k
  | 0 => rfl
  | k + 1 => by rw [lowN, List.length_append, lowN_length x k]; rfl
theorem lowN_16 (x : Nat) : lowN x 2 = low16 x := by
  show [] ++ [UInt8.ofNat (x / 256 ^ 0 % 256)] ++ [UInt8.ofNat (x / 256 ^ 1 % 256)] = [_, _]
  simp
theorem lowN_32 (x : Nat) : lowN x 4 = low32 x := by
  show [] ++ [UInt8.ofNat (x / 256 ^ 0 % 256)] ++ [UInt8.ofNat (x / 256 ^ 1 % 256)] ++ [UInt8.ofNat (x / 256 ^ 2 % 256)] ++ [UInt8.ofNat (x / 256 ^ 3 % 256)] = [_, _, _, _]
  simp
theorem byte_shr (x : Int) (q : Nat) (h : 0 ≤ x) : x / 2 ^ (8 * q) % 256 = ((UInt8.ofNat (x.toNat / 256 ^ q % 256)).toNat : Int) := by
  obtain ⟨m, rfl⟩ := Int.eq_ofNat_of_zero_le h
  rw [Int.toNat_natCast, UInt8.toNat_ofNat']
  have e : (2 : Int) ^ (8 * q) = ((256 ^ q : Nat) : Int) := by
    rw [Int.pow_mul]
    simp
  rw [e]
  have : ((m / 256 ^ q : Nat) : Int) = (m : Int) / ((256 ^ q : Nat) : Int) := by simp
  omega

theorem refput2_any (A : Option Addr) (n c s B : Nat) (S : Nat) (x : Int) (hx : x = (S : Int)) (l : List UInt8) (w : World) (hr : Rd w B A n l) (hnil : A = none → c = 0) (hs : s ≤ 4) (hS : S < 2 ^ 32) (hm : n ≤ 140737488351240) :
    Calls Tryd.prog 20 #[.slice A n c, .int .u32 x, .int .i64 (s : Int)] w fun e w' =>
      ∃ v, e = .returned v ∧ Own w' w.heap.size v (l ++ lowN S s) ∧ Below w.heap.size w w' := by
  have hl := hr.1
  obtain ⟨v1, w1, r1, o1, g1, b1⟩ := append_run (Own.nil w w.heap.size) c hr hnil (by simp; omega) (Nat.le_refl _)
  have B1 : Below w.heap.size w w1 := (Below.refl _ _).grown g1 (Nat.le_refl _) (by simp [Value.ownBlock])
  have O1 := Lib.hid o1
  have R1 := Lib.hid r1
  have BB := Lib.hid B1
  have x0 : 0 ≤ x := by omega
  have x1 : x ≤ 4294967295 := by omega
  have HX : Hid (x.toNat = S) := by show _ = _; omega
  clear o1 r1 g1 b1 hr B1 hx hS
  go_enter Tryd.func20, Tryd.ntmps20
  go_wp2_with (at_builtin; refine wpList_app rfl (.tmp 9) (.tmp 10) rfl _ _ rfl rfl _ _ R1.out ?_)
  go_loopw [7, 8] (fun v i wr => ∃ k : Nat, i = .int .i64 k ∧ k ≤ s ∧ Own wr w.heap.size v (l ++ lowN S k) ∧ Below w.heap.size w wr) (fun _ i _ => s - (intOf i).toNat)
  case atStart => exact ⟨0, rfl, by omega, by simpa [lowN] using O1.out, BB.out⟩
  case round =>
    rename_i wr
    obtain ⟨k, rfl, hk, ho, hB⟩ := hrel
    by_cases hlt : k < s
    · have hsz := hB.size
      obtain ⟨v2, w2, r2, o2, g2, b2⟩ := append_run (ho.alloc (.cells #[.int .u8 (x / 2 ^ (8 * k) % 256)] 5)) 1 (rd_one wr (UInt8.ofNat (S / 256 ^ k % 256)) _ (by rw [← HX.out]; exact byte_shr x k x0)) (by simp) (by rw [List.length_append, lowN_length]; omega) (by simp; omega)
      have hB2 : Below w.heap.size w w2 := (hB.alloc hsz _).grown g2 (by simp; omega) (by
        intro k hk
        rcases ho.form with ⟨e, _⟩ | ⟨g, cap, e, hg, _⟩
        · rw [e] at hk
          simp [Value.ownBlock] at hk
        · rw [e] at hk
          simp [Value.ownBlock] at hk
          omega)
      rw [List.append_assoc] at o2
      have R2 := Lib.hid r2
      have O2 := Lib.hid o2
      have B2 := Lib.hid hB2
      clear r2 o2 g2 b2 ho hB hB2
      go_wp2_with (at_builtin; refine wpList_app rfl (.tmp 17) (.tmp 24) rfl _ _ rfl rfl _ _ R2.out ?_)
      go_roundw
      case rel => exact ⟨k + 1, by go_num, by omega, O2.out, B2.out⟩
      case measure => simp [intOf]; omega
    · have e : k = s := by omega
      subst e
      have O2 := Lib.hid ho
      have B2 := Lib.hid hB
      clear ho hB
      go_wp2
      go_ret
      exact ⟨_, rfl, O2.out, B2.out⟩
end Go.Proofs.YtamcoppfjmggcaaDoor
