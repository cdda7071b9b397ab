/-
  fcs.Join16, fcs.Join32, fcs.Cut16 of too few or other bytes; tetherlaw02.awake is true.
-/
import Derived.Test.YtdnheiefbecaeaaDoorJoin
import Derived.Test.YtdnheiefbecaeaaDoorSums16
import Derived.Test.YtdnheiefbecaeaaDoorSums32
import Derived.Lib.SlBytesConst
namespace Go.Proofs.YtdnheiefbecaeaaDoor
open Go.RowKit
set_option maxRecDepth 100000
set_option maxHeartbeats 800000
set_option linter.unusedSimpArgs false
set_option linter.unusedVariables false

def join16 (a b n : Nat) : Nat := zro P16 15 64 n a 128 ^^^ b
def join32 (a b n : Nat) : Nat := zro P32 31 64 n a 8388608 ^^^ b

theorem join16_any (a b N : Nat) (w : World) (ha : a < 2 ^ 16) (hb : b < 2 ^ 16) (hN : N ≤ 9223372036854775807) :
    Calls Tryd.prog 69 #[.int .u16 (a : Int), .int .u16 (b : Int), .int .i64 (N : Int)] w fun e w' => e = .returned (.tuple #[.int .u16 (join16 a b N : Nat), .int .i64 0]) ∧ Below w.heap.size w w' := by
  have ZC : ∀ W, Calls Tryd.prog 88 #[.agg #[.int .u32 32768, .int .u32 33800], .int .u32 (a : Int), .int .i64 (N : Int)] W _ := fun W => zeros_any 15 P16 a N W (by omega) (by omega) (by decide) (by omega) hN
  have hl := zro_lt P16_lt 15 64 N a 128 ha (by omega)
  have hx := xor_int16 _ b hl hb
  obtain ⟨az, haz⟩ : ∃ z : Int, z = (a : Int) := ⟨_, rfl⟩
  obtain ⟨bz, hbz⟩ : ∃ z : Int, z = (b : Int) := ⟨_, rfl⟩
  obtain ⟨nz, hnz⟩ : ∃ z : Int, z = (N : Int) := ⟨_, rfl⟩
  obtain ⟨y, hy⟩ : ∃ z : Int, z = ((zro P16 15 64 N a 128 : Nat) : Int) := ⟨_, rfl⟩
  have hy2 : y = ((zro P16 15 64 N a (2 ^ (15 - 8)) : Nat) : Int) := hy
  obtain ⟨x, hxx⟩ : ∃ z : Int, z = ((join16 a b N : Nat) : Int) := ⟨_, rfl⟩
  have hx2 : bits .xor .u16 y bz = x := by rw [hy, hbz, hxx]; exact hx
  rw [← haz, ← hnz, ← hy2] at ZC
  rw [← haz, ← hbz, ← hnz, ← hxx]
  have a0 : 0 ≤ az := by omega
  have a1 : az ≤ 65535 := by omega
  have y0 : 0 ≤ y := by omega
  have y1 : y ≤ 65535 := by omega
  have n0 : 0 ≤ nz := by omega
  have Z := Lib.hid ZC
  clear ZC hl hx haz hbz hnz hy hy2 hxx ha hb hN
  go_enter Tryd.func69, Tryd.ntmps69
  go_wp2_with fail
  refine (Z.out _).mono ?_
  rintro e w1 ⟨rfl, hB⟩
  have hs := hB.size
  have BB : Hid (Below w.heap.size w w1) := ((Below.refl _ _).alloc (Nat.le_refl _) _).trans (hB.mono (by simp))
  clear hB hs
  go_wp2
  go_ret2
  exact ⟨rfl, BB.out⟩

theorem cut16_short (A : Option Addr) (n c : Nat) (w : World) (hn : n < 2) :
    Calls Tryd.prog 70 #[.slice A n c] w fun e w' => e = .returned (.tuple #[.slice none 0 0, .int .i64 8]) ∧ w = w' := by
  go_enter Tryd.func70, Tryd.ntmps70
  go_wp2
  go_ret2
  exact ⟨rfl, rfl⟩
theorem cut16_bad (A : Option Addr) (n c B : Nat) (l : List UInt8) (w : World) (hr : Rd w B A n l) (hc : n ≤ c) (hn : 2 ≤ n) (hm : n ≤ maxLen) (hT : Tab16 w) (hg : crc P16 65535 l ≠ 61624) :
    Calls Tryd.prog 70 #[.slice A n c] w fun e w' => e = .returned (.tuple #[.slice none 0 0, .int .i64 20]) ∧ ∃ k, w' = w.drewN k := by
  have C : Calls Tryd.prog 35 #[.int .u16 65535, .slice A n c] w _ := on16_any A n c 65535 B l w hr hc hm (by omega) hT
  have hne : (((crc P16 65535 l : Nat) : Int) != 61624) = true := by simp; omega
  obtain ⟨y, hy⟩ : ∃ y : Int, y = ((crc P16 65535 l : Nat) : Int) := ⟨_, rfl⟩
  rw [← hy] at C hne
  have CC := Lib.hid C
  have hn2 : (2 : Int) ≤ (n : Int) := by omega
  clear C hy hg hr hT
  go_enter Tryd.func70, Tryd.ntmps70
  go_wp2_with fail
  refine (CC.out).mono ?_
  rintro e w1 ⟨rfl, k, rfl⟩
  go_wp2
  go_ret2
  exact ⟨rfl, k, rfl⟩

theorem rd_built (W : World) (l : List UInt8) (fr : Nat × Nat) : Rd (W.alloc (.cells (l.map cellOf).toArray 5 fr)) (W.heap.size + 1) (some ⟨W.heap.size, 0, none⟩) l.length l := by
  refine ⟨rfl, fun _ => ⟨W.heap.size, 0, rfl, by omega, fun j hj => ?_⟩⟩
  rw [cell_of_row _ W.heap.size (0 + j) _ _ fr (heap_alloc_new W _), Nat.zero_add]
  simpa using cells_at l j hj
theorem Tab16.alloc {w : World} (h : Tab16 w) (o : Obj) : Tab16 (w.alloc o) := h.kept ((Below.refl _ _).alloc (Nat.le_refl _) _)
theorem Tab32.alloc {w : World} (h : Tab32 w) (o : Obj) : Tab32 (w.alloc o) := h.kept ((Below.refl _ _).alloc (Nat.le_refl _) _)

theorem awake_yes (w : World) (h16 : Tab16 w) (h32 : Tab32 w) : Calls Tryd.prog 32 #[] w fun e w' => e = .returned (.bool true) ∧ Below w.heap.size w w' := by
  have S1 : Hid (∀ W : World, Tab16 W → Calls Tryd.prog 33 #[.slice (some ⟨W.heap.size, 0, none⟩) 4 4] (W.alloc (.cells #[.int .u8 49, .int .u8 50, .int .u8 51, .int .u8 52] 5 (4, 5))) fun e w' => e = .returned (.int .u16 (sum16 [49, 50, 51, 52] : Nat)) ∧ ∃ k, w' = (W.alloc (.cells #[.int .u8 49, .int .u8 50, .int .u8 51, .int .u8 52] 5 (4, 5))).drewN k) := by
    show ∀ W : World, _ → Calls _ _ _ _ _
    intro W h
    exact sum16_any _ 4 4 (W.heap.size + 1) [49, 50, 51, 52] _ (rd_built W [49, 50, 51, 52] (4, 5)) (Nat.le_refl _) (by decide) (h.alloc _)
  have S2 : Hid (∀ W : World, Tab16 W → Calls Tryd.prog 33 #[.slice (some ⟨W.heap.size, 0, none⟩) 5 5] (W.alloc (.cells #[.int .u8 53, .int .u8 54, .int .u8 55, .int .u8 56, .int .u8 57] 5 (5, 6))) fun e w' => e = .returned (.int .u16 (sum16 [53, 54, 55, 56, 57] : Nat)) ∧ ∃ k, w' = (W.alloc (.cells #[.int .u8 53, .int .u8 54, .int .u8 55, .int .u8 56, .int .u8 57] 5 (5, 6))).drewN k) := by
    show ∀ W : World, _ → Calls _ _ _ _ _
    intro W h
    exact sum16_any _ 5 5 (W.heap.size + 1) [53, 54, 55, 56, 57] _ (rd_built W [53, 54, 55, 56, 57] (5, 6)) (Nat.le_refl _) (by decide) (h.alloc _)
  have S3 : Hid (∀ W : World, Calls Tryd.prog 69 #[.int .u16 (sum16 [49, 50, 51, 52] : Nat), .int .u16 (sum16 [53, 54, 55, 56, 57] : Nat), .int .i64 5] W fun e w' => e = .returned (.tuple #[.int .u16 36974, .int .i64 0]) ∧ Below W.heap.size W w') := by
    show ∀ W : World, Calls _ _ _ _ _
    intro W
    have h := join16_any (sum16 [49, 50, 51, 52]) (sum16 [53, 54, 55, 56, 57]) 5 W (sum16_lt _) (sum16_lt _) (by omega)
    rw [show join16 (sum16 [49, 50, 51, 52]) (sum16 [53, 54, 55, 56, 57]) 5 = 36974 by decide +kernel] at h
    exact h
  have S4 : Hid (∀ W : World, Calls Tryd.prog 70 #[.slice (some ⟨W.heap.size, 0, none⟩) 1 1] (W.alloc (.cells #[.int .u8 0] 5)) fun e w' => e = .returned (.tuple #[.slice none 0 0, .int .i64 8]) ∧ W.alloc (.cells #[.int .u8 0] 5) = w') := by
    show ∀ W : World, Calls _ _ _ _ _
    intro W
    exact cut16_short _ 1 1 _ (by omega)
  have S5 : Hid (∀ W : World, Tab16 W → Calls Tryd.prog 70 #[.slice (some ⟨W.heap.size, 0, none⟩) 2 2] (W.alloc (.cells #[.int .u8 0, .int .u8 1] 5)) fun e w' => e = .returned (.tuple #[.slice none 0 0, .int .i64 20]) ∧ ∃ k, w' = (W.alloc (.cells #[.int .u8 0, .int .u8 1] 5)).drewN k) := by
    show ∀ W : World, _ → Calls _ _ _ _ _
    intro W h
    exact cut16_bad _ 2 2 (W.heap.size + 1) [0, 1] _ (rd_built W [0, 1] (0, 0)) (Nat.le_refl _) (by omega) (by decide) (h.alloc _) (by decide +kernel)
  have S6 : Hid (∀ W : World, Tab16 W → Calls Tryd.prog 33 #[.slice (some ⟨W.heap.size, 0, none⟩) 9 9] (W.alloc (.cells #[.int .u8 49, .int .u8 50, .int .u8 51, .int .u8 52, .int .u8 53, .int .u8 54, .int .u8 55, .int .u8 56, .int .u8 57] 5 (9, 10))) fun e w' => e = .returned (.int .u16 36974) ∧ ∃ k, w' = (W.alloc (.cells #[.int .u8 49, .int .u8 50, .int .u8 51, .int .u8 52, .int .u8 53, .int .u8 54, .int .u8 55, .int .u8 56, .int .u8 57] 5 (9, 10))).drewN k) := by
    show ∀ W : World, _ → Calls _ _ _ _ _
    intro W h
    have h := sum16_any _ 9 9 (W.heap.size + 1) [49, 50, 51, 52, 53, 54, 55, 56, 57] _ (rd_built W [49, 50, 51, 52, 53, 54, 55, 56, 57] (9, 10)) (Nat.le_refl _) (by decide) (h.alloc _)
    rw [show sum16 [49, 50, 51, 52, 53, 54, 55, 56, 57] = 36974 by decide +kernel] at h
    exact h
  have S7 : Hid (∀ W : World, Tab32 W → Calls Tryd.prog 34 #[.slice (some ⟨W.heap.size, 0, none⟩) 9 9] (W.alloc (.cells #[.int .u8 49, .int .u8 50, .int .u8 51, .int .u8 52, .int .u8 53, .int .u8 54, .int .u8 55, .int .u8 56, .int .u8 57] 5 (9, 10))) fun e w' => e = .returned (.int .u32 3421780262) ∧ ∃ k, w' = (W.alloc (.cells #[.int .u8 49, .int .u8 50, .int .u8 51, .int .u8 52, .int .u8 53, .int .u8 54, .int .u8 55, .int .u8 56, .int .u8 57] 5 (9, 10))).drewN k) := by
    show ∀ W : World, _ → Calls _ _ _ _ _
    intro W h
    have h := sum32_any _ 9 9 (W.heap.size + 1) [49, 50, 51, 52, 53, 54, 55, 56, 57] _ (rd_built W [49, 50, 51, 52, 53, 54, 55, 56, 57] (9, 10)) (Nat.le_refl _) (by decide) (h.alloc _)
    rw [show sum32 [49, 50, 51, 52, 53, 54, 55, 56, 57] = 3421780262 by decide +kernel] at h
    exact h
  have kc := fun (w : World) (C : Array Value) (n c : Nat) => Lib.run_convert_bytes_const (P := Tryd.prog) w 22 5 C n c Tryd.underlying22 Tryd.underlying5
  have T0 := Lib.hid h16
  have U0 := Lib.hid h32
  clear h16 h32
  go_enter Tryd.func32, Tryd.ntmps32
  go_wp2_with fail
  refine (S1.out _ T0.out).mono ?_
  rintro e w1 ⟨rfl, q1, rfl⟩
  have hs1 := World.size_alloc w (.cells #[.int .u8 49, .int .u8 50, .int .u8 51, .int .u8 52] 5 (4, 5))
  have B1 : Hid (Below w.heap.size w ((w.alloc (.cells #[.int .u8 49, .int .u8 50, .int .u8 51, .int .u8 52] 5 (4, 5))).drewN q1)) := below_drewN ((Below.refl _ _).alloc (Nat.le_refl _) _) q1
  have T1 := Lib.hid (T0.out.kept B1.out)
  have U1 := Lib.hid (U0.out.kept B1.out)
  generalize (w.alloc (.cells #[.int .u8 49, .int .u8 50, .int .u8 51, .int .u8 52] 5 (4, 5))).drewN q1 = w1 at *
  clear hs1
  go_wp2_with fail
  refine (S2.out _ T1.out).mono ?_
  rintro e w2 ⟨rfl, q2, rfl⟩
  have B2 : Hid (Below w.heap.size w ((w1.alloc (.cells #[.int .u8 53, .int .u8 54, .int .u8 55, .int .u8 56, .int .u8 57] 5 (5, 6))).drewN q2)) := below_drewN (B1.out.alloc B1.out.size _) q2
  have T2 := Lib.hid (T0.out.kept B2.out)
  have U2 := Lib.hid (U0.out.kept B2.out)
  generalize (w1.alloc (.cells #[.int .u8 53, .int .u8 54, .int .u8 55, .int .u8 56, .int .u8 57] 5 (5, 6))).drewN q2 = w2 at *
  go_wp2_with fail
  refine (S3.out _).mono ?_
  rintro e w3 ⟨rfl, hB⟩
  have B3 := Lib.hid (B2.out.trans (hB.mono B2.out.size))
  have T3 := Lib.hid (T0.out.kept B3.out)
  have U3 := Lib.hid (U0.out.kept B3.out)
  clear hB
  go_wp2_with fail
  refine (S4.out _).mono ?_
  rintro e w4 ⟨rfl, rfl⟩
  have B4 : Hid (Below w.heap.size w (w3.alloc (.cells #[.int .u8 0] 5))) := B3.out.alloc B3.out.size _
  have T4 := Lib.hid (T0.out.kept B4.out)
  have U4 := Lib.hid (U0.out.kept B4.out)
  generalize w3.alloc (.cells #[.int .u8 0] 5) = w4 at *
  go_wp2_with fail
  refine (S5.out _ T4.out).mono ?_
  rintro e w5 ⟨rfl, q5, rfl⟩
  have B5 : Hid (Below w.heap.size w ((w4.alloc (.cells #[.int .u8 0, .int .u8 1] 5)).drewN q5)) := below_drewN (B4.out.alloc B4.out.size _) q5
  have T5 := Lib.hid (T0.out.kept B5.out)
  have U5 := Lib.hid (U0.out.kept B5.out)
  generalize (w4.alloc (.cells #[.int .u8 0, .int .u8 1] 5)).drewN q5 = w5 at *
  go_wp2_with fail
  refine (S6.out _ T5.out).mono ?_
  rintro e w6 ⟨rfl, q6, rfl⟩
  have B6 : Hid (Below w.heap.size w ((w5.alloc (.cells #[.int .u8 49, .int .u8 50, .int .u8 51, .int .u8 52, .int .u8 53, .int .u8 54, .int .u8 55, .int .u8 56, .int .u8 57] 5 (9, 10))).drewN q6)) := below_drewN (B5.out.alloc B5.out.size _) q6
  have U6 := Lib.hid (U0.out.kept B6.out)
  generalize (w5.alloc (.cells #[.int .u8 49, .int .u8 50, .int .u8 51, .int .u8 52, .int .u8 53, .int .u8 54, .int .u8 55, .int .u8 56, .int .u8 57] 5 (9, 10))).drewN q6 = w6 at *
  go_wp2_with fail
  refine (S7.out _ U6.out).mono ?_
  rintro e w7 ⟨rfl, q7, rfl⟩
  have B7 : Hid (Below w.heap.size w ((w6.alloc (.cells #[.int .u8 49, .int .u8 50, .int .u8 51, .int .u8 52, .int .u8 53, .int .u8 54, .int .u8 55, .int .u8 56, .int .u8 57] 5 (9, 10))).drewN q7)) := below_drewN (B6.out.alloc B6.out.size _) q7
  generalize (w6.alloc (.cells #[.int .u8 49, .int .u8 50, .int .u8 51, .int .u8 52, .int .u8 53, .int .u8 54, .int .u8 55, .int .u8 56, .int .u8 57] 5 (9, 10))).drewN q7 = w7 at *
  go_wp2
  go_ret
  exact ⟨rfl, B7.out⟩
end Go.Proofs.YtdnheiefbecaeaaDoor
