/-
  opt.Pack: a packet's bytes.
-/
import Derived.Test.YtonbdcajepmgbaaDoorPut
import Derived.Test.YtonbdcajepmgbaaDoorClone
import Derived.Outline
namespace Go.Proofs.YtonbdcajepmgbaaDoor
open Go.RowKit
set_option maxRecDepth 100000
set_option maxHeartbeats 2000000
set_option linter.unusedSimpArgs false
set_option linter.unusedVariables false

theorem isByte_yes (n : Int) (w : World) (h : 0 ≤ n ∧ n ≤ 255) : Calls Tryd.prog 32 #[.int .i64 n] w fun e w' => e = .returned (.bool true) ∧ w = w' := by
  obtain ⟨h1, h2⟩ := h
  go_enter Tryd.func32, Tryd.ntmps32
  go_wp2
  go_ret
  exact ⟨rfl, rfl⟩
theorem isByte_no (n : Int) (w : World) (h : ¬ (0 ≤ n ∧ n ≤ 255)) : Calls Tryd.prog 32 #[.int .i64 n] w fun e w' => e = .returned (.bool false) ∧ w = w' := by
  by_cases h1 : 0 ≤ n
  · have h2 : ¬ n ≤ 255 := by omega
    clear h
    go_enter Tryd.func32, Tryd.ntmps32
    go_wp2
    go_ret
    exact ⟨rfl, rfl⟩
  · clear h
    go_enter Tryd.func32, Tryd.ntmps32
    go_wp2
    go_ret
    exact ⟨rfl, rfl⟩
/-- a packet's bytes -/
def pkB (C I : Int) (l : List UInt8) : List UInt8 := [UInt8.ofNat C.toNat, UInt8.ofNat I.toNat] ++ putB (l.length + 4) 2 ++ l
def isB (n : Int) : Prop := 0 ≤ n ∧ n ≤ 255
/-- its error -/
noncomputable def pkE (C I : Int) (n : Nat) : Int := open Classical in if isB C ∧ isB I then (if 16380 < n then 4 else 0) else 90
theorem cellOf_int {C : Int} (h : isB C) : cellOf (UInt8.ofNat C.toNat) = .int .u8 C := by
  obtain ⟨h1, h2⟩ := h
  obtain ⟨k, rfl⟩ := Int.eq_ofNat_of_zero_le h1
  have := cellOf_ofNat k
  rw [show k % 256 = k by omega] at this
  rw [Int.toNat_natCast, this]
  congr 1
  omega
theorem pack_ok (D : Option Addr) (n c B : Nat) (l : List UInt8) (C I : Int) (w : World) (hC : isB C) (hI : isB I) (hr : Rd w B D n l) (hB : B ≤ w.heap.size) (hnil : D = none → c = 0) (hn : n ≤ 16380) :
    Calls Tryd.prog 21 #[.agg #[.int .i64 C, .int .i64 I, .slice D n c]] w fun e w' => ∃ v, e = .returned (.tuple #[v, .int .i64 0]) ∧ Own w' w.heap.size v (pkB C I l) ∧ Below w.heap.size w w' := by
  have hl := hr.1
  obtain ⟨W2, hW2⟩ : ∃ W2, W2 = (w.alloc (.cells #[.int .i64 C, .int .i64 I, .slice D n c] 45)).alloc (.cells #[.int .u8 C, .int .u8 I] 5) := ⟨_, rfl⟩
  have hs2 : W2.heap.size = w.heap.size + 1 + 1 := by rw [hW2]; simp
  have hB2 : Below w.heap.size w W2 := by rw [hW2]; exact ((Below.refl _ _).alloc (Nat.le_refl _) _).alloc (by simp) _
  have hbx : Blk W2 w.heap.size 45 [.int .i64 C, .int .i64 I, .slice D n c] := by
    rw [hW2]
    exact (Below.heap_alloc _ _ _ (by simp)).trans (blk_new w _ _)
  have hb2 : Blk W2 (w.heap.size + 1) 5 ([UInt8.ofNat C.toNat, UInt8.ofNat I.toNat].map cellOf) := by
    rw [hW2]
    have h := blk_new (w.alloc (.cells #[.int .i64 C, .int .i64 I, .slice D n c] 45)) 5 [.int .u8 C, .int .u8 I]
    rw [World.size_alloc] at h
    rw [List.map_cons, List.map_cons, List.map_nil, cellOf_int hC, cellOf_int hI]
    exact h
  have hrd2 : Rd W2 W2.heap.size (some ⟨w.heap.size + 1, 0, none⟩) 2 [UInt8.ofNat C.toNat, UInt8.ofNat I.toNat] := by
    refine ⟨rfl, fun _ => ⟨_, _, rfl, by omega, fun j hj => ?_⟩⟩
    rw [Nat.zero_add]
    exact (hb2.cell j).trans (cells_at _ j hj)
  have P := put_ok (some ⟨w.heap.size + 1, 0, none⟩) 2 2 2 (4 + (n : Int)) _ W2 hrd2 (by omega) (by omega) (by omega) (by omega) (by
    simp
    omega) (by omega)
  have PP : Hid (Calls Tryd.prog 33 #[.slice (some ⟨w.heap.size + 1, 0, none⟩) 2 2, .int .u64 (4 + (n : Int)), .int .i64 2] W2 fun e w' => ∃ g v4 w5, e = .returned (.tuple #[.slice (some ⟨g, 0, none⟩) 4 4, .int .i64 0]) ∧
      (w'.cell? ⟨w.heap.size, 2, none⟩ = some (.slice D n c)) ∧
      (Builtin.append_ #[26, 26] 26 #[.slice (some ⟨g, 0, none⟩) 4 4, .slice D n c]).run Tryd.prog w' = .ok v4 w5 ∧ Own w5 w.heap.size v4 (pkB C I l) ∧ Below w.heap.size w w5) := by
    refine P.mono ?_
    rintro e w' ⟨rfl, hb, hbel⟩
    have hsz := hbel.size
    have ho := own_of_blk (base := w.heap.size) hb (by omega) (by rw [List.length_append, putB_length]; simp)
    have hrd : Rd w' B D n l := (hr.below (hB2.mono hB) |>.below (hbel.mono (by omega)))
    obtain ⟨v', w5, hrun, ho5, hg5, hv5⟩ := append_run ho c hrd hnil (by rw [List.length_append, putB_length]; simp; omega) (by omega)
    refine ⟨_, v', w5, rfl, ?_, hrun, ?_, ?_⟩
    · exact (hbel.cell (p := ⟨w.heap.size, 2, none⟩) (by show w.heap.size < _; omega)).trans (hbx.cell 2)
    · have e4 : (4 + (n : Int)).toNat = l.length + 4 := by omega
      rw [e4] at ho5
      exact ho5
    · exact (hB2.trans (hbel.mono (by omega))).grown hg5 (by omega) (fun k e => by have := ho.block k e; omega)
  have HW : Hid ((w.alloc (.cells #[.int .i64 C, .int .i64 I, .slice D n c] 45)).alloc (.cells #[.int .u8 C, .int .u8 I] 5) = W2) := hW2.symm
  obtain ⟨c1, c2⟩ := hC
  obtain ⟨i1, i2⟩ := hI
  have c0 := hbx.cell 2
  have cc : W2.cell? ⟨w.heap.size, 2, none⟩ = some (.slice D n c) := c0
  clear hW2 hB2 hbx hb2 hrd2 P hr hl c0 hs2
  go_enter Tryd.func21, Tryd.ntmps21
  go_wp2_with (first
    | (go_at_call 32; ((with_reducible refine (isByte_yes _ _ ⟨c1, c2⟩).mono ?_); rintro e w' ⟨rfl, rfl⟩))
    | (go_at_call 32; ((with_reducible refine (isByte_yes _ _ ⟨i1, i2⟩).mono ?_); rintro e w' ⟨rfl, rfl⟩))
    | (go_at_call 33; rw [HW.out]; ((with_reducible refine PP.out.mono ?_); rintro e w4 ⟨g, v4, w5, rfl, hcell, hrun, ho, hb⟩; have RUN := Lib.hid hrun; have O := Lib.hid ho; have BB := Lib.hid hb; clear hrun ho hb))
    | (at_builtin; refine wpList_app rfl (.tmp 36) (.tmp 38) rfl _ _ rfl rfl _ _ RUN.out ?_))
  go_ret2
  exact ⟨_, rfl, O.out, BB.out⟩
theorem pack_code (D : Option Addr) (n c : Nat) (C I : Int) (w : World) (h : ¬ (isB C ∧ isB I)) :
    Calls Tryd.prog 21 #[.agg #[.int .i64 C, .int .i64 I, .slice D n c]] w fun e w' => e = .returned (.tuple #[.slice none 0 0, .int .i64 90]) ∧ Below w.heap.size w w' := by
  have HB : Hid (Below w.heap.size w (w.alloc (.cells #[.int .i64 C, .int .i64 I, .slice D n c] 45))) := (Below.refl _ _).alloc (Nat.le_refl _) _
  by_cases hC : isB C
  · have hI : Hid (¬ (0 ≤ I ∧ I ≤ 255)) := fun x => h ⟨hC, x⟩
    have HC : Hid (0 ≤ C ∧ C ≤ 255) := hC
    clear h hC
    go_enter Tryd.func21, Tryd.ntmps21
    go_wp2_with (first
      | (go_at_call 32; ((with_reducible refine (isByte_yes _ _ HC.out).mono ?_); rintro e w' ⟨rfl, rfl⟩))
      | (go_at_call 32; ((with_reducible refine (isByte_no _ _ hI.out).mono ?_); rintro e w' ⟨rfl, rfl⟩)))
    go_ret2
    exact ⟨rfl, HB.out⟩
  · have HC : Hid (¬ (0 ≤ C ∧ C ≤ 255)) := hC
    clear h hC
    go_enter Tryd.func21, Tryd.ntmps21
    go_wp2_with (go_at_call 32; ((with_reducible refine (isByte_no _ _ HC.out).mono ?_); rintro e w' ⟨rfl, rfl⟩))
    go_ret2
    exact ⟨rfl, HB.out⟩
theorem pack_size (D : Option Addr) (n c : Nat) (C I : Int) (w : World) (hC : isB C) (hI : isB I) (hn : 16380 < n) (hm : n ≤ 140737488355328) :
    Calls Tryd.prog 21 #[.agg #[.int .i64 C, .int .i64 I, .slice D n c]] w fun e w' => e = .returned (.tuple #[.slice none 0 0, .int .i64 4]) ∧ Below w.heap.size w w' := by
  have HB : Hid (Below w.heap.size w (w.alloc (.cells #[.int .i64 C, .int .i64 I, .slice D n c] 45))) := (Below.refl _ _).alloc (Nat.le_refl _) _
  have HC : Hid (0 ≤ C ∧ C ≤ 255) := hC
  have HI : Hid (0 ≤ I ∧ I ≤ 255) := hI
  clear hC hI
  go_enter Tryd.func21, Tryd.ntmps21
  go_wp2_with (first
    | (go_at_call 32; ((with_reducible refine (isByte_yes _ _ HC.out).mono ?_); rintro e w' ⟨rfl, rfl⟩))
    | (go_at_call 32; ((with_reducible refine (isByte_yes _ _ HI.out).mono ?_); rintro e w' ⟨rfl, rfl⟩)))
  go_ret2
  exact ⟨rfl, HB.out⟩
/-- what Pack answers: the bytes, none with an error -/
noncomputable def pkO (C I : Int) (l : List UInt8) : List UInt8 := open Classical in if pkE C I l.length = 0 then pkB C I l else []
theorem pk_ok {C I : Int} {l : List UInt8} (hC : isB C) (hI : isB I) (hn : l.length ≤ 16380) : pkE C I l.length = 0 ∧ pkO C I l = pkB C I l := by
  have h : pkE C I l.length = 0 := by
    unfold pkE
    rw [if_pos ⟨hC, hI⟩, if_neg (by omega)]
  exact ⟨h, by unfold pkO; rw [if_pos h]⟩
theorem pk_size {C I : Int} {l : List UInt8} (hC : isB C) (hI : isB I) (hn : 16380 < l.length) : pkE C I l.length = 4 ∧ pkO C I l = [] := by
  have h : pkE C I l.length = 4 := by
    unfold pkE
    rw [if_pos ⟨hC, hI⟩, if_pos hn]
  exact ⟨h, by unfold pkO; rw [if_neg (by rw [h]; omega)]⟩
theorem pk_code {C I : Int} {l : List UInt8} (hC : ¬ (isB C ∧ isB I)) : pkE C I l.length = 90 ∧ pkO C I l = [] := by
  have h : pkE C I l.length = 90 := by
    unfold pkE
    rw [if_neg hC]
  exact ⟨h, by unfold pkO; rw [if_neg (by rw [h]; omega)]⟩
theorem pack_any (D : Option Addr) (n c B : Nat) (l : List UInt8) (C I : Int) (w : World) (hr : Rd w B D n l) (hB : B ≤ w.heap.size) (hnil : D = none → c = 0) (hn : n ≤ 140737488355328) :
    Calls Tryd.prog 21 #[.agg #[.int .i64 C, .int .i64 I, .slice D n c]] w fun e w' => ∃ v, e = .returned (.tuple #[v, .int .i64 (pkE C I l.length)]) ∧ Own w' w.heap.size v (pkO C I l) ∧ Below w.heap.size w w' := by
  have hl := hr.1
  by_cases h : isB C ∧ isB I
  · by_cases hs : n ≤ 16380
    · obtain ⟨e1, e2⟩ := pk_ok (l := l) h.1 h.2 (by omega)
      rw [e1, e2]
      exact pack_ok D n c B l C I w h.1 h.2 hr hB hnil hs
    · obtain ⟨e1, e2⟩ := pk_size (l := l) h.1 h.2 (by omega)
      rw [e1, e2]
      refine (pack_size D n c C I w h.1 h.2 (by omega) hn).mono ?_
      rintro e w' ⟨rfl, hb⟩
      exact ⟨_, rfl, Own.nil _ _, hb⟩
  · obtain ⟨e1, e2⟩ := pk_code (l := l) h
    rw [e1, e2]
    refine (pack_code D n c C I w h).mono ?_
    rintro e w' ⟨rfl, hb⟩
    exact ⟨_, rfl, Own.nil _ _, hb⟩
end Go.Proofs.YtonbdcajepmgbaaDoor
