/-
  tetherref09.Pack: a packet's bytes.
-/
import Derived.Test.YtakenibeaodnkaaOpPack
import Derived.Deep.Cut
namespace Go.Proofs.Ytakenibeaodnkaa
open Go.RowKit
set_option maxRecDepth 100000
set_option maxHeartbeats 2000000
set_option linter.unusedSimpArgs false
set_option linter.unusedVariables false

theorem putB_two (m : Nat) (h : m < 65536) : putB m 2 = [UInt8.ofNat (m / 256), UInt8.ofNat (m % 256)] := by
  unfold putB putB putB
  rw [show m / 256 % 256 = m / 256 by omega]
  rfl
theorem rpack_ok (D : Option Addr) (n c B : Nat) (l : List UInt8) (C I : Int) (w : World) (hC : isB C) (hI : isB I) (hr : Rd w B D n l) (hB : B ≤ w.heap.size) (hnil : D = none → c = 0) (hn : n ≤ 16380) :
    Calls Try.prog 8 #[.agg #[.int .i64 C, .int .i64 I, .slice D n c]] w fun e w' => ∃ v, e = .returned (.tuple #[v, .int .i64 0]) ∧ Own w' w.heap.size v (pkB C I l) ∧ Below w.heap.size w w' := by
  have hl := hr.1
  obtain ⟨W2, hW2⟩ : ∃ W2, W2 = (w.alloc (.cells #[.int .i64 C, .int .i64 I, .slice D n c] 24)).alloc (.cells #[.int .u8 C, .int .u8 I, .int .u8 (((n : Int) + 4) / 256), .int .u8 (((n : Int) + 4) % 256)] 5) := ⟨_, rfl⟩
  have hs2 : W2.heap.size = w.heap.size + 1 + 1 := by rw [hW2]; simp
  have hB2 : Below w.heap.size w W2 := by rw [hW2]; exact ((Below.refl _ _).alloc (Nat.le_refl _) _).alloc (by simp) _
  have hbx : Blk W2 w.heap.size 24 [.int .i64 C, .int .i64 I, .slice D n c] := by
    rw [hW2]
    exact (Below.heap_alloc _ _ _ (by simp)).trans (blk_new w _ _)
  have hcells : (([UInt8.ofNat C.toNat, UInt8.ofNat I.toNat] ++ putB (l.length + 4) 2).map cellOf) = [.int .u8 C, .int .u8 I, .int .u8 (((n : Int) + 4) / 256), .int .u8 (((n : Int) + 4) % 256)] := by
    rw [putB_two _ (by omega)]
    have h1 := cellOf_ofNat ((l.length + 4) / 256)
    rw [show (l.length + 4) / 256 % 256 = (l.length + 4) / 256 by omega] at h1
    have h2 := cellOf_ofNat (l.length + 4)
    show [cellOf _, cellOf _, cellOf _, cellOf _] = _
    rw [cellOf_int hC, cellOf_int hI, h1, h2]
    congr 3
    · congr 1
      omega
    · congr 2
      omega
  have hb2 : Blk W2 (w.heap.size + 1) 5 (([UInt8.ofNat C.toNat, UInt8.ofNat I.toNat] ++ putB (l.length + 4) 2).map cellOf) := by
    rw [hW2, hcells]
    have h := blk_new (w.alloc (.cells #[.int .i64 C, .int .i64 I, .slice D n c] 24)) 5 [.int .u8 C, .int .u8 I, .int .u8 (((n : Int) + 4) / 256), .int .u8 (((n : Int) + 4) % 256)]
    rw [World.size_alloc] at h
    exact h
  have ho := own_of_blk (base := w.heap.size) hb2 (by omega) (by rw [List.length_append, putB_length]; simp)
  have hrd : Rd W2 B D n l := hr.below (hB2.mono hB)
  obtain ⟨v', w5, hrun, ho5, hg5, hv5⟩ := append_run ho c hrd hnil (by rw [List.length_append, putB_length]; simp; omega) (by omega)
  have RUN : Hid ((Builtin.append_ #[22, 22] 22 #[.slice (some ⟨w.heap.size + 1, 0, none⟩) 4 4, .slice D n c]).run Try.prog W2 = .ok v' w5) := hrun
  have O : Hid (Own w5 w.heap.size v' (pkB C I l)) := ho5
  have BB : Hid (Below w.heap.size w w5) := hB2.grown hg5 (by omega) (fun k e => by have := ho.block k e; omega)
  have HW : Hid ((w.alloc (.cells #[.int .i64 C, .int .i64 I, .slice D n c] 24)).alloc (.cells #[.int .u8 C, .int .u8 I, .int .u8 (((n : Int) + 4) / 256), .int .u8 (((n : Int) + 4) % 256)] 5) = W2) := hW2.symm
  obtain ⟨c1, c2⟩ := hC
  obtain ⟨i1, i2⟩ := hI
  have n1 : ¬ C < 0 := by omega
  have n2 : ¬ 255 < C := by omega
  have n3 : ¬ I < 0 := by omega
  have n4 : ¬ 255 < I := by omega
  have cc : W2.cell? ⟨w.heap.size, 2, none⟩ = some (.slice D n c) := hbx.cell 2
  have d1 : 0 ≤ ((n : Int) + 4) / 256 := by omega
  have d2 : ((n : Int) + 4) / 256 ≤ 255 := by omega
  have d3 : 0 ≤ ((n : Int) + 4) % 256 := by omega
  have d4 : ((n : Int) + 4) % 256 ≤ 255 := by omega
  clear hW2 hB2 hbx hb2 hr hl hs2 hcells ho hrd hrun ho5 hg5 hv5
  go_enter Try.func8, Try.ntmps8
  go_upto_region 7 with (fail)
  rw [HW.out]
  clear HW
  go_wp2_with (at_builtin; refine wpList_app rfl (.tmp 45) (.tmp 47) rfl _ _ rfl rfl _ _ RUN.out ?_)
  go_ret2
  exact ⟨_, rfl, O.out, BB.out⟩
theorem rpack_code (D : Option Addr) (n c : Nat) (C I : Int) (w : World) (h : ¬ (isB C ∧ isB I)) :
    Calls Try.prog 8 #[.agg #[.int .i64 C, .int .i64 I, .slice D n c]] w fun e w' => e = .returned (.tuple #[.slice none 0 0, .int .i64 90]) ∧ Below w.heap.size w w' := by
  have HB : Hid (Below w.heap.size w (w.alloc (.cells #[.int .i64 C, .int .i64 I, .slice D n c] 24))) := (Below.refl _ _).alloc (Nat.le_refl _) _
  unfold isB at h
  by_cases a1 : C < 0
  · clear h
    go_enter Try.func8, Try.ntmps8
    go_wp2
    go_ret2
    exact ⟨rfl, HB.out⟩
  · by_cases a2 : 255 < C
    · clear h
      go_enter Try.func8, Try.ntmps8
      go_wp2
      go_ret2
      exact ⟨rfl, HB.out⟩
    · by_cases a3 : I < 0
      · clear h
        go_enter Try.func8, Try.ntmps8
        go_wp2
        go_ret2
        exact ⟨rfl, HB.out⟩
      · have a4 : 255 < I := by omega
        clear h
        go_enter Try.func8, Try.ntmps8
        go_wp2
        go_ret2
        exact ⟨rfl, HB.out⟩
theorem rpack_size (D : Option Addr) (n c : Nat) (C I : Int) (w : World) (hC : isB C) (hI : isB I) (hn : 16380 < n) (hm : n ≤ 140737488355328) :
    Calls Try.prog 8 #[.agg #[.int .i64 C, .int .i64 I, .slice D n c]] w fun e w' => e = .returned (.tuple #[.slice none 0 0, .int .i64 4]) ∧ Below w.heap.size w w' := by
  have HB : Hid (Below w.heap.size w (w.alloc (.cells #[.int .i64 C, .int .i64 I, .slice D n c] 24))) := (Below.refl _ _).alloc (Nat.le_refl _) _
  obtain ⟨c1, c2⟩ := hC
  obtain ⟨i1, i2⟩ := hI
  have n1 : ¬ C < 0 := by omega
  have n2 : ¬ 255 < C := by omega
  have n3 : ¬ I < 0 := by omega
  have n4 : ¬ 255 < I := by omega
  go_enter Try.func8, Try.ntmps8
  go_wp2
  go_ret2
  exact ⟨rfl, HB.out⟩
theorem rpack_any (D : Option Addr) (n c B : Nat) (l : List UInt8) (C I : Int) (w : World) (hr : Rd w B D n l) (hB : B ≤ w.heap.size) (hnil : D = none → c = 0) (hn : n ≤ 140737488355328) :
    Calls Try.prog 8 #[.agg #[.int .i64 C, .int .i64 I, .slice D n c]] w fun e w' => ∃ v, e = .returned (.tuple #[v, .int .i64 (pkE C I l.length)]) ∧ Own w' w.heap.size v (pkO C I l) ∧ Below w.heap.size w w' := by
  have hl := hr.1
  by_cases h : isB C ∧ isB I
  · by_cases hs : n ≤ 16380
    · obtain ⟨e1, e2⟩ := pk_ok (l := l) h.1 h.2 (by omega)
      rw [e1, e2]
      exact rpack_ok D n c B l C I w h.1 h.2 hr hB hnil hs
    · obtain ⟨e1, e2⟩ := pk_size (l := l) h.1 h.2 (by omega)
      rw [e1, e2]
      refine (rpack_size D n c C I w h.1 h.2 (by omega) hn).mono ?_
      rintro e w' ⟨rfl, hb⟩
      exact ⟨_, rfl, Own.nil _ _, hb⟩
  · obtain ⟨e1, e2⟩ := pk_code (l := l) h
    rw [e1, e2]
    refine (rpack_code D n c C I w h).mono ?_
    rintro e w' ⟨rfl, hb⟩
    exact ⟨_, rfl, Own.nil _ _, hb⟩
end Go.Proofs.Ytakenibeaodnkaa
