/-
  tetherlaw04.awake is true: the chapter's examples.
-/
import Derived.Test.YtnlhjlmjbmaipaaDoorMdSum
import Derived.Test.YtnlhjlmjbmaipaaDoorMdHex
import Derived.Test.YtnlhjlmjbmaipaaDoorMdEqual
import Derived.Lib.SlBytesConst
namespace Go.Proofs.YtnlhjlmjbmaipaaDoor
open Go.RowKit Go.Shelf
set_option maxRecDepth 100000
set_option maxHeartbeats 1000000
set_option linter.unusedSimpArgs false
set_option linter.unusedVariables false

theorem sum_any (A : Option Addr) (nn c B : Nat) (l : List UInt8) (w : World) (hr : Rd w B A nn l) (hB : B ≤ w.heap.size) (hc : nn ≤ c) (hnil : A = none → c = 0) (hm : nn ≤ 140737488351240) (hK : TabK w) (hS : TabS w) :
    Calls Tryd.prog 28 #[.slice A nn c] w fun e w' => e = .returned (.agg (partB (mdOver (mdPad l) ((mdPad l).length / 64)) 16).toArray) ∧ Below w.heap.size w w' :=
  callsIn_wide.1 (sum_in A nn c B l w hr hB hc hnil hm hK hS)
theorem mdByte_in (V : W4) (k : Nat) : 0 ≤ mdByte V k ∧ mdByte V k < 256 := by
  unfold mdByte
  omega
theorem partB_bytes (V : W4) : partB V 16 = (mdBytes V).map cellOf := by
  unfold partB mdBytes
  rw [List.map_map]
  refine List.map_congr_left fun j hj => ?_
  have hj : j < 16 := by simpa using hj
  have h := mdByte_in V j
  rw [if_pos hj]
  show Value.int .u8 _ = Value.int .u8 _
  congr 1
  simp [UInt8.toNat_ofNat']
  omega
theorem rd_partB {w : World} {g : Nat} {V : W4} (h : Blk w g 31 (partB V 16)) : Rd w w.heap.size (some ⟨g, 0, none⟩) 16 (mdBytes V) := by
  rw [partB_bytes] at h
  refine ⟨by simp [mdBytes], fun _ => ⟨g, 0, rfl, Blk.lt h, fun j hj => ?_⟩⟩
  rw [Nat.zero_add, h.cell, cells_at _ j (by simpa [mdBytes] using hj)]
theorem rd_built3 (W : World) (l : List UInt8) (fr : Nat × Nat) : Rd (W.alloc (.cells (l.map cellOf).toArray 5 fr)) (W.heap.size + 1) (some ⟨W.heap.size, 0, none⟩) l.length l := by
  refine ⟨rfl, fun _ => ⟨W.heap.size, 0, rfl, by omega, fun j hj => ?_⟩⟩
  rw [cell_of_row _ W.heap.size (0 + j) _ _ fr (heap_alloc_new W _), Nat.zero_add]
  simpa using cells_at l j hj
theorem TabK.alloc {w : World} (h : TabK w) (o : Obj) : TabK (w.alloc o) := h.kept ((Below.refl _ _).alloc (Nat.le_refl _) _)
theorem TabS.alloc {w : World} (h : TabS w) (o : Obj) : TabS (w.alloc o) := h.kept ((Below.refl _ _).alloc (Nat.le_refl _) _)
theorem hex_none : hexS (mdBytes (mdOver (mdPad []) ((mdPad []).length / 64))) = [100, 52, 49, 100, 56, 99, 100, 57, 56, 102, 48, 48, 98, 50, 48, 52, 101, 57, 56, 48, 48, 57, 57, 56, 101, 99, 102, 56, 52, 50, 55, 101] := by decide +kernel
theorem hex_abc : hexS (mdBytes (mdOver (mdPad [97, 98, 99]) ((mdPad [97, 98, 99]).length / 64))) = [57, 48, 48, 49, 53, 48, 57, 56, 51, 99, 100, 50, 52, 102, 98, 48, 100, 54, 57, 54, 51, 102, 55, 100, 50, 56, 101, 49, 55, 102, 55, 50] := by decide +kernel

theorem awake_yes (w : World) (hK : TabK w) (hS : TabS w) : Calls Tryd.prog 16 #[] w fun e w' => e = .returned (.bool true) ∧ Below w.heap.size w w' := by
  obtain ⟨V1, hV1⟩ : ∃ V, V = mdOver (mdPad []) ((mdPad []).length / 64) := ⟨_, rfl⟩
  obtain ⟨V2, hV2⟩ : ∃ V, V = mdOver (mdPad [97, 98, 99]) ((mdPad [97, 98, 99]).length / 64) := ⟨_, rfl⟩
  have S1 : Hid (∀ W : World, TabK W → TabS W → Calls Tryd.prog 28 #[.slice none 0 0] W fun e w' => e = .returned (.agg (partB V1 16).toArray) ∧ Below W.heap.size W w') := by
    show ∀ W : World, _ → _ → Calls _ _ _ _ _
    intro W h h'
    rw [hV1]
    exact sum_any none 0 0 W.heap.size [] W ⟨rfl, fun h => absurd h (by omega)⟩ (Nat.le_refl _) (Nat.le_refl _) (fun _ => rfl) (by omega) h h'
  have S2 : Hid (∀ W : World, TabK W → TabS W → Calls Tryd.prog 28 #[.slice (some ⟨W.heap.size, 0, none⟩) 3 3] (W.alloc (.cells #[.int .u8 97, .int .u8 98, .int .u8 99] 5 (3, 4))) fun e w' => e = .returned (.agg (partB V2 16).toArray) ∧ Below W.heap.size W w') := by
    show ∀ W : World, _ → _ → Calls _ _ _ _ _
    intro W h h'
    rw [hV2]
    refine (sum_any _ 3 3 (W.heap.size + 1) [97, 98, 99] _ (rd_built3 W [97, 98, 99] (3, 4)) (by rw [World.size_alloc]; omega) (Nat.le_refl _) (fun h => nomatch h) (by omega) (h.alloc _) (h'.alloc _)).mono ?_
    rintro e w' ⟨rfl, hb⟩
    rw [World.size_alloc] at hb
    exact ⟨rfl, ((Below.refl _ _).alloc (Nat.le_refl _) _).trans (hb.mono (by omega))⟩
  have X1 := hex_none
  have X2 := hex_abc
  rw [← hV1] at X1
  rw [← hV2] at X2
  have H1 : Hid (∀ (g : Nat) (W : World), Blk W g 31 (partB V1 16) → Calls Tryd.prog 29 #[.slice (some ⟨g, 0, none⟩) 16 16] W fun e w' => e = .returned (.string { data := #[100, 52, 49, 100, 56, 99, 100, 57, 56, 102, 48, 48, 98, 50, 48, 52, 101, 57, 56, 48, 48, 57, 57, 56, 101, 99, 102, 56, 52, 50, 55, 101] }) ∧ Below W.heap.size W w') := by
    show ∀ (g : Nat) (W : World), _ → Calls _ _ _ _ _
    intro g W h
    have k := hex_any _ 16 16 _ W (rd_partB h) (Nat.le_refl _) (by omega)
    rw [X1] at k
    exact k
  have H2 : Hid (∀ (g : Nat) (W : World), Blk W g 31 (partB V2 16) → Calls Tryd.prog 29 #[.slice (some ⟨g, 0, none⟩) 16 16] W fun e w' => e = .returned (.string { data := #[57, 48, 48, 49, 53, 48, 57, 56, 51, 99, 100, 50, 52, 102, 98, 48, 100, 54, 57, 54, 51, 102, 55, 100, 50, 56, 101, 49, 55, 102, 55, 50] }) ∧ Below W.heap.size W w') := by
    show ∀ (g : Nat) (W : World), _ → Calls _ _ _ _ _
    intro g W h
    have k := hex_any _ 16 16 _ W (rd_partB h) (Nat.le_refl _) (by omega)
    rw [X2] at k
    exact k
  have E1 : Hid (∀ (W : World) (g : Nat), Calls Tryd.prog 30 #[.slice none 0 0, .slice (some ⟨g, 0, none⟩) 0 0] W fun e w' => e = .returned (.bool true) ∧ ∃ q, w' = W.drewN q) := by
    show ∀ (W : World) (g : Nat), Calls _ _ _ _ _
    intro W g
    exact equal_any none (some ⟨g, 0, none⟩) 0 0 0 0 W.heap.size [] [] W ⟨rfl, fun h => absurd h (by omega)⟩ ⟨rfl, fun h => absurd h (by omega)⟩ (by decide) (by decide)
  have kc := fun (w : World) (C : Array Value) (n c : Nat) => Lib.run_convert_bytes_const (P := Tryd.prog) w 25 5 C n c Tryd.underlying25 Tryd.underlying5
  have T0 := Lib.hid hK
  have U0 := Lib.hid hS
  clear hK hS hV1 hV2 X1 X2
  go_enter Tryd.func16, Tryd.ntmps16
  go_wp2_with fail
  refine (S1.out _ T0.out U0.out).mono ?_
  rintro e w1 ⟨rfl, hb1⟩
  have T1 := Lib.hid (T0.out.kept hb1)
  have U1 := Lib.hid (U0.out.kept hb1)
  have B1 := Lib.hid hb1
  clear hb1
  go_wp2_with fail
  refine (S2.out _ T1.out U1.out).mono ?_
  rintro e w2 ⟨rfl, hb2⟩
  have hs1 := B1.out.size
  have B2 := Lib.hid (B1.out.trans (hb2.mono hs1))
  clear hb2 kc
  obtain ⟨W5, hst1, hbk1, hgw1⟩ := store_all2 (w := (w2.alloc (.cells (zeros 16).toArray 31)).alloc (.cells (zeros 16).toArray 31)) (g := w2.heap.size) (t := 31) (cs := zeros 16) (vs := partB V1 16) ((Below.heap_alloc _ _ _ (by simp)).trans (blk_new w2 31 (zeros 16))) (by simp [partB, zeros]) (partB_one V1 16)
  obtain ⟨W6, hst2, hbk2, hgw2⟩ := store_all2 (w := W5) (g := w2.heap.size + 1) (t := 31) (cs := zeros 16) (vs := partB V2 16) ((hgw1.block _ (by simp) (by intro e; injection e with e; omega)).trans (by have h := blk_new (w2.alloc (.cells (zeros 16).toArray 31)) 31 (zeros 16); rw [World.size_alloc] at h; exact h)) (by simp [partB, zeros]) (partB_one V2 16)
  rw [show zeros 16 = [.int .u8 0, .int .u8 0, .int .u8 0, .int .u8 0, .int .u8 0, .int .u8 0, .int .u8 0, .int .u8 0, .int .u8 0, .int .u8 0, .int .u8 0, .int .u8 0, .int .u8 0, .int .u8 0, .int .u8 0, .int .u8 0] from rfl] at hst1
  have hs5 := hgw1.size
  have hs6 := hgw2.size
  rw [World.size_alloc, World.size_alloc] at hs5
  have hbk1' : Blk W6 w2.heap.size 31 (partB V1 16) := (hgw2.block _ (by omega) (by intro e; injection e with e; omega)).trans hbk1
  have hB6 : Below w.heap.size w W6 := (((B2.out.alloc B2.out.size _).alloc (by have := B2.out.size; simp; omega) _).grown hgw1 (by have := B2.out.size; simp; omega) (fun k e => by have := B2.out.size; cases e; omega)).grown hgw2 (by have := B2.out.size; omega) (fun k e => by have := B2.out.size; cases e; omega)
  have K1 := Lib.hid hbk1'
  have K2 := Lib.hid hbk2
  have B6 := Lib.hid hB6
  clear hbk1 hbk1' hbk2 hB6 hgw1 hgw2
  go_wp2_with fail
  refine (H1.out _ _ K1.out).mono ?_
  rintro e w7 ⟨rfl, hb7⟩
  have hs2 := B2.out.size
  have K3 := Lib.hid ((hb7.block _ (by omega)).trans K2.out)
  have B7 := Lib.hid (B6.out.trans (hb7.mono B6.out.size))
  clear hb7
  go_wp2_with fail
  refine (H2.out _ _ K3.out).mono ?_
  rintro e w8 ⟨rfl, hb8⟩
  have B8 := Lib.hid (B7.out.trans (hb8.mono B7.out.size))
  clear hb8
  go_wp2_with fail
  refine (E1.out _ _).mono ?_
  rintro e w9 ⟨rfl, q, rfl⟩
  have B9 := Lib.hid (below_drewN (B8.out.alloc B8.out.size (.cells #[] 5)) q)
  go_wp2
  go_ret
  exact ⟨rfl, B9.out⟩
end Go.Proofs.YtnlhjlmjbmaipaaDoor
