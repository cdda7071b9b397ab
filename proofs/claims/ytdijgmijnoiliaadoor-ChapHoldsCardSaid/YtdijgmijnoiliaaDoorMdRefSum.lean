/-
  tetherref04.Sum: the digest, filled up and block by block.
-/
import Derived.Test.YtdijgmijnoiliaaDoorMdTold
import Derived.Test.YtdijgmijnoiliaaDoorMdConv
import Derived.Test.YtdijgmijnoiliaaDoorMdPad
import Derived.Test.YtdijgmijnoiliaaDoorMdBlock
import Derived.Test.YtdijgmijnoiliaaDoorMdMore
import Derived.Laws.Rows
import Derived.Laws.Tables
import Derived.Test.YtdijgmijnoiliaaDoorMdSub
import Derived.Deep.RegionWith
namespace Go.Proofs.YtdijgmijnoiliaaDoor
open Go.RowKit
set_option maxRecDepth 100000
set_option maxHeartbeats 2000000
set_option linter.unusedSimpArgs false
set_option linter.unusedVariables false

theorem rbegin_any (w : World) :
    Calls Tryd.prog 51 #[] w fun e w' => e = .returned (.agg (cells4 mdBegin).toArray) ∧ Below w.heap.size w w' := by
  go_enter Tryd.func51, Tryd.ntmps51
  go_wp2
  exact bodyPost_ret (v := .agg (cells4 mdBegin).toArray) (by simp [results, Tryd.results51, go_sem, cells4, mdBegin]) rfl ⟨rfl, (Below.refl _ _).alloc (Nat.le_refl _) _⟩
theorem store_allR {w : World} {g t : Nat} {cs vs : List Value} (h : Blk w g t cs) (hl : vs.length = cs.length) (h1 : ∀ v ∈ vs, v.oneCell' = true) :
    ∃ w', (storeCells ⟨g, 0, none⟩ vs).run Tryd.prog w = .ok () w' ∧ Blk w' g t vs ∧ w.grownBy w' (some g) := by
  have h2 := run_storeCells_from (P := Tryd.prog) g t vs 0 cs.toArray w h (by simp [hl]) h1
  exact ⟨_, by simpa using h2, setRow_heap w g _ _ t _ h, grown_setRow _⟩
theorem cells4_one (v : W4) : ∀ x ∈ cells4 v, x.oneCell' = true := by
  intro x hx
  simp [cells4] at hx
  rcases hx with rfl | rfl | rfl | rfl <;> rfl
theorem partB_oneR (v : W4) (k : Nat) : ∀ x ∈ partB v k, x.oneCell' = true := by
  intro x hx
  obtain ⟨j, _, rfl⟩ := List.mem_map.1 hx
  rfl
theorem info16R : (Tryd.prog.info? 47).map (·.size) = some 16 := by kernel_rfl
def lenInR : Value → Nat
  | .slice _ n _ => n
  | _ => 0
theorem rsum_any (A : Option Addr) (n c B : Nat) (l : List UInt8) (w : World) (hr : Rd w B A n l) (hB : B ≤ w.heap.size) (hnil : A = none → c = 0) (hm : n ≤ 140737488351240) :
    Calls Tryd.prog 43 #[.slice A n c] w fun e w' => e = .returned (.agg (partB (mdOver (mdPad l) ((mdPad l).length / 64)) 16).toArray) ∧ Below w.heap.size w w' := by
  have hl := hr.1
  obtain ⟨W1, hW1⟩ : ∃ W1, W1 = w.alloc (.cells (zeros 16).toArray 47) := ⟨_, rfl⟩
  have s1 : W1.heap.size = w.heap.size + 1 := by rw [hW1, World.size_alloc]
  have z1 : Blk W1 w.heap.size 47 (zeros 16) := by rw [hW1]; exact blk_new w _ _
  have hr1 : Rd W1 B A n l := by rw [hW1]; exact hr.alloc hB _
  have BW1 : Below w.heap.size w W1 := by rw [hW1]; exact (Below.refl _ _).alloc (Nat.le_refl _) _
  obtain ⟨v1, w1, r1, o1, g1, b1⟩ := append_run (Own.nil W1 W1.heap.size) c hr1 hnil (by simp; omega) (Nat.le_refl _)
  have B1 : Below W1.heap.size W1 w1 := (Below.refl _ _).grown g1 (Nat.le_refl _) (by simp [Value.ownBlock])
  obtain ⟨v2, w2, r2, o2, g2, b2⟩ := append_run (o1.alloc (.cells #[.int .u8 128] 5)) 1 (rd_one w1 128 128 rfl) (by simp) (by simp; omega) (by have := B1.size; simp; omega)
  have B2 : Below W1.heap.size W1 w2 := (B1.alloc B1.size _).grown g2 (by have := B1.size; simp; omega) (by
    intro k hk
    exact (o1.block k hk).1)
  have zz2 : Blk w2 w.heap.size 47 (zeros 16) := (B2.block _ (by omega)).trans z1
  have BB2 : Below w.heap.size w w2 := BW1.trans (B2.mono (by omega))
  have O2 := Lib.hid (show Own w2 W1.heap.size v2 (padAt l 0) by rw [padAt_zero]; simpa using o2)
  have Z2 := Lib.hid zz2
  have BB := Lib.hid BB2
  have R1 := Lib.hid r1
  have R2 := Lib.hid r2
  have HL := Lib.hid hl
  have S1 := Lib.hid s1
  rw [hW1] at R1
  clear o1 o2 g1 g2 b1 b2 B1 B2 hr hr1 hl r1 r2 zz2 BB2 BW1 z1 s1
  obtain ⟨base, hbase⟩ : ∃ b, b = W1.heap.size := ⟨_, rfl⟩
  rw [← hbase] at O2 S1
  clear hbase hW1
  go_enter Tryd.func43, Tryd.ntmps43
  go_wp2_with (first
    | (at_builtin; refine wpList_app rfl (.tmp 8) (.tmp 9) rfl _ _ rfl rfl _ _ R1.out ?_)
    | (at_builtin; refine wpList_app rfl (.tmp 11) (.tmp 12) rfl _ _ rfl rfl _ _ R2.out ?_))
  go_loopw [3] (fun v wr => ∃ j : Nat, j ≤ padN n ∧ Own wr base v (padAt l j) ∧ Blk wr w.heap.size 47 (zeros 16) ∧ Below w.heap.size w wr) (fun v _ => n + 65 - lenInR v)
  case atStart => exact ⟨0, Nat.zero_le _, O2.out, Z2.out, BB.out⟩
  case round =>
    rename_i wr
    obtain ⟨j, hj, ho, hz, hB2⟩ := hrel
    have hlen : (padAt l j).length = n + 1 + j := by rw [padAt_length, HL.out]
    have hp := padN_lt n
    have hsz := hB2.size
    obtain ⟨g, cap, rfl, hg, hgl, hcap⟩ : ∃ g cap, _ := by
      rcases ho.form with ⟨e, h0⟩ | h
      · rw [h0] at hlen; simp at hlen; omega
      · exact h
    rw [hlen] at ho hcap ⊢
    by_cases hlt : j < padN n
    · have hne := pad_more n j hlt
      have hne2 : (((n + 1 + j : Nat) : Int).tmod 64 != 56) = true := by
        rw [Int.tmod_eq_emod_of_nonneg (by omega)]
        simp
        omega
      have S1 := S1.out
      obtain ⟨v3, w3, r3, o3, g3, b3⟩ := append_run (ho.alloc (.cells #[.int .u8 0] 5)) 1 (rd_one wr 0 0 rfl) (by simp) (by rw [hlen]; omega) (by simp; omega)
      have G3 : ∀ k, (Value.slice (some ⟨g, 0, none⟩) (n + 1 + j) cap).ownBlock = some k → base ≤ k := fun k hk => (ho.block k hk).1
      have hB3 := (hB2.alloc hsz (.cells #[.int .u8 0] 5)).grown g3 (by simp; omega) (fun k hk => by have := G3 k hk; omega)
      have hz3 := Lib.hid ((g3.block w.heap.size (by simp; omega) (fun e => by have := G3 _ e.symm; omega)).trans ((Below.heap_alloc wr _ _ (by omega)).trans hz))
      rw [← padAt_next] at o3
      have O3 := Lib.hid o3
      have B3 := Lib.hid hB3
      have R3 := Lib.hid r3
      have L3 : Hid (lenInR v3 = n + 1 + (j + 1)) := by
        have hl3 : (padAt l (j + 1)).length = n + 1 + (j + 1) := by rw [padAt_length, HL.out]
        rcases o3.form with ⟨e, h0⟩ | ⟨g', cap', e, _, _, _⟩
        · rw [h0] at hl3; simp at hl3
        · rw [e, ← hl3]; rfl
      clear o3 hB3 r3 g3 b3 G3 ho hz hB2 hlen
      go_wp2_with (at_builtin; refine wpList_app rfl (.tmp 18) (.tmp 19) rfl _ _ rfl rfl _ _ R3.out ?_)
      go_roundw
      case rel => exact ⟨j + 1, by omega, O3.out, hz3.out, B3.out⟩
      case measure =>
        have h3 := L3.out
        unfold lenInR at h3
        simp [lenInR]
        omega
    · obtain rfl : j = padN n := by omega
      have hd := pad_done n
      have hne2 : (((n + 1 + padN n : Nat) : Int).tmod 64 != 56) = false := by
        rw [Int.tmod_eq_emod_of_nonneg (by omega)]
        simp
        omega
      have O3 := Lib.hid (show Own wr base (.slice (some ⟨g, 0, none⟩) (n + 1 + padN n) cap) (sizeAtL l 0) by rw [sizeAt_zero, HL.out]; exact ho)
      have Z3 := Lib.hid hz
      have B3 := Lib.hid hB2
      clear ho hz hB2 hlen
      go_wp2
      rename_i hbf _ _
      rw [hbf]
      go_loopw [3, 5] (fun v vk ws => ∃ k : Nat, vk = .int .i64 k ∧ k ≤ 8 ∧ Own ws base v (sizeAtL l k) ∧ Blk ws w.heap.size 47 (zeros 16) ∧ Below w.heap.size w ws) (fun _ vk _ => 8 - (intOf vk).toNat)
      case atStart => exact ⟨0, rfl, by omega, O3.out, Z3.out, B3.out⟩
      case round =>
        obtain ⟨k, rfl, hk, ho, hz, hB2⟩ := hrel
        have hlen : (sizeAtL l k).length = n + 1 + padN n + k := by rw [sizeAt_length, HL.out]
        have hsz := hB2.size
        have S1 := S1.out
        obtain ⟨g, cap, rfl, hg, hgl, hcap⟩ : ∃ g cap, _ := by
          rcases ho.form with ⟨e, h0⟩ | h
          · rw [h0] at hlen; simp at hlen; omega
          · exact h
        rw [hlen] at ho hcap ⊢
        by_cases hlt : k < 8
        · obtain ⟨x, hx⟩ : ∃ x : Int, x = 8 * (n : Int) / 2 ^ (8 * k) % 256 := ⟨_, rfl⟩
          have hxb : x = ((sizeByte l.length k).toNat : Int) := by rw [sizeByte_int, HL.out]; exact hx
          obtain ⟨v3, w3, r3, o3, g3, b3⟩ := append_run (ho.alloc (.cells #[.int .u8 x] 5)) 1 (rd_one wr (sizeByte l.length k) x hxb) (by simp) (by rw [hlen]; omega) (by simp; omega)
          have G3 : ∀ i, (Value.slice (some ⟨g, 0, none⟩) (n + 1 + padN n + k) cap).ownBlock = some i → base ≤ i := fun i hi => (ho.block i hi).1
          have hB3 := (hB2.alloc hsz (.cells #[.int .u8 x] 5)).grown g3 (by simp; omega) (fun i hi => by have := G3 i hi; omega)
          have hz3 := Lib.hid ((g3.block w.heap.size (by simp; omega) (fun e => by have := G3 _ e.symm; omega)).trans ((Below.heap_alloc wr _ _ (by omega)).trans hz))
          rw [← sizeAt_next] at o3
          rw [hx] at r3
          have O4 := Lib.hid o3
          have B4 := Lib.hid hB3
          have R4 := Lib.hid r3
          clear o3 hB3 r3 g3 b3 G3 ho hz hB2 hlen hx hxb
          go_wp2_with (at_builtin; refine wpList_app rfl (.tmp 29) (.tmp 36) rfl _ _ rfl rfl _ _ R4.out ?_)
          go_roundw
          case rel => exact ⟨k + 1, by go_num, by omega, O4.out, hz3.out, B4.out⟩
          case measure => simp [intOf]; omega
        · obtain rfl : k = 8 := by omega
          rename World => wo
          have e0 : (sizeAtL l 8).length = n + 1 + padN n + 8 := by rw [sizeAt_length, HL.out]
          rw [← mdPad_eq] at ho e0
          have HO := Lib.hid ho
          have HZ := Lib.hid hz
          have HB := Lib.hid hB2
          clear ho hz hB2
          have hwsz := HB.out.size
          go_wp2_with (go_at_call 51; refine (rbegin_any _).mono ?_; rintro e w1 ⟨rfl, hb1⟩; obtain ⟨W3, hst, hbk, hgw⟩ := store_allR (blk_new w1 95 [.int .u32 0, .int .u32 0, .int .u32 0, .int .u32 0]) (show (cells4 mdBegin).length = _ by simp [cells4]) (cells4_one mdBegin))
          have hs1 := hb1.size
          have hs3 := hgw.size
          rw [World.size_alloc] at hs3
          have hB3 : Below wo.heap.size wo W3 := (hb1.alloc hs1 _).grown hgw (by simp; omega) (fun k e => by cases e; omega)
          obtain ⟨hgb, hgs⟩ := HO.out.block g (by simp [Value.ownBlock])
          obtain ⟨b6, hb6⟩ : ∃ b6, b6 = w1.heap.size := ⟨_, rfl⟩
          rw [← hb6] at hbk hs1 hs3
          rw [← hb6]
          obtain ⟨N, hN⟩ : ∃ N, N = n + 1 + padN n + 8 := ⟨_, rfl⟩
          rw [← hN] at e0
          rw [← hN]
          have hO3 := HO.out.later hB3
          have hZ3 := (hB3.block w.heap.size (by omega)).trans HZ.out
          have hBB := HB.out.trans (hB3.mono hwsz)
          have hN64 : N % 64 = 0 := by rw [← e0]; exact mdPad_whole l
          rw [← hN] at hO3
          have HN := Lib.hid hN
          have HE := Lib.hid e0
          have HN64 := Lib.hid hN64
          have hNm : N ≤ 140737488351600 := by have := padN_lt n; omega
          clear hst hgw hb1 hB3 hN e0 hN64 hb6
          have HOs := Lib.hid hO3
          have HZs := Lib.hid hZ3
          have HBs := Lib.hid hBB
          have HKs := Lib.hid hbk
          clear hO3 hZ3 hBB hbk
          go_loopw [7] (fun vi ws => ∃ i p : Nat, vi = .int .i64 p ∧ Hid (p = 64 * i) ∧ p ≤ N ∧ Own ws base (.slice (some ⟨g, 0, none⟩) N cap) (mdPad l) ∧ Blk ws w.heap.size 47 (zeros 16) ∧ Blk ws b6 95 (cells4 (mdOver (mdPad l) i)) ∧ Below w.heap.size w ws ∧ b6 < ws.heap.size) (fun vi _ => N - (intOf vi).toNat)
          case atStart => exact ⟨0, 0, rfl, rfl, by omega, HOs.out, HZs.out, HKs.out, HBs.out, by omega⟩
          case round =>
            obtain ⟨i, p, rfl, hpi, hp, ho, hz, hk, hB4, hb6⟩ := hrel
            by_cases hlt : p < N
            · have hp64 : p + 64 ≤ N := by have := hpi.out; have := HN64.out; omega
              obtain ⟨V, hV⟩ : ∃ V, V = mdOver (mdPad l) i := ⟨_, rfl⟩
              have hVok : V.ok := by rw [hV]; exact mdOver_ok _ _
              rw [← hV] at hk
              have c0 : wr.cell? ⟨b6, 0, none⟩ = some (.int .u32 V.a) := hk.cell 0
              have c1 : wr.cell? ⟨b6, 1, none⟩ = some (.int .u32 V.b) := hk.cell 1
              have c2 : wr.cell? ⟨b6, 2, none⟩ = some (.int .u32 V.c) := hk.cell 2
              have c3 : wr.cell? ⟨b6, 3, none⟩ = some (.int .u32 V.d) := hk.cell 3
              have hrd := ho.rd HE.out.symm N (Nat.le_refl _)
              rw [← HE.out, List.take_length, HE.out] at hrd
              have hrs := hrd.sub hp64
              rw [Nat.zero_add] at hrs
              have i64 : ((p : Int) + 64) ≤ (N : Int) := by omega
              have hcp : p + 64 ≤ cap := by have := HN.out; omega
              have icp : ((p : Int) + 64) ≤ (cap : Int) := by omega
              have ip0 : (0 : Int) ≤ (p : Int) := by omega
              have ipn : ¬ (cap = p) := by omega
              have ipp : (p : Int) ≤ (p : Int) + 64 := by omega
              have itn : ((p : Int) + 64).toNat = p + 64 := by omega
              have iwr : IntKind.i64.wrap ((p : Int) + 64) = (p : Int) + 64 := by simp [IntKind.wrap, IntKind.bits, IntKind.signed]; omega
              have ipn2 : ¬ ((cap : Int) = (p : Int)) := by omega
              have nxt : mdBlock (mdWord (((mdPad l).drop p).take 64)) V = mdOver (mdPad l) (i + 1) := by
                show _ = mdBlock (mdWord ((mdPad l).drop (64 * i))) (mdOver (mdPad l) i)
                rw [← hV, ← hpi.out]
                refine mdBlock_congr (mdWord_congr fun j hj => ?_) _
                unfold byteAt
                rw [List.getD_eq_getElem?_getD, List.getD_eq_getElem?_getD, List.getElem?_take_of_lt hj]
              have NXT := Lib.hid nxt
              have VV := Lib.hid hV
              have HVok := Lib.hid hVok
              have HO2 := Lib.hid ho
              have HZ2 := Lib.hid hz
              have HK2 := Lib.hid hk
              have HB2' := Lib.hid hB4
              have HRS := Lib.hid hrs
              clear nxt hV hVok ho hz hk hB4 hrs hrd
              go_wp2
              have BC := Lib.hid (rblock_any V g p (cap - p) wr.heap.size (((mdPad l).drop p).take 64) wr.drew HVok.out HRS.out (Nat.le_refl _) (by omega))
              rw [NXT.out] at BC
              go_region_with
                (first | (go_at_call 52; refine BC.out.mono ?_; rintro e w5 ⟨rfl, hb5⟩; obtain ⟨W6, hst, hbk, hgw⟩ := store_allR (show Blk w5 b6 95 (cells4 V) from (hb5.block b6 hb6).trans HK2.out) (show (cells4 (mdOver (mdPad l) (i + 1))).length = _ by simp [cells4]) (cells4_one _)))
              have hsd : wr.heap.size ≤ w5.heap.size := hb5.size
              have hs6 := hgw.size
              have hB6 : Below wr.heap.size wr w5 := ⟨hb5.os, hb5.tape, hb5.output, hb5.size, hb5.block⟩
              have hwr := HB2'.out.size
              have hg2 := HO2.out.block g (by simp [Value.ownBlock])
              have ho5 := (HO2.out.later hB6).grown hgw (.inr (by simp only [Value.ownBlock]; intro e; injection e with e; omega))
              have hz5 : Blk W6 w.heap.size 47 (zeros 16) := (hgw.block w.heap.size (by omega) (by intro e; injection e with e; omega)).trans ((hB6.block w.heap.size (by omega)).trans HZ2.out)
              have hB7 : Below w.heap.size w W6 := (HB2'.out.trans (hB6.mono hwr)).grown hgw (by omega) (fun k e => by cases e; omega)
              have HO5 := Lib.hid ho5
              have HZ5 := Lib.hid hz5
              have HB7 := Lib.hid hB7
              have HBK := Lib.hid hbk
              clear ho5 hz5 hB7 hbk hgw hB6 hb5 hst
              go_wp2
              go_roundw
              case rel => exact ⟨i + 1, p + 64, by go_num, by have := hpi.out; show _ = _; omega, by omega, HO5.out, HZ5.out, HBK.out, HB7.out, by omega⟩
              case measure => simp [intOf]; omega
            · obtain rfl : p = N := by omega
              obtain ⟨V, hV⟩ : ∃ V, V = mdOver (mdPad l) i := ⟨_, rfl⟩
              have hVok : V.ok := by rw [hV]; exact mdOver_ok _ _
              rw [← hV] at hk
              have c0 : wr.cell? ⟨b6, 0, none⟩ = some (.int .u32 V.a) := hk.cell 0
              have c1 : wr.cell? ⟨b6, 1, none⟩ = some (.int .u32 V.b) := hk.cell 1
              have c2 : wr.cell? ⟨b6, 2, none⟩ = some (.int .u32 V.c) := hk.cell 2
              have c3 : wr.cell? ⟨b6, 3, none⟩ = some (.int .u32 V.d) := hk.cell 3
              have hVF : V = mdOver (mdPad l) ((mdPad l).length / 64) := by rw [hV, HE.out]; congr 1; have := hpi.out; omega
              have HVF := Lib.hid hVF
              have TA := Lib.hid (told_any V wr hVok)
              have HZ2 := Lib.hid hz
              have HB2' := Lib.hid hB4
              clear hV hVok ho hz hk hB4 hVF
              go_wp2_with (go_at_call 53; refine TA.out.mono ?_; rintro e w5 ⟨rfl, hb5⟩; obtain ⟨W6, hst, hbk, hgw⟩ := store_allR (show Blk w5 w.heap.size 47 (zeros 16) from (hb5.block w.heap.size (by have := HB2'.out.size; have := Blk.lt HZ2.out; omega)).trans HZ2.out) (show (partB V 16).length = _ by simp [partB, zeros]) (partB_oneR V 16); have HBK := Lib.hid hbk; have HGW := Lib.hid hgw; have HB5 := Lib.hid hb5; clear hbk hgw hb5)
              have hwr := HB2'.out.size
              have hs5 := HB5.out.size
              have BF : Below w.heap.size w W6 := (HB2'.out.trans (HB5.out.mono hwr)).grown HGW.out (by omega) (fun k e => by cases e; omega)
              rw [← HVF.out]
              exact bodyPost_ret (results_cell_row rfl _ _ w.heap.size 47 _ (0, 0) _ rfl HBK.out Tryd.underlying47 rfl info16R) rfl ⟨rfl, BF⟩
end Go.Proofs.YtdijgmijnoiliaaDoor
