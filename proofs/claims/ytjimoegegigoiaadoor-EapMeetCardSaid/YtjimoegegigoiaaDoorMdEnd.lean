/-
  (md5.words).end: filled up and over the last blocks.
-/
import Derived.Test.YtjimoegegigoiaaDoorMdIter
import Derived.Test.YtjimoegegigoiaaDoorMdTurn
import Derived.Test.YtjimoegegigoiaaDoorMdBytes
import Derived.Test.YtjimoegegigoiaaDoorMdConv
namespace Go.Proofs.YtjimoegegigoiaaDoor
open Go.RowKit Go.Shelf
set_option maxRecDepth 100000
set_option maxHeartbeats 2000000
set_option linter.unusedSimpArgs false
set_option linter.unusedVariables false
attribute [local go_sem] Oper.semAt_some encX agg16

/-- an append whose run is known, as one step of a fenced walk -/
theorem wpListIn_app {F : Fence} {n : Nat} {w : World} {ops : Array Oper} {rest : List Oper} {o : Oper} {a : Act} {Q : Exit → Act → World → Prop} (hgd : o.guard = none) (s x : Operand)
    (ho : o.op = .call { callee := .builtin .append, args := #[s, x], argTypes := #[22, 22] }) (v u : Value) (hs : a.eval s = v) (hx : a.eval x = u)
    (v' : Value) (w2 : World) (hrun : (Builtin.append_ #[22, 22] o.type #[v, u]).run Tryd.prog w = .ok v' w2)
    (h : wpListIn F n Tryd.prog ops Q rest (a.put o.dst v') w2) : wpListIn F n Tryd.prog ops Q (o :: rest) a w := by
  refine wpListIn_plain hgd fun K hK' => ?_
  unfold Oper.wpIn
  refine ⟨?_, ?_⟩
  · simp [Oper.about, ho, resolve, Target.leads, Sem.run_pure]
  · rw [Oper.semAt_plain F _ _ (by rw [ho]; intro c hc'; cases hc')]
    unfold execOp
    simp only [ho, resolve, invoke, builtin, Sem.run_bind, Sem.run_pure, Result.andThen_ok, List.map_toArray, List.map_cons, List.map_nil, hs, hx, hrun]
    exact hK' _ _ h
theorem blk_own {β : Type} (g t : Nat) (f : β → List Value) : _root_.Go.Own (fun (s : β) W => Blk W g t (f s)) := fun s X Y row hs hg hrow =>
  (hg.block g (Blk.lt hs) (fun e => by
    obtain ⟨o, ho, hc⟩ := hrow g e.symm
    rw [show X.heap[g]? = _ from hs] at ho
    cases ho
    cases hc)).trans hs
/-- the cells of sixteen words -/
def cells16 (x : Nat → Int) : List Value := [.int .u32 (x 0), .int .u32 (x 1), .int .u32 (x 2), .int .u32 (x 3), .int .u32 (x 4), .int .u32 (x 5), .int .u32 (x 6), .int .u32 (x 7), .int .u32 (x 8), .int .u32 (x 9), .int .u32 (x 10), .int .u32 (x 11), .int .u32 (x 12), .int .u32 (x 13), .int .u32 (x 14), .int .u32 (x 15)]
theorem store_all {w : World} {g t : Nat} {cs vs : List Value} (h : Blk w g t cs) (hl : vs.length = cs.length) (h1 : ∀ v ∈ vs, v.oneCell' = true) :
    (storeCells ⟨g, 0, none⟩ vs).run Tryd.prog w = .ok () (w.setRow g vs.toArray) ∧ Blk (w.setRow g vs.toArray) g t vs ∧ w.grownBy (w.setRow g vs.toArray) (some g) := by
  have h2 := run_storeCells_from (P := Tryd.prog) g t vs 0 cs.toArray w h (by simp [hl]) h1
  refine ⟨by simpa using h2, setRow_heap w g _ _ t _ h, grown_setRow _⟩
theorem store_all2 {w : World} {g t : Nat} {cs vs : List Value} (h : Blk w g t cs) (hl : vs.length = cs.length) (h1 : ∀ v ∈ vs, v.oneCell' = true) :
    ∃ w', (storeCells ⟨g, 0, none⟩ vs).run Tryd.prog w = .ok () w' ∧ Blk w' g t vs ∧ w.grownBy w' (some g) := ⟨_, store_all h hl h1⟩
theorem cells4_one2 (v : W4) : ∀ x ∈ cells4 v, x.oneCell' = true := by
  intro x hx
  simp [cells4] at hx
  rcases hx with rfl | rfl | rfl | rfl <;> rfl
theorem partB_one (v : W4) (k : Nat) : ∀ x ∈ partB v k, x.oneCell' = true := by
  intro x hx
  obtain ⟨j, _, rfl⟩ := List.mem_map.1 hx
  rfl
theorem info16 : (Tryd.prog.info? 55).map (·.size) = some 16 := by kernel_rfl
def lenIn : Value → Nat
  | .slice _ n _ => n
  | _ => 0
theorem own_empty (w : World) (base : Nat) (hb : base ≤ w.heap.size) : Own (w.alloc (.cells #[] 5)) base (.slice (some ⟨w.heap.size, 0, none⟩) 0 0) [] :=
  ⟨by simp, .inr ⟨w.heap.size, 0, _, rfl, hb, heap_alloc_new w _, Nat.zero_le _, by unfold maxLen; omega, by simp, by simp⟩⟩

theorem end_any (v : W4) (A : Option Addr) (r c B n : Nat) (l : List UInt8) (w : World) (hv : v.ok) (hr : Rd w B A r l) (hB : B ≤ w.heap.size) (hnil : A = none → c = 0) (hr64 : r < 64) (hn : n ≤ 140737488351300) (hK : TabK w) (hS : TabS w) :
    CallsIn Fence.wide 10 Tryd.prog 77 #[.agg #[.int .u32 v.a, .int .u32 v.b, .int .u32 v.c, .int .u32 v.d], .slice A r c, .int .u64 n] w fun e w' => e = .returned (.agg (partB (mdEnd v l n) 16).toArray) ∧ Below w.heap.size w w' := by
  have hl := hr.1
  obtain ⟨V, hV⟩ : ∃ V, V = mdEnd v l n := ⟨_, rfl⟩
  have HVV := Lib.hid hV
  have hVok : V.ok := by rw [hV]; exact mdEnd_ok hv _ _
  have HVok := Lib.hid hVok
  rw [← hV]
  clear hV hVok
  obtain ⟨W1, hW1⟩ : ∃ W1, W1 = (w.alloc (.cells (cells4 v).toArray 136)).alloc (.cells (zeros 16).toArray 55) := ⟨_, rfl⟩
  have s1 : W1.heap.size = w.heap.size + 1 + 1 := by rw [hW1, World.size_alloc, World.size_alloc]
  have z1 : Blk W1 (w.heap.size + 1) 55 (zeros 16) := by rw [hW1]; have h := blk_new (w.alloc (.cells (cells4 v).toArray 136)) 55 (zeros 16); rw [World.size_alloc] at h; exact h
  have u1 : Blk W1 w.heap.size 136 (cells4 v) := by rw [hW1]; exact (Below.heap_alloc _ _ _ (by simp)).trans (blk_new w _ (cells4 v))
  have hr1 : Rd W1 B A r l := by rw [hW1]; exact (hr.alloc hB _).alloc (by simp; omega) _
  have BW1 : Below w.heap.size w W1 := by rw [hW1]; exact ((Below.refl _ _).alloc (Nat.le_refl _) _).alloc (by simp) _
  obtain ⟨v1, w1, r1, o1, g1, b1⟩ := append_run (own_empty W1 W1.heap.size (Nat.le_refl _)) c (hr1.alloc (by omega) (.cells #[] 5)) hnil (by simp; omega) (by simp)
  have B1 : Below W1.heap.size W1 w1 := ((Below.refl _ _).alloc (Nat.le_refl _) _).grown g1 (by simp) (by simp [Value.ownBlock])
  obtain ⟨v2, w2, r2, o2, g2, b2⟩ := append_run (o1.alloc (.cells #[.int .u8 128] 5)) 1 (rd_one w1 128 128 rfl) (by simp) (by simp; omega) (by have := B1.size; simp; omega)
  have B2 : Below W1.heap.size W1 w2 := (B1.alloc B1.size _).grown g2 (by have := B1.size; simp; omega) (by
    intro k hk
    exact (o1.block k hk).1)
  have zz2 : Blk w2 (w.heap.size + 1) 55 (zeros 16) := (B2.block _ (by omega)).trans z1
  have uu2 : Blk w2 w.heap.size 136 (cells4 v) := (B2.block _ (by omega)).trans u1
  have BB2 : Below w.heap.size w w2 := BW1.trans (B2.mono (by omega))
  have O2 := Lib.hid (show Own w2 W1.heap.size v2 (padAt l 0) by rw [padAt_zero]; simpa using o2)
  have Z2 := Lib.hid zz2
  have U2 := Lib.hid uu2
  have BB := Lib.hid BB2
  have R1 := Lib.hid r1
  have R2 := Lib.hid r2
  have HL := Lib.hid hl
  have S1 := Lib.hid s1
  have HV := Lib.hid hv
  have KK := Lib.hid hK
  have SS := Lib.hid hS
  rw [hW1] at R1
  rw [World.size_alloc, World.size_alloc] at R1
  clear o1 o2 g1 g2 b1 b2 B1 B2 hr hr1 hl r1 r2 zz2 uu2 BB2 BW1 z1 u1 s1 hv hK hS
  obtain ⟨base, hbase⟩ : ∃ b, b = W1.heap.size := ⟨_, rfl⟩
  rw [← hbase] at O2 S1
  clear hbase hW1
  refine callsIn_of_wp_marks Tryd.func77 rfl trivial ?_ rfl
  simp only [Tryd.ntmps77, List.size_toArray, List.length_cons, List.length_nil, Nat.reduceAdd, Nat.reduceSub, Array.replicate_succ, Array.replicate_zero, List.push_toArray, List.append_toArray, List.nil_append, List.cons_append]
  gi_wp2_with (first
    | (gi_at_builtin; refine wpListIn_app rfl (.tmp 10) (.tmp 11) rfl _ _ rfl rfl _ _ R1.out ?_)
    | (gi_at_builtin; refine wpListIn_app rfl (.tmp 13) (.tmp 14) rfl _ _ rfl rfl _ _ R2.out ?_))
  gi_loopw [7] (fun vs wr => ∃ j : Nat, j ≤ padN r ∧ Own wr base vs (padAt l j) ∧ Blk wr (w.heap.size + 1) 55 (zeros 16) ∧ Blk wr w.heap.size 136 (cells4 v) ∧ Below w.heap.size w wr) (fun vs _ => r + 65 - lenIn vs)
  case atStart => exact ⟨0, Nat.zero_le _, O2.out, Z2.out, U2.out, BB.out⟩
  case round =>
    obtain ⟨j, hj, ho, hz, hu, hB2⟩ := hrel
    have hlen : (padAt l j).length = r + 1 + j := by rw [padAt_length, HL.out]
    have hp := padN_lt r
    have hsz := hB2.size
    obtain ⟨g0, cap0, rfl, hg, hgl, hcap⟩ : ∃ g0 cap0, _ := by
      rcases ho.form with ⟨e, h0⟩ | h
      · rw [h0] at hlen; simp at hlen; omega
      · exact h
    rw [hlen] at ho hcap ⊢
    by_cases hlt : j < padN r
    · have hne := pad_more r j hlt
      have hne2 : (((r + 1 + j : Nat) : Int).tmod 64 != 56) = true := by
        rw [Int.tmod_eq_emod_of_nonneg (by omega)]
        simp
        omega
      have S1 := S1.out
      obtain ⟨v3, w3, r3, o3, g3, b3⟩ := append_run (ho.alloc (.cells #[.int .u8 0] 5)) 1 (rd_one wr 0 0 rfl) (by simp) (by rw [hlen]; omega) (by simp; omega)
      have G3 : ∀ k, (Value.slice (some ⟨g0, 0, none⟩) (r + 1 + j) cap0).ownBlock = some k → base ≤ k := fun k hk => (ho.block k hk).1
      have hB3 := (hB2.alloc hsz (.cells #[.int .u8 0] 5)).grown g3 (by simp; omega) (fun k hk => by have := G3 k hk; omega)
      have hz3 := Lib.hid ((g3.block (w.heap.size + 1) (by simp; omega) (fun e => by have := G3 _ e.symm; omega)).trans ((Below.heap_alloc wr _ _ (by omega)).trans hz))
      have hu3 := Lib.hid ((g3.block w.heap.size (by simp; omega) (fun e => by have := G3 _ e.symm; omega)).trans ((Below.heap_alloc wr _ _ (by omega)).trans hu))
      rw [← padAt_next] at o3
      have O3 := Lib.hid o3
      have B3 := Lib.hid hB3
      have R3 := Lib.hid r3
      have L3 : Hid (lenIn v3 = r + 1 + (j + 1)) := by
        have hl3 : (padAt l (j + 1)).length = r + 1 + (j + 1) := by rw [padAt_length, HL.out]
        rcases o3.form with ⟨e, h0⟩ | ⟨g', cap', e, _, _, _⟩
        · rw [h0] at hl3; simp at hl3
        · rw [e, ← hl3]; rfl
      clear o3 hB3 r3 g3 b3 G3 ho hz hu hB2 hlen
      gi_wp2_with (gi_at_builtin; refine wpListIn_app rfl (.tmp 20) (.tmp 21) rfl _ _ rfl rfl _ _ R3.out ?_)
      go_roundw
      case rel => exact ⟨j + 1, by omega, O3.out, hz3.out, hu3.out, B3.out⟩
      case measure =>
        have h3 := L3.out
        unfold lenIn at h3
        simp [lenIn]
        omega
    · obtain rfl : j = padN r := by omega
      have hd := pad_done r
      have hne2 : (((r + 1 + padN r : Nat) : Int).tmod 64 != 56) = false := by
        rw [Int.tmod_eq_emod_of_nonneg (by omega)]
        simp
        omega
      have O3 := Lib.hid (show Own wr base (.slice (some ⟨g0, 0, none⟩) (r + 1 + padN r) cap0) (lastAt l n 0) by rw [lastAt_zero, HL.out]; exact ho)
      have Z3 := Lib.hid hz
      have U3 := Lib.hid hu
      have B3 := Lib.hid hB2
      clear ho hz hu hB2 hlen
      gi_wp2
      rename_i hbf _ _
      rw [hbf]
      gi_loopw [7, 23] (fun vs vk ws => ∃ k : Nat, vk = .int .i64 k ∧ k ≤ 8 ∧ Own ws base vs (lastAt l n k) ∧ Blk ws (w.heap.size + 1) 55 (zeros 16) ∧ Blk ws w.heap.size 136 (cells4 v) ∧ Below w.heap.size w ws) (fun _ vk _ => 8 - (intOf vk).toNat)
      case atStart => exact ⟨0, rfl, by omega, O3.out, Z3.out, U3.out, B3.out⟩
      case round =>
        obtain ⟨k, rfl, hk, ho, hz, hu, hB2⟩ := hrel
        have hlen : (lastAt l n k).length = r + 1 + padN r + k := by rw [lastAt_length, HL.out]
        have hsz := hB2.size
        have S1 := S1.out
        obtain ⟨g, cap, rfl, hg, hgl, hcap⟩ : ∃ g cap, _ := by
          rcases ho.form with ⟨e, h0⟩ | h
          · rw [h0] at hlen; simp at hlen; omega
          · exact h
        rw [hlen] at ho hcap ⊢
        by_cases hlt : k < 8
        · obtain ⟨x, hx⟩ : ∃ x : Int, x = 8 * (n : Int) / 2 ^ (8 * k) % 256 := ⟨_, rfl⟩
          have hxb : x = ((sizeByte n k).toNat : Int) := by rw [sizeByte_int]; exact hx
          obtain ⟨v3, w3, r3, o3, g3, b3⟩ := append_run (ho.alloc (.cells #[.int .u8 x] 5)) 1 (rd_one wr (sizeByte n k) x hxb) (by simp) (by rw [hlen]; omega) (by simp; omega)
          have G3 : ∀ i, (Value.slice (some ⟨g, 0, none⟩) (r + 1 + padN r + k) cap).ownBlock = some i → base ≤ i := fun i hi => (ho.block i hi).1
          have hB3 := (hB2.alloc hsz (.cells #[.int .u8 x] 5)).grown g3 (by simp; omega) (fun i hi => by have := G3 i hi; omega)
          have hz3 := Lib.hid ((g3.block (w.heap.size + 1) (by simp; omega) (fun e => by have := G3 _ e.symm; omega)).trans ((Below.heap_alloc wr _ _ (by omega)).trans hz))
          have hu3 := Lib.hid ((g3.block w.heap.size (by simp; omega) (fun e => by have := G3 _ e.symm; omega)).trans ((Below.heap_alloc wr _ _ (by omega)).trans hu))
          rw [← lastAt_next] at o3
          rw [hx] at r3
          have O4 := Lib.hid o3
          have B4 := Lib.hid hB3
          have R4 := Lib.hid r3
          clear o3 hB3 r3 g3 b3 G3 ho hz hu hB2 hlen hx hxb
          gi_wp2_with (gi_at_builtin; refine wpListIn_app rfl (.tmp 26) (.tmp 33) rfl _ _ rfl rfl _ _ R4.out ?_)
          go_roundw
          case rel => exact ⟨k + 1, by go_num, by omega, O4.out, hz3.out, hu3.out, B4.out⟩
          case measure => simp [intOf]; omega
        · obtain rfl : k = 8 := by omega
          rename World => wo
          have HO := Lib.hid ho
          have HZ := Lib.hid hz
          have HU := Lib.hid hu
          have HB := Lib.hid hB2
          clear ho hz hu hB2
          gi_wp2_with (refine ⟨trivial, ?_⟩; gi_at_call 75; refine (blocks_in Fence.wide 9 trivial rfl _ _ _ _).mono ?_; rintro e w' ⟨rfl, rfl⟩)
          have hwsz := HB.out.size
          have e0 : (lastAt l n 8).length = r + 1 + padN r + 8 := by rw [lastAt_length, HL.out]
          have hrd0 := HO.out.rd e0.symm (r + 1 + padN r + 8) (Nat.le_refl _)
          rw [← e0, List.take_length, e0] at hrd0
          obtain ⟨hgb, hgs⟩ := HO.out.block g (by simp [Value.ownBlock])
          have hS1 := S1
          obtain ⟨NN, hNN⟩ : ∃ NN, NN = r + 1 + padN r + 8 := ⟨_, rfl⟩
          rw [← hNN] at hrd0 hcap e0
          have hNm : NN ≤ 140737488351300 := by have := padN_lt r; omega
          obtain ⟨W0, hW0⟩ : ∃ W0, W0 = wo.alloc (.cells #[.slice (some ⟨g, 0, none⟩) NN cap] 22) := ⟨_, rfl⟩
          have hW0s : W0.heap.size = wo.heap.size + 1 := by rw [hW0, World.size_alloc]
          have hBx : W0.cell? ⟨wo.heap.size, 0, none⟩ = some (.slice (some ⟨g, 0, none⟩) NN cap) := by rw [hW0]; exact (blk_new wo 22 [.slice (some ⟨g, 0, none⟩) NN cap]).cell 0
          have hrd1 : Rd W0 wo.heap.size (some ⟨g, 0, none⟩) NN (lastAt l n 8) := by rw [hW0]; exact hrd0.alloc (Nat.le_refl _) _
          have hz0 : Blk W0 (w.heap.size + 1) 55 (zeros 16) := by rw [hW0]; exact (Below.heap_alloc _ _ _ (by omega)).trans HZ.out
          have hu0 : Blk W0 w.heap.size 136 (cells4 v) := by rw [hW0]; exact (Below.heap_alloc _ _ _ (by omega)).trans HU.out
          have hB0 : Below w.heap.size w W0 := by rw [hW0]; exact HB.out.alloc (by omega) _
          rw [← hNN]
          rw [← hW0]
          have HNN := Lib.hid hNN
          have HNM := Lib.hid hNm
          have HE0 := Lib.hid e0
          have HW0 := Lib.hid hW0
          clear hNN hW0 e0 hNm
          refine wpIn_rangeFunc_ownH rfl (by omega) (gf := 101) (lb := #[.pointer (some ⟨wo.heap.size, 0, none⟩)]) rfl trivial (enters_of Tryd.func101 (by kernel_rfl) rfl)
            (blocks_stops 9 (by omega) wo.heap.size wo.heap.size g NN cap (some ⟨g, 0, none⟩) (lastAt l n 8) W0 (by omega) (by omega) hBx hrd1 hcap HNM.out (fun h => nomatch h) (fun _ _ _ _ h => by cases h; rfl)) KeepB.trans (keepB_b (by omega)) (Below.refl _ _) (fun _ => rfl)
            (fun pre W => (Blk W w.heap.size 136 (cells4 (wordsX v pre)) ∧ Blk W (w.heap.size + 1) 55 (zeros 16)) ∧ Below w.heap.size W0 W)
            (fun _ _ _ => False)
            (OwnFrom.and (OwnFrom.and (Own.from (blk_own _ _ _) _) (Own.from (blk_own _ _ _) _)) (ownFrom_below (by omega) (by omega)))
            (fun _ _ _ _ _ hs _ _ => hs)
            ⟨⟨hu0, hz0⟩, Below.refl _ _⟩
            (fun x a' W => ∃ Bx, wo.heap.size < Bx ∧ Blk W Bx 141 (cells16 x.1) ∧ a' = { tmps := #[.agg #[.int .u32 v.a, .int .u32 v.b, .int .u32 v.c, .int .u32 v.d], .slice A r c, .int .u64 n, .pointer (some ⟨w.heap.size, 0, none⟩), undef, undef, .pointer (some ⟨w.heap.size + 1, 0, none⟩), .slice (some ⟨g, 0, none⟩) NN cap, u8, .pointer (some ⟨Bx, 0, none⟩), .slice (some ⟨w.heap.size + 1 + 1, 0, none⟩) 0 0, .slice A r c, v1, v1, .slice (some ⟨w1.heap.size, 0, none⟩) 1 1, v2, .slice (some ⟨g0, 0, none⟩) (r + 1 + padN r) cap0, .int .i64 (r + 1 + padN r), .int .i64 ((r + 1 + padN r) % 64), .bool false, u20, u21, u22, .int .i64 8, .bool false, u25, u26, u27, u28, u29, u30, u31, u32, u33, u34, u35, .slice (some ⟨g, 0, none⟩) NN cap, .func (.func 101) #[] #[.pointer (some ⟨wo.heap.size, 0, none⟩)], agg16 x.1, undef, undef, undef, undef], defers := [] })
            (fun x a' _ X Y row hs hg hr => by obtain ⟨Bx, h1, h2, h3⟩ := hs; exact ⟨Bx, h1, blk_own Bx _ (fun (_ : Unit) => cells16 x.1) () X Y row h2 hg (fun r e => (hr r e).2), h3⟩)
            ?assign ?body ?done ?stop
          case assign =>
            rintro lp pre x W K ⟨⟨hu1, hz1⟩, hB1⟩ hK
            have hsz1 := hB1.size
            gi_wp2
            exact hK _ _ ((KeepsOthers.alloc _ _).from _) (KeepB.below ((Below.refl W.heap.size W).alloc (Nat.le_refl _) _) (by omega))
              ⟨⟨(Below.heap_alloc _ _ _ (by omega)).trans hu1, (Below.heap_alloc _ _ _ (by omega)).trans hz1⟩, hB1.alloc (by omega) _⟩ ⟨W.heap.size, by omega, blk_new W 141 (cells16 x.1), rfl⟩
          case body =>
            rintro lp pre x a' W hlp ⟨rr, hrr⟩ ⟨⟨hu1, hz1⟩, hB1⟩ ⟨Bx, hBx2, hX, rfl⟩ hlt
            have hsz1 := hB1.size
            have hBw : Below w.heap.size w W := hB0.trans hB1
            have x0 : W.cell? ⟨Bx, 0, none⟩ = some (.int .u32 (x.1 0)) := hX.cell 0
            have x1 : W.cell? ⟨Bx, 1, none⟩ = some (.int .u32 (x.1 1)) := hX.cell 1
            have x2 : W.cell? ⟨Bx, 2, none⟩ = some (.int .u32 (x.1 2)) := hX.cell 2
            have x3 : W.cell? ⟨Bx, 3, none⟩ = some (.int .u32 (x.1 3)) := hX.cell 3
            have x4 : W.cell? ⟨Bx, 4, none⟩ = some (.int .u32 (x.1 4)) := hX.cell 4
            have x5 : W.cell? ⟨Bx, 5, none⟩ = some (.int .u32 (x.1 5)) := hX.cell 5
            have x6 : W.cell? ⟨Bx, 6, none⟩ = some (.int .u32 (x.1 6)) := hX.cell 6
            have x7 : W.cell? ⟨Bx, 7, none⟩ = some (.int .u32 (x.1 7)) := hX.cell 7
            have x8 : W.cell? ⟨Bx, 8, none⟩ = some (.int .u32 (x.1 8)) := hX.cell 8
            have x9 : W.cell? ⟨Bx, 9, none⟩ = some (.int .u32 (x.1 9)) := hX.cell 9
            have x10 : W.cell? ⟨Bx, 10, none⟩ = some (.int .u32 (x.1 10)) := hX.cell 10
            have x11 : W.cell? ⟨Bx, 11, none⟩ = some (.int .u32 (x.1 11)) := hX.cell 11
            have x12 : W.cell? ⟨Bx, 12, none⟩ = some (.int .u32 (x.1 12)) := hX.cell 12
            have x13 : W.cell? ⟨Bx, 13, none⟩ = some (.int .u32 (x.1 13)) := hX.cell 13
            have x14 : W.cell? ⟨Bx, 14, none⟩ = some (.int .u32 (x.1 14)) := hX.cell 14
            have x15 : W.cell? ⟨Bx, 15, none⟩ = some (.int .u32 (x.1 15)) := hX.cell 15
            have TA := Lib.hid (turn_any w.heap.size (wordsX v pre) x.1 W (wordsX_ok HV.out _) x.2 hu1 (KK.out.kept hBw) (SS.out.kept hBw))
            have HU1 := Lib.hid hu1
            have HZ1 := Lib.hid hz1
            have HB1 := Lib.hid hB1
            clear hu1 hz1 hX hBw hB1
            gi_wp2_with (refine ⟨trivial, ?_⟩; gi_at_call 76; refine (CallsIn.inRound lp (callsIn_wide.2 TA.out)).mono ?_; rintro e w' ⟨rfl, hb', hg'⟩)
            exact ⟨KeepsFrom.of_grownBy hg' (fun j e => by cases e; omega), KeepB.grown hg' (by omega) (by intro e; injection e with e; omega),
              ⟨by rw [wordsX_snoc]; exact hb', (hg'.block (w.heap.size + 1) (by omega) (by intro e; injection e with e; omega)).trans HZ1.out⟩, HB1.out.grown hg' (by omega) (fun k e => by cases e; omega)⟩
          case done =>
            rintro D ys W hD rfl ⟨⟨hu1, hz1⟩, hB1⟩ hK
            have hsz1 := hB1.size
            rw [wordsX_upto] at hu1
            rw [show NN / 64 = (lastAt l n 8).length / 64 by rw [HE0.out]] at hu1
            rw [show mdFrom v (lastAt l n 8) ((lastAt l n 8).length / 64) = V from HVV.out.symm] at hu1
            have c0 : W.cell? ⟨w.heap.size, 0, none⟩ = some (.int .u32 V.a) := hu1.cell 0
            have c1 : W.cell? ⟨w.heap.size, 1, none⟩ = some (.int .u32 V.b) := hu1.cell 1
            have c2 : W.cell? ⟨w.heap.size, 2, none⟩ = some (.int .u32 V.c) := hu1.cell 2
            have c3 : W.cell? ⟨w.heap.size, 3, none⟩ = some (.int .u32 V.d) := hu1.cell 3
            have BA := Lib.hid (bytes_any V W HVok.out)
            have HU1 := Lib.hid hu1
            have HZ1 := Lib.hid hz1
            have HB1 := Lib.hid hB1
            have HK := Lib.hid hK
            clear hu1 hz1 hB1 hK
            gi_wp2_with (refine ⟨trivial, ?_⟩; gi_at_call 103; refine (callsIn_wide.2 BA.out).mono ?_; rintro e w' ⟨rfl, hb'⟩; obtain ⟨hst, hbk, hgw⟩ := store_all (show Blk w' (w.heap.size + 1) 55 (zeros 16) from (hb'.block _ (by omega)).trans HZ1.out) (show (partB V 16).length = _ by simp [partB, zeros]) (partB_one V 16); have HBK := Lib.hid hbk; have HGW := Lib.hid hgw; have HB' := Lib.hid hb'; clear hbk hgw hb')
            have hKD := HK.out
            have hDlt := (Array.getElem?_eq_some_iff.1 hKD).1
            have hsw := HB'.out.size
            have hK2 : (w'.setRow (w.heap.size + 1) (partB V 16).toArray).heap[D]? = some (.deferred (some [])) := (HGW.out.block D (by omega) (by intro e; injection e with e; omega)).trans ((HB'.out.block D hDlt).trans hKD)
            have BF : Below w.heap.size w (w'.setRow (w.heap.size + 1) (partB V 16).toArray) := ((hB0.trans HB1.out).trans (HB'.out.mono (by omega))).grown HGW.out (by omega) (fun k e => by cases e; omega)
            refine ⟨by simp, .inl ⟨_, _, rfl, run_takeDeferred hK2, ?_⟩⟩
            have hbk3 : Blk ((w'.setRow (w.heap.size + 1) (partB V 16).toArray).putObj D (.deferred none)) (w.heap.size + 1) 55 (partB V 16) := (World.putObj_heap_other (by omega)).trans HBK.out
            exact ⟨_, results_cell_row rfl _ _ (w.heap.size + 1) 55 _ (0, 0) _ rfl hbk3 Tryd.underlying55 rfl info16, rfl, BF.trans (belowK_b (w := w) (Nat.le_refl _) _ D _ _ (by omega) hK2 rfl rfl)⟩
          case stop =>
            rintro D c pre W _ _ h _
            exact h.elim
end Go.Proofs.YtjimoegegigoiaaDoor
