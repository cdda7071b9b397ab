/-
  (packet).four of the chapter's example.
-/
import Derived.Test.YtjkdlmielckaaaaDoorIpBuild
import Derived.Test.YtjkdlmielckaaaaDoorNewReader
import Derived.Great.BuildSlice
import Derived.Great.Walk
namespace Go.Proofs.YtjkdlmielckaaaaDoor
open Go.RowKit
set_option maxRecDepth 100000
set_option maxHeartbeats 4000000
set_option linter.unusedSimpArgs false
set_option linter.unusedVariables false

/-- the reader, the fields that are being filled, the cell of the result: what lies in memory between two steps -/
structure PSt (w W : World) (gr gf g2 B : Nat) (r : List UInt8) (cs zs : List Value) : Prop where
  oct : OctAt W B gr r 0
  row : Blk W gf 25 cs
  res : Blk W g2 25 zs
  bel : Below w.heap.size w W
  n1 : gr ≠ gf
  n2 : gr ≠ g2
  n3 : gf ≠ g2
  l1 : w.heap.size ≤ gr
  l2 : w.heap.size ≤ gf
  l3 : w.heap.size ≤ g2
  lb : B ≤ gf
theorem PSt.rd {w W : World} {gr gf g2 B : Nat} {r : List UInt8} {cs zs : List Value} (h : PSt w W gr gf g2 B r cs zs) (n : Nat) (z : Int) (r' : List UInt8) (h1 : 1 ≤ n) (h8 : n ≤ 8) (hl : n ≤ r.length) (hz : num r n = z) (hr : r.drop n = r') :
    Calls Tryd.prog 20 #[.pointer (some ⟨gr, 0, none⟩), .int .i64 (n : Int)] W fun e W' => e = .returned (.int .u64 z) ∧ Hid (PSt w W' gr gf g2 B r' cs zs) := by
  refine (onum_any B gr n r 0 W h.oct).mono ?_
  rintro e W' ⟨rfl, ho, hg⟩
  have he : nmErr r 0 n = 0 := by
    unfold nmErr
    rw [if_neg (by simp), if_neg (by simp; omega), if_neg (by omega)]
  have hv : nmVal r 0 n = z := by unfold nmVal; rw [he, if_pos rfl, Int.toNat_natCast, hz]
  have hq : nmRest r 0 n = r' := by unfold nmRest; rw [he, if_pos rfl, Int.toNat_natCast, hr]
  rw [hv]
  rw [hq, he] at ho
  exact ⟨rfl, ho, (hg.block gf h.row.lt (by simpa using h.n1.symm)).trans h.row, (hg.block g2 h.res.lt (by simpa using h.n2.symm)).trans h.res,
    h.bel.grown hg h.bel.size (fun k e => by cases e; exact h.l1), h.n1, h.n2, h.n3, h.l1, h.l2, h.l3, h.lb⟩
theorem PSt.store {w W : World} {gr gf g2 B : Nat} {r : List UInt8} {cs zs : List Value} (h : PSt w W gr gf g2 B r cs zs) (k : Nat) (v : Value) : PSt w (W.setCell ⟨gf, k, none⟩ v) gr gf g2 B r (cs.set k v) zs := by
  have hg := only_set (w := W) (p := ⟨gf, k, none⟩) v
  refine ⟨⟨h.oct.1.newer hg (fun q e => by cases e; exact h.lb), h.oct.2⟩, h.row.set_ k v, (hg.block g2 h.res.lt (by simpa using h.n3.symm)).trans h.res, h.bel.grown hg h.bel.size (fun k e => by cases e; exact h.l2), h.n1, h.n2, h.n3, h.l1, h.l2, h.l3, h.lb⟩
theorem results_row_tmp {P : Program} {fn : Func} {c t : Tmp} {ty : TypeId} (h : fn.results = #[.cell c ty, .tmp t]) (tmps : Array Value) (w : World) (g : Nat) (tt : TypeId) (cs : Array Value) (d : TypeDesc)
    (hc : tmps.getD c undef = .pointer (some ⟨g, 0, none⟩)) (hg : w.heap[g]? = some (.cells cs tt (0, 0))) (hu : P.underlying ty = some d) (hd : (match d with | .struct _ | .array _ _ => true | _ => false) = true) (hi : (P.info? ty).map (·.size) = some cs.size) :
    (results fn tmps).run P w = .ok (.tuple #[.agg cs, tmps.getD t undef]) w := by
  have hp' : tmps[c]?.getD undef = .pointer (some ⟨g, 0, none⟩) := by simpa using hc
  simp [results, h, hp', asAddr, run_loadVar_row w g tt ty cs (0, 0) d hg hu hd hi]
theorem PSt.rd1 {w W : World} {gr gf g2 B : Nat} {r : List UInt8} {cs zs : List Value} (h : PSt w W gr gf g2 B r cs zs) (z : Int) (r' : List UInt8) (hl : 1 ≤ r.length) (hz : num r 1 = z) (hr : r.drop 1 = r') :
    Calls Tryd.prog 20 #[.pointer (some ⟨gr, 0, none⟩), .int .i64 1] W fun e W' => e = .returned (.int .u64 z) ∧ Hid (PSt w W' gr gf g2 B r' cs zs) := h.rd 1 z r' (by decide) (by decide) hl hz hr
theorem PSt.rd2 {w W : World} {gr gf g2 B : Nat} {r : List UInt8} {cs zs : List Value} (h : PSt w W gr gf g2 B r cs zs) (z : Int) (r' : List UInt8) (hl : 2 ≤ r.length) (hz : num r 2 = z) (hr : r.drop 2 = r') :
    Calls Tryd.prog 20 #[.pointer (some ⟨gr, 0, none⟩), .int .i64 2] W fun e W' => e = .returned (.int .u64 z) ∧ Hid (PSt w W' gr gf g2 B r' cs zs) := h.rd 2 z r' (by decide) (by decide) hl hz hr
theorem PSt.rd4 {w W : World} {gr gf g2 B : Nat} {r : List UInt8} {cs zs : List Value} (h : PSt w W gr gf g2 B r cs zs) (z : Int) (r' : List UInt8) (hl : 4 ≤ r.length) (hz : num r 4 = z) (hr : r.drop 4 = r') :
    Calls Tryd.prog 20 #[.pointer (some ⟨gr, 0, none⟩), .int .i64 4] W fun e W' => e = .returned (.int .u64 z) ∧ Hid (PSt w W' gr gf g2 B r' cs zs) := h.rd 4 z r' (by decide) (by decide) hl hz hr
def ipF1 : List Value := [.int .i64 4, .int .i64 0, .int .i64 0, .int .i64 0, .int .i64 0, .int .i64 0, .bool false, .bool false, .int .i64 0, .int .i64 0, .int .i64 0, .int .i64 0, .int .i64 0, .int .u8 0, .int .u8 0, .int .u8 0, .int .u8 0, .int .u8 0, .int .u8 0, .int .u8 0, .int .u8 0, .int .u8 0, .int .u8 0, .int .u8 0, .int .u8 0, .int .u8 0, .int .u8 0, .int .u8 0, .int .u8 0, .int .u8 0, .int .u8 0, .int .u8 0, .int .u8 0, .int .u8 0, .int .u8 0, .int .u8 0, .int .u8 0, .int .u8 0, .int .u8 0, .int .u8 0, .int .u8 0, .int .u8 0, .int .u8 0, .int .u8 0, .int .u8 0, .bool false, .int .i64 0, .int .i64 0, .int .i64 0, .int .i64 0, .int .i64 0]
/-- the example's fields as four reads them -/
def ipF2 : List Value := [.int .i64 4, .int .i64 0, .int .i64 0, .int .i64 28, .int .i64 20, .int .i64 0, .bool false, .bool false, .int .i64 0, .int .i64 64, .int .i64 17, .int .i64 167772161, .int .i64 167772162, .int .u8 0, .int .u8 0, .int .u8 0, .int .u8 0, .int .u8 0, .int .u8 0, .int .u8 0, .int .u8 0, .int .u8 0, .int .u8 0, .int .u8 0, .int .u8 0, .int .u8 0, .int .u8 0, .int .u8 0, .int .u8 0, .int .u8 0, .int .u8 0, .int .u8 0, .int .u8 0, .int .u8 0, .int .u8 0, .int .u8 0, .int .u8 0, .int .u8 0, .int .u8 0, .int .u8 0, .int .u8 0, .int .u8 0, .int .u8 0, .int .u8 0, .int .u8 0, .bool false, .int .i64 0, .int .i64 0, .int .i64 0, .int .i64 0, .int .i64 0]
theorem fresh_row2 (W1 : World) (t : Nat) (vs : List Value) (hl : vs.length = 51) (h1 : ∀ v ∈ vs, v.oneCell' = true) :
    ∃ W3, (storeCells ⟨W1.heap.size, 0, none⟩ vs).run Tryd.prog (W1.alloc (.cells (.int .i64 0 :: .int .i64 0 :: .int .i64 0 :: .int .i64 0 :: .int .i64 0 :: .int .i64 0 :: .bool false :: .bool false :: .int .i64 0 :: .int .i64 0 :: .int .i64 0 :: .int .i64 0 :: .int .i64 0 :: .int .u8 0 :: .int .u8 0 :: .int .u8 0 :: .int .u8 0 :: .int .u8 0 :: .int .u8 0 :: .int .u8 0 :: .int .u8 0 :: .int .u8 0 :: .int .u8 0 :: .int .u8 0 :: .int .u8 0 :: .int .u8 0 :: .int .u8 0 :: .int .u8 0 :: .int .u8 0 :: .int .u8 0 :: .int .u8 0 :: .int .u8 0 :: .int .u8 0 :: .int .u8 0 :: .int .u8 0 :: .int .u8 0 :: .int .u8 0 :: .int .u8 0 :: .int .u8 0 :: .int .u8 0 :: .int .u8 0 :: .int .u8 0 :: .int .u8 0 :: .int .u8 0 :: .int .u8 0 :: .bool false :: .int .i64 0 :: .int .i64 0 :: .int .i64 0 :: .int .i64 0 :: .int .i64 0 :: []).toArray t)) = .ok () W3 ∧ Blk W3 W1.heap.size t vs ∧ Below W1.heap.size W1 W3 := fresh_row W1 t vs hl h1
theorem ipF1_one : ∀ v ∈ ipF1, v.oneCell' = true := by decide
theorem ipF2_one : ∀ v ∈ ipF2, v.oneCell' = true := by decide
theorem ipF1_len : ipF1.length = 51 := by rfl
theorem ipF2_len : ipF2.length = 51 := by rfl
theorem exH_sum : sumZ exH = 0 := by decide +kernel
theorem nm0 : num exH 1 = 69 := by decide +kernel
theorem dr0 : List.drop 1 exH = [0, 0, 28, 0, 0, 0, 0, 64, 17, 102, 207, 10, 0, 0, 1, 10, 0, 0, 2] := by rfl
theorem ll0 : 1 ≤ List.length exH := by decide
theorem nm1 : num ([0, 0, 28, 0, 0, 0, 0, 64, 17, 102, 207, 10, 0, 0, 1, 10, 0, 0, 2] : List UInt8) 1 = 0 := by decide +kernel
theorem dr1 : List.drop 1 ([0, 0, 28, 0, 0, 0, 0, 64, 17, 102, 207, 10, 0, 0, 1, 10, 0, 0, 2] : List UInt8) = [0, 28, 0, 0, 0, 0, 64, 17, 102, 207, 10, 0, 0, 1, 10, 0, 0, 2] := by rfl
theorem ll1 : 1 ≤ List.length ([0, 0, 28, 0, 0, 0, 0, 64, 17, 102, 207, 10, 0, 0, 1, 10, 0, 0, 2] : List UInt8) := by decide
theorem nm2 : num ([0, 28, 0, 0, 0, 0, 64, 17, 102, 207, 10, 0, 0, 1, 10, 0, 0, 2] : List UInt8) 2 = 28 := by decide +kernel
theorem dr2 : List.drop 2 ([0, 28, 0, 0, 0, 0, 64, 17, 102, 207, 10, 0, 0, 1, 10, 0, 0, 2] : List UInt8) = [0, 0, 0, 0, 64, 17, 102, 207, 10, 0, 0, 1, 10, 0, 0, 2] := by rfl
theorem ll2 : 2 ≤ List.length ([0, 28, 0, 0, 0, 0, 64, 17, 102, 207, 10, 0, 0, 1, 10, 0, 0, 2] : List UInt8) := by decide
theorem nm3 : num ([0, 0, 0, 0, 64, 17, 102, 207, 10, 0, 0, 1, 10, 0, 0, 2] : List UInt8) 2 = 0 := by decide +kernel
theorem dr3 : List.drop 2 ([0, 0, 0, 0, 64, 17, 102, 207, 10, 0, 0, 1, 10, 0, 0, 2] : List UInt8) = [0, 0, 64, 17, 102, 207, 10, 0, 0, 1, 10, 0, 0, 2] := by rfl
theorem ll3 : 2 ≤ List.length ([0, 0, 0, 0, 64, 17, 102, 207, 10, 0, 0, 1, 10, 0, 0, 2] : List UInt8) := by decide
theorem nm4 : num ([0, 0, 64, 17, 102, 207, 10, 0, 0, 1, 10, 0, 0, 2] : List UInt8) 2 = 0 := by decide +kernel
theorem dr4 : List.drop 2 ([0, 0, 64, 17, 102, 207, 10, 0, 0, 1, 10, 0, 0, 2] : List UInt8) = [64, 17, 102, 207, 10, 0, 0, 1, 10, 0, 0, 2] := by rfl
theorem ll4 : 2 ≤ List.length ([0, 0, 64, 17, 102, 207, 10, 0, 0, 1, 10, 0, 0, 2] : List UInt8) := by decide
theorem nm5 : num ([64, 17, 102, 207, 10, 0, 0, 1, 10, 0, 0, 2] : List UInt8) 1 = 64 := by decide +kernel
theorem dr5 : List.drop 1 ([64, 17, 102, 207, 10, 0, 0, 1, 10, 0, 0, 2] : List UInt8) = [17, 102, 207, 10, 0, 0, 1, 10, 0, 0, 2] := by rfl
theorem ll5 : 1 ≤ List.length ([64, 17, 102, 207, 10, 0, 0, 1, 10, 0, 0, 2] : List UInt8) := by decide
theorem nm6 : num ([17, 102, 207, 10, 0, 0, 1, 10, 0, 0, 2] : List UInt8) 1 = 17 := by decide +kernel
theorem dr6 : List.drop 1 ([17, 102, 207, 10, 0, 0, 1, 10, 0, 0, 2] : List UInt8) = [102, 207, 10, 0, 0, 1, 10, 0, 0, 2] := by rfl
theorem ll6 : 1 ≤ List.length ([17, 102, 207, 10, 0, 0, 1, 10, 0, 0, 2] : List UInt8) := by decide
theorem nm7 : num ([102, 207, 10, 0, 0, 1, 10, 0, 0, 2] : List UInt8) 2 = 26319 := by decide +kernel
theorem dr7 : List.drop 2 ([102, 207, 10, 0, 0, 1, 10, 0, 0, 2] : List UInt8) = [10, 0, 0, 1, 10, 0, 0, 2] := by rfl
theorem ll7 : 2 ≤ List.length ([102, 207, 10, 0, 0, 1, 10, 0, 0, 2] : List UInt8) := by decide
theorem nm8 : num ([10, 0, 0, 1, 10, 0, 0, 2] : List UInt8) 4 = 167772161 := by decide +kernel
theorem dr8 : List.drop 4 ([10, 0, 0, 1, 10, 0, 0, 2] : List UInt8) = [10, 0, 0, 2] := by rfl
theorem ll8 : 4 ≤ List.length ([10, 0, 0, 1, 10, 0, 0, 2] : List UInt8) := by decide
theorem nm9 : num ([10, 0, 0, 2] : List UInt8) 4 = 167772162 := by decide +kernel
theorem dr9 : List.drop 4 ([10, 0, 0, 2] : List UInt8) = [] := by rfl
theorem ll9 : 4 ≤ List.length ([10, 0, 0, 2] : List UInt8) := by decide

theorem four_ex (b o c : Nat) (l : List UInt8) (w : World) (hr : Rd w w.heap.size (some ⟨b, o, none⟩) 28 l) (hl : l.take 20 = exH) (hc : 28 ≤ c) :
    Calls Tryd.prog 12 #[.slice (some ⟨b, o, none⟩) 28 c] w fun e w' => e = .returned (.tuple #[.agg ipF2.toArray, .int .i64 0]) ∧ Below w.heap.size w w' := by
  obtain ⟨W1, hW1⟩ : ∃ W1, w.alloc (.cells (.int .i64 0 :: .int .i64 0 :: .int .i64 0 :: .int .i64 0 :: .int .i64 0 :: .int .i64 0 :: .bool false :: .bool false :: .int .i64 0 :: .int .i64 0 :: .int .i64 0 :: .int .i64 0 :: .int .i64 0 :: .int .u8 0 :: .int .u8 0 :: .int .u8 0 :: .int .u8 0 :: .int .u8 0 :: .int .u8 0 :: .int .u8 0 :: .int .u8 0 :: .int .u8 0 :: .int .u8 0 :: .int .u8 0 :: .int .u8 0 :: .int .u8 0 :: .int .u8 0 :: .int .u8 0 :: .int .u8 0 :: .int .u8 0 :: .int .u8 0 :: .int .u8 0 :: .int .u8 0 :: .int .u8 0 :: .int .u8 0 :: .int .u8 0 :: .int .u8 0 :: .int .u8 0 :: .int .u8 0 :: .int .u8 0 :: .int .u8 0 :: .int .u8 0 :: .int .u8 0 :: .int .u8 0 :: .int .u8 0 :: .bool false :: .int .i64 0 :: .int .i64 0 :: .int .i64 0 :: .int .i64 0 :: .int .i64 0 :: []).toArray 25) = W1 := ⟨_, rfl⟩
  have kz : Blk W1 w.heap.size 25 ipZ := by rw [← hW1]; exact blk_new w _ ipZ
  have B1 : Below w.heap.size w W1 := by rw [← hW1]; exact (Below.refl _ _).alloc (Nat.le_refl _) _
  have s1 : W1.heap.size = w.heap.size + 1 := by rw [← hW1]; simp
  have h20 : Rd w w.heap.size (some ⟨b, o, none⟩) 20 exH := by have h := hr.front (k := 20) (by decide); rw [hl] at h; exact h
  have H20 := Lib.hid h20
  have NR := Lib.hid (newreader_any (some ⟨b, o, none⟩) 20 20 _ exH W1 (h20.below B1) B1.size (by decide))
  have HI : Hid ((Tryd.prog.info? 25).map (·.size) = some ipF2.toArray.size) := info25
  have len1 := ipF1_len
  have len2 := ipF2_len
  have b1 : bits .and .i64 0 16384 = 0 := by decide
  have b2 : bits .and .i64 0 8192 = 0 := by decide
  have b3 : bits .and .i64 0 8191 = 0 := by decide
  have b4 : bits .and .i64 0 32768 = 0 := by decide
  have HKZ := Lib.hid kz
  have HB1 := Lib.hid B1
  have HS1 := Lib.hid s1
  clear kz B1 s1 h20 hr
  go_enter Tryd.func12, Tryd.ntmps12
  go_upto_region 2 with (go_at_call 19; ((with_reducible refine NR.out.mono ?_); rintro e w2 ⟨gr, rfl, hg1, hg2, hb2, ho2⟩))
  have k3 : Blk ((w2.alloc (.cells ipZ.toArray 25)).setRow w2.heap.size ipF1.toArray) w2.heap.size 25 ipF1 := setRow_heap _ _ _ _ _ _ (blk_new w2 25 ipZ)
  have B3 : Below w2.heap.size w2 ((w2.alloc (.cells ipZ.toArray 25)).setRow w2.heap.size ipF1.toArray) := ((Below.refl _ _).alloc (Nat.le_refl _) _).grown (grown_setRow _) (by simp) (fun k e => by cases e; exact Nat.le_refl _)
  refine wp_region_lit ?_
  refine wpList_buildTo rfl 25 _ rfl (some 10) rfl ipF1.toArray (by kernel_rfl) ?_
  refine Great.wpList_allocTo rfl (some 5) rfl (.pointer (some ⟨w2.heap.size, 0, none⟩)) (.cells ipZ.toArray 25) (by kernel_rfl) ?_
  refine wpList_store_rowTo rfl 25 _ _ rfl rfl w2.heap.size ipF1.toArray rfl rfl 25 ipZ.toArray (blk_new w2 25 ipZ) info25 rfl (by kernel_rfl) ?_
  refine wpList_nil ?_
  obtain ⟨W3, hW3⟩ : ∃ W3, (w2.alloc (.cells ipZ.toArray 25)).setRow w2.heap.size ipF1.toArray = W3 := ⟨_, rfl⟩
  rw [hW3] at k3 B3 ⊢
  try simp only [Act.put, List.setIfInBounds_toArray, List.set_cons_zero, List.set_cons_succ]
  have hz1 := HS1.out
  have S0 : Hid (PSt w W3 gr w2.heap.size w.heap.size w2.heap.size exH ipF1 ipZ) := Lib.hid
    ⟨(ho2 w2 none (World.grownBy.refl _ _) (by simp)).later B3, k3, (B3.block _ (by have := hb2.size; omega)).trans ((hb2.block _ (by omega)).trans HKZ.out),
      (HB1.out.trans (hb2.mono HB1.out.size)).trans (B3.mono (by have := hb2.size; omega)), by omega, by omega, by have := hb2.size; omega, by omega, by have := hb2.size; omega, Nat.le_refl _, Nat.le_refl _⟩
  clear k3 B3 hg1 hg2 hb2 ho2 hz1 hW3
  go_upto_region 28 with (first
    | (go_at_call 20; ((with_reducible refine ((S0.out).rd1 69 [0, 0, 28, 0, 0, 0, 0, 64, 17, 102, 207, 10, 0, 0, 1, 10, 0, 0, 2] ll0 nm0 dr0).mono ?_); rintro e w3 ⟨rfl, S1⟩; have c0_4 : w3.cell? ⟨w2.heap.size, 4, none⟩ = some (.int .i64 0) := S1.out.row.cell 4; have f0_4 : w3.frozen? ⟨w2.heap.size, 4, none⟩ = false := S1.out.row.frozen 4))
    | (go_at_call 20; ((with_reducible refine (((S1.out).store 4 (.int .i64 20)).rd1 0 [0, 28, 0, 0, 0, 0, 64, 17, 102, 207, 10, 0, 0, 1, 10, 0, 0, 2] ll1 nm1 dr1).mono ?_); rintro e w4 ⟨rfl, S2⟩; have c1_1 : w4.cell? ⟨w2.heap.size, 1, none⟩ = some (.int .i64 0) := S2.out.row.cell 1; have f1_1 : w4.frozen? ⟨w2.heap.size, 1, none⟩ = false := S2.out.row.frozen 1))
    | (go_at_call 20; ((with_reducible refine (((S2.out).store 1 (.int .i64 0)).rd2 28 [0, 0, 0, 0, 64, 17, 102, 207, 10, 0, 0, 1, 10, 0, 0, 2] ll2 nm2 dr2).mono ?_); rintro e w5 ⟨rfl, S3⟩; have c2_3 : w5.cell? ⟨w2.heap.size, 3, none⟩ = some (.int .i64 0) := S3.out.row.cell 3; have f2_3 : w5.frozen? ⟨w2.heap.size, 3, none⟩ = false := S3.out.row.frozen 3))
    | (go_at_call 20; ((with_reducible refine (((S3.out).store 3 (.int .i64 28)).rd2 0 [0, 0, 64, 17, 102, 207, 10, 0, 0, 1, 10, 0, 0, 2] ll3 nm3 dr3).mono ?_); rintro e w6 ⟨rfl, S4⟩; have c3_5 : w6.cell? ⟨w2.heap.size, 5, none⟩ = some (.int .i64 0) := S4.out.row.cell 5; have f3_5 : w6.frozen? ⟨w2.heap.size, 5, none⟩ = false := S4.out.row.frozen 5))
    | (go_at_call 20; ((with_reducible refine (((S4.out).store 5 (.int .i64 0)).rd2 0 [64, 17, 102, 207, 10, 0, 0, 1, 10, 0, 0, 2] ll4 nm4 dr4).mono ?_); rintro e w7 ⟨rfl, S5⟩; have c4_6 : w7.cell? ⟨w2.heap.size, 6, none⟩ = some (.bool false) := S5.out.row.cell 6; have f4_6 : w7.frozen? ⟨w2.heap.size, 6, none⟩ = false := S5.out.row.frozen 6; have c4_7 : w7.cell? ⟨w2.heap.size, 7, none⟩ = some (.bool false) := S5.out.row.cell 7; have f4_7 : w7.frozen? ⟨w2.heap.size, 7, none⟩ = false := S5.out.row.frozen 7; have c4_8 : w7.cell? ⟨w2.heap.size, 8, none⟩ = some (.int .i64 0) := S5.out.row.cell 8; have f4_8 : w7.frozen? ⟨w2.heap.size, 8, none⟩ = false := S5.out.row.frozen 8))
    | (go_at_call 20; ((with_reducible refine (((((S5.out).store 6 (.bool false)).store 7 (.bool false)).store 8 (.int .i64 0)).rd1 64 [17, 102, 207, 10, 0, 0, 1, 10, 0, 0, 2] ll5 nm5 dr5).mono ?_); rintro e w8 ⟨rfl, S6⟩; have c5_9 : w8.cell? ⟨w2.heap.size, 9, none⟩ = some (.int .i64 0) := S6.out.row.cell 9; have f5_9 : w8.frozen? ⟨w2.heap.size, 9, none⟩ = false := S6.out.row.frozen 9))
    | (go_at_call 20; ((with_reducible refine (((S6.out).store 9 (.int .i64 64)).rd1 17 [102, 207, 10, 0, 0, 1, 10, 0, 0, 2] ll6 nm6 dr6).mono ?_); rintro e w9 ⟨rfl, S7⟩; have c6_10 : w9.cell? ⟨w2.heap.size, 10, none⟩ = some (.int .i64 0) := S7.out.row.cell 10; have f6_10 : w9.frozen? ⟨w2.heap.size, 10, none⟩ = false := S7.out.row.frozen 10))
    | (go_at_call 20; ((with_reducible refine (((S7.out).store 10 (.int .i64 17)).rd2 26319 [10, 0, 0, 1, 10, 0, 0, 2] ll7 nm7 dr7).mono ?_); rintro e w10 ⟨rfl, S8⟩))
    | (go_at_call 20; ((with_reducible refine ((S8.out).rd4 167772161 [10, 0, 0, 2] ll8 nm8 dr8).mono ?_); rintro e w11 ⟨rfl, S9⟩; have c8_11 : w11.cell? ⟨w2.heap.size, 11, none⟩ = some (.int .i64 0) := S9.out.row.cell 11; have f8_11 : w11.frozen? ⟨w2.heap.size, 11, none⟩ = false := S9.out.row.frozen 11))
    | (go_at_call 20; ((with_reducible refine (((S9.out).store 11 (.int .i64 167772161)).rd4 167772162 [] ll9 nm9 dr9).mono ?_); rintro e w12 ⟨rfl, S10⟩; have c9_12 : w12.cell? ⟨w2.heap.size, 12, none⟩ = some (.int .i64 0) := S10.out.row.cell 12; have f9_12 : w12.frozen? ⟨w2.heap.size, 12, none⟩ = false := S10.out.row.frozen 12; have c9_3 : w12.cell? ⟨w2.heap.size, 3, none⟩ = some (.int .i64 28) := S10.out.row.cell 3; have c9_4 : w12.cell? ⟨w2.heap.size, 4, none⟩ = some (.int .i64 20) := S10.out.row.cell 4))
    | (go_at_call 11; ((with_reducible refine (ipSum_any (some ⟨b, o, none⟩) 20 20 _ exH _ (H20.out.below ((S10.out).store 12 (.int .i64 167772162)).bel) (by decide)).mono ?_); rintro e w13 ⟨rfl, rfl⟩; rw [exH_sum])))
  have SF : PSt w (w12.setCell ⟨w2.heap.size, 12, none⟩ (.int .i64 167772162)) gr w2.heap.size w.heap.size w2.heap.size [] ipF2 ipZ := (S10.out).store 12 (.int .i64 167772162)
  have HI2 := HI.out
  refine wp_region_lit ?_
  refine wpList_load_row rfl 25 (.tmp 5) rfl w2.heap.size rfl 25 ipF2.toArray (0, 0) _ SF.row Tryd.underlying25 rfl HI2 ?_
  refine wpList_store_rowTo rfl 25 _ _ rfl rfl w.heap.size ipF2.toArray rfl rfl 25 ipZ.toArray SF.res info25 rfl (by kernel_rfl) ?_
  have kF : Blk ((w12.setCell ⟨w2.heap.size, 12, none⟩ (.int .i64 167772162)).setRow w.heap.size ipF2.toArray) w.heap.size 25 ipF2 := setRow_heap _ _ _ _ _ _ SF.res
  have BF : Below w.heap.size w ((w12.setCell ⟨w2.heap.size, 12, none⟩ (.int .i64 167772162)).setRow w.heap.size ipF2.toArray) := SF.bel.grown (grown_setRow _) SF.bel.size (fun k e => by cases e; exact Nat.le_refl _)
  obtain ⟨WF, hWF⟩ : ∃ WF, ((w12.setCell ⟨w2.heap.size, 12, none⟩ (.int .i64 167772162)).setRow w.heap.size ipF2.toArray) = WF := ⟨_, rfl⟩
  rw [hWF] at kF BF ⊢
  have KF := Lib.hid kF
  have HBF := Lib.hid BF
  clear kF BF hWF SF
  try simp only [Act.put, List.setIfInBounds_toArray, List.set_cons_zero, List.set_cons_succ]
  go_wp2
  try simp only [Exit.inBlock, Exit.then]
  exact bodyPost_ret (results_row_tmp rfl _ _ w.heap.size _ ipF2.toArray _ rfl KF.out Tryd.underlying25 rfl HI.out) rfl ⟨rfl, HBF.out⟩
end Go.Proofs.YtjkdlmielckaaaaDoor
