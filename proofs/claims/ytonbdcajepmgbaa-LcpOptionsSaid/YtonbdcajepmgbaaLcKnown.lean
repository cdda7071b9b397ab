/-
  tetherlaw11.plain.
  tetherlaw11.known.
-/
import Derived.Test.YtonbdcajepmgbaaLcJudge
import Derived.Test.YtonbdcajepmgbaaSameAny
namespace Go.Proofs.Ytonbdcajepmgbaa
open Go.RowKit
set_option maxRecDepth 100000
set_option maxHeartbeats 4000000
set_option linter.unusedSimpArgs false
set_option linter.unusedVariables false

theorem wpList_run {ops : Array Oper} {rest : List Oper} {o : Oper} {a : Act} {w : World} {Q : Exit → Act → World → Prop} (hgd : o.guard = none) (v : Value) (w' : World) (hrun : (execOp a.eval o).run Try.prog w = .ok (.value v) w')
    (h : wpList Try.prog ops Q rest (a.put o.dst v) w') : wpList Try.prog ops Q (o :: rest) a w := by
  refine wpList_plain hgd fun K hK => ?_
  unfold Oper.wp
  rw [hrun]
  exact hK _ _ h
def confZ : List Value := [.string ⟨#[]⟩, .string ⟨#[]⟩, .int .i64 0, .slice none 0 0, .int .i64 0, .int .i64 0, .bool false, .bool false, .bool false, .int .i64 0, .int .i64 0, .int .i64 0, .int .i64 0, .bool false, .bool false, .int .u64 0, .int .i64 0, .int .i64 0, .int .i64 0, .int .i64 0, .int .i64 0, .int .i64 0, .int .i64 0, .int .i64 0, .int .i64 0, .int .i64 0, .int .i64 0, .int .i64 0, .bool false, .bool false, .int .i64 0, .string ⟨#[]⟩, .string ⟨#[]⟩]
def confV (S : Value) : List Value := [.string ⟨#[]⟩, .string ⟨#[]⟩, .int .i64 0, S, .int .i64 1500, .int .i64 4294967295, .bool true, .bool true, .bool true, .int .i64 0, .int .i64 0, .int .i64 0, .int .i64 0, .bool false, .bool false, .int .u64 0, .int .i64 0, .int .i64 0, .int .i64 0, .int .i64 0, .int .i64 0, .int .i64 5, .int .i64 0, .int .i64 0, .int .i64 0, .int .i64 0, .int .i64 0, .int .i64 0, .bool false, .bool false, .int .i64 0, .string ⟨#[]⟩, .string ⟨#[]⟩]
theorem confV_one (A : Option Addr) (n c : Nat) : ∀ v ∈ confV (.slice A n c), v.oneCell' = true := by
  intro v hv
  simp only [confV, List.mem_cons, List.not_mem_nil, or_false] at hv
  rcases hv with rfl | rfl | rfl | rfl | rfl | rfl | rfl | rfl | rfl | rfl | rfl | rfl | rfl | rfl | rfl | rfl | rfl | rfl | rfl | rfl | rfl | rfl | rfl | rfl | rfl | rfl | rfl | rfl | rfl | rfl | rfl | rfl | rfl <;> rfl
theorem store_row {w : World} {g t : Nat} {cs vs : List Value} (h : Blk w g t cs) (hl : vs.length = cs.length) (h1 : ∀ v ∈ vs, v.oneCell' = true) :
    ∃ w', (storeCells ⟨g, 0, none⟩ vs).run Try.prog w = .ok () w' ∧ Blk w' g t vs ∧ w.grownBy w' (some g) := by
  have h2 := run_storeCells_from (P := Try.prog) g t vs 0 cs.toArray w h (by simp [hl]) h1
  exact ⟨w.setRow g vs.toArray, by simpa using h2, setRow_heap w g _ _ t _ h, grown_setRow _⟩
theorem plain_any (w : World) : Calls Try.prog 99 #[] w fun e w' => ∃ cv, e = .returned (.agg cv) ∧ ConfAt w' w'.heap.size cv ⟨[2, 1], true, true, true, 5⟩ ∧ Below w.heap.size w w' := by
  obtain ⟨W1, hW1⟩ : ∃ W1, W1 = w.alloc (.cells confZ.toArray 102) := ⟨_, rfl⟩
  have k1 : Blk W1 w.heap.size 102 confZ := by rw [hW1]; exact blk_new w _ _
  have B1 : Below w.heap.size w W1 := by rw [hW1]; exact (Below.refl _ _).alloc (Nat.le_refl _) _
  have s1 : W1.heap.size = w.heap.size + 1 := by rw [hW1]; simp
  have HW : Hid (w.alloc (.cells #[.string ⟨#[]⟩, .string ⟨#[]⟩, .int .i64 0, .slice none 0 0, .int .i64 0, .int .i64 0, .bool false, .bool false, .bool false, .int .i64 0, .int .i64 0, .int .i64 0, .int .i64 0, .bool false, .bool false, .int .u64 0, .int .i64 0, .int .i64 0, .int .i64 0, .int .i64 0, .int .i64 0, .int .i64 0, .int .i64 0, .int .i64 0, .int .i64 0, .int .i64 0, .int .i64 0, .int .i64 0, .bool false, .bool false, .int .i64 0, .string ⟨#[]⟩, .string ⟨#[]⟩] 102) = W1) := hW1.symm
  obtain ⟨W2, hW2⟩ : ∃ W2, W2 = W1.alloc (.cells #[.int .i64 2, .int .i64 1] 3) := ⟨_, rfl⟩
  have B2 : Below W1.heap.size W1 W2 := by rw [hW2]; exact (Below.refl _ _).alloc (Nat.le_refl _) _
  have k2 := (B2.block _ k1.lt).trans k1
  have i2 : Blk W2 (w.heap.size + 1) 3 [.int .i64 2, .int .i64 1] := by rw [hW2, ← s1]; exact blk_new W1 _ _
  obtain ⟨W3, hst, hbk, hgw⟩ := store_row (vs := confV (.slice (some ⟨w.heap.size + 1, 0, none⟩) 2 2)) k2 rfl (confV_one _ _ _)
  have s2 := B2.size
  have i3 : Blk W3 (w.heap.size + 1) 3 [.int .i64 2, .int .i64 1] := (hgw.block _ i2.lt (fun e => by injection e; omega)).trans i2
  have B3 : Below w.heap.size w W3 := (B1.trans (B2.mono (by omega))).grown hgw (by omega) (fun q e => by injection e; omega)
  have hcf : ConfAt W3 W3.heap.size (confV (.slice (some ⟨w.heap.size + 1, 0, none⟩) 2 2)).toArray ⟨[2, 1], true, true, true, 5⟩ := by
    refine ⟨rfl, ⟨_, _, _, rfl, ⟨rfl, fun _ => ⟨w.heap.size + 1, 0, rfl, i3.lt, fun j hj => ?_⟩⟩, by omega⟩, rfl, rfl, rfl, rfl⟩
    match j, hj with
    | 0, _ => exact i3.cell 0
    | 1, _ => exact i3.cell 1
  have HCF := Lib.hid (And.intro hcf B3)
  have HBK := Lib.hid hbk
  have HBD : Hid (∀ W, (execOp (Act.eval { tmps := #[.pointer (some ⟨w.heap.size, 0, none⟩), .slice (some ⟨w.heap.size + 1, 0, none⟩) 2 2, undef], defers := [] }) { dst := some 2, op := Op.build 102 #[(3, .tmp 1), (4, .const (.int .i64 1500)), (5, .const (.int .i64 4294967295)), (6, .const (.bool true)), (7, .const (.bool true)), (8, .const (.bool true)), (21, .const (.int .i64 5))], type := 102, pos := "law.go:14", after := #[{ on := 0, ground := Ground.data }], guard := none }).run Try.prog W = .ok (.value (.agg (confV (.slice (some ⟨w.heap.size + 1, 0, none⟩) 2 2)).toArray)) W) := by
    intro W
    kernel_rfl
  have HST : Hid ((storeCells ⟨w.heap.size, 0, none⟩ (confV (.slice (some ⟨w.heap.size + 1, 0, none⟩) 2 2))).run Try.prog (W1.alloc (.cells #[.int .i64 2, .int .i64 1] 3)) = .ok () W3) := by show _ = _; rw [← hW2]; exact hst
  have hlen : (confV (.slice (some ⟨w.heap.size + 1, 0, none⟩) 2 2)).length = 33 := rfl
  have HS2 : W1.heap.size = w.heap.size + 1 := s1
  have HI : Hid ((Try.prog.info? 102).map (·.size) = some (confV (.slice (some ⟨w.heap.size + 1, 0, none⟩) 2 2)).toArray.size) := by show _ = _; exact infoC
  have HW2 := Lib.hid hW2.symm
  clear hst hcf B3 i3 s2 hgw hbk i2 k2 B2 s1 B1 k1 hW1 hW2
  generalize confV (.slice (some ⟨w.heap.size + 1, 0, none⟩) 2 2) = vs at *
  go_enter Try.func99, Try.ntmps99
  go_upto_region 1 with (fail)
  rw [HW.out]
  clear HW
  go_wp2_with (refine wpList_run (o := ⟨some 2, _, _, _, _, _⟩) rfl _ _ (HBD.out _) ?_)
  rw [HST.out]
  clear HST
  go_wp2
  go_upto_region 1 with (fail)
  go_wp2_with (refine wpList_load_row rfl HI.out (by exact HBK.out) ?_)
  exact bodyPost_ret (results_cell_row rfl _ _ w.heap.size _ vs.toArray (0,0) _ rfl HBK.out Try.underlying102 rfl HI.out) rfl ⟨_, rfl, HCF.out⟩
end Go.Proofs.Ytonbdcajepmgbaa
namespace Go.Proofs.Ytonbdcajepmgbaa
open Go.RowKit
set_option maxRecDepth 100000
set_option maxHeartbeats 4000000
set_option linter.unusedSimpArgs false
set_option linter.unusedVariables false

def kc : CV := ⟨[2, 1], true, true, true, 5⟩
theorem judge_k1 : judgeL kc ⟨0, 0, 0, 5, false, false⟩ 9 0 [(5, [0, 0, 0, 5])] = (3, [(5, [0, 0, 0, 9])]) := by decide
theorem judge_k2 : judgeL kc ⟨0, 0, 0, 7, false, false⟩ 9 0 [(1, [5, 120])] = (2, [(1, [5, 120])]) := by decide
theorem own_one {w : World} {base : Nat} {A : Option Addr} {c : Nat} {K : Int} {l : List UInt8} (h : OwnL w base (.slice A 1 c) [(K, l)]) :
    ∃ g E k cE, A = some ⟨g, 0, none⟩ ∧ base ≤ g ∧ g < w.heap.size ∧ w.cell? ⟨g, 0, none⟩ = some (.int .i64 K) ∧ w.cell? ⟨g, 1, none⟩ = some (.slice E k cE) ∧ Own w base (.slice E k cE) l := by
  obtain ⟨cs, h1, h2⟩ := h
  have h1' := h1
  rcases h1.2 with ⟨h, h0⟩ | ⟨g, cap, cur, e, hb, hg, hc, hcur⟩
  · cases h
  · injection e with e1 e2 e3
    subst e1
    have f : ∀ j u, cs[j]? = some u → w.cell? ⟨g, j, none⟩ = some u := fun j u hj => by
      have h3 := World.ownsRow.cells h1' (g := g) rfl j u hj
      rwa [addr_add] at h3
    obtain ⟨a, E, k, cE, b, ho⟩ := h2 0 (by simp)
    exact ⟨g, E, k, cE, rfl, hb, (Array.getElem?_eq_some_iff.1 hg).1, f _ _ a, f _ _ b, ho⟩
theorem ConfAt.on {w W : World} {cv : Array Value} {cc : CV} (h : ConfAt w w.heap.size cv cc) (hb : Below w.heap.size w W) : ConfAt W W.heap.size cv cc := by
  have := hb.size
  obtain ⟨h1, ⟨A, m, d, h2, h3, h4⟩, h5⟩ := kept_conf h fun i hi => hb.block i hi
  exact ⟨h1, ⟨A, m, d, h2, h3.wide this, h4⟩, h5⟩
/-- an option list of one option, as the law builds it -/
theorem one_built (w1 : World) (K : Int) (l : List UInt8) (n : Nat) (cs : Array Value) (hcs : cs.toList = l.map cellOf) (hl : l.length = n) (hn : n ≤ 100) :
    OptRd ((w1.alloc (.cells cs 5)).alloc (.cells #[.int .i64 K, .slice (some ⟨w1.heap.size, 0, none⟩) n n] 70)) (w1.heap.size + 2) (some ⟨w1.heap.size + 1, 0, none⟩) 1 [(K, l)] := by
  have k1 : Blk (w1.alloc (.cells cs 5)) w1.heap.size 5 (l.map cellOf) := by
    rw [← hcs]
    exact blk_new w1 5 cs.toList
  obtain ⟨W, hW⟩ : ∃ W, W = w1.alloc (.cells cs 5) := ⟨_, rfl⟩
  rw [← hW] at k1 ⊢
  have sW : W.heap.size = w1.heap.size + 1 := by rw [hW]; simp
  have k2 := blk_new W 70 [.int .i64 K, .slice (some ⟨w1.heap.size, 0, none⟩) n n]
  have k3 := (Below.heap_alloc W (.cells #[.int .i64 K, .slice (some ⟨w1.heap.size, 0, none⟩) n n] 70) w1.heap.size (by omega)).trans k1
  rw [sW] at k2
  have k2' : Blk (W.alloc (.cells #[.int .i64 K, .slice (some ⟨w1.heap.size, 0, none⟩) n n] 70)) (w1.heap.size + 1) 70 [.int .i64 K, .slice (some ⟨w1.heap.size, 0, none⟩) n n] := k2
  refine ⟨rfl, fun _ => ⟨w1.heap.size + 1, 0, rfl, by omega, fun i hi => ?_⟩⟩
  have : i = 0 := by simp at hi; omega
  subst this
  refine ⟨k2'.cell 0, some ⟨w1.heap.size, 0, none⟩, n, n, k2'.cell 1, ⟨hl, fun _ => ⟨w1.heap.size, 0, rfl, by omega, fun j hj => ?_⟩⟩, (fun e => by cases e), Nat.le_refl _, by omega⟩
  rw [Nat.zero_add, Blk.cell (w := W.alloc _) k3 j]
  exact cells_at l j (by omega)
/-- the calls of known, one behind the other -/
def KnC (w : World) : Prop :=
  Calls Try.prog 99 #[] w fun e w1 => ∃ cv, e = .returned (.agg cv) ∧
    Calls Try.prog 62 #[.agg cv, .agg #[.int .i64 0, .int .i64 0, .int .i64 0, .int .u32 5, .bool false, .bool false], .slice (some ⟨w1.heap.size + 1, 0, none⟩) 1 1, .int .i64 0, .int .u32 9]
      ((w1.alloc (.cells #[.int .u8 0, .int .u8 0, .int .u8 0, .int .u8 5] 5)).alloc (.cells #[.int .i64 5, .slice (some ⟨w1.heap.size, 0, none⟩) 4 4] 70)) fun e w2 => ∃ g c, e = .returned (.tuple #[.int .i64 3, .slice (some ⟨g, 0, none⟩) 1 c]) ∧
        Calls Try.prog 99 #[] w2 fun e w3 => ∃ cv, e = .returned (.agg cv) ∧
          Calls Try.prog 62 #[.agg cv, .agg #[.int .i64 0, .int .i64 0, .int .i64 0, .int .u32 7, .bool false, .bool false], .slice (some ⟨w3.heap.size + 1, 0, none⟩) 1 1, .int .i64 0, .int .u32 9]
            ((w3.alloc (.cells #[.int .u8 5, .int .u8 120] 5)).alloc (.cells #[.int .i64 1, .slice (some ⟨w3.heap.size, 0, none⟩) 2 2] 70)) fun e w4 => ∃ A c E cE, e = .returned (.tuple #[.int .i64 2, .slice A 1 c]) ∧ w4.cell? ⟨g, 1, none⟩ = some (.slice E 4 cE) ∧
              Calls Try.prog 34 #[.slice E 4 cE, .slice (some ⟨w4.heap.size, 0, none⟩) 4 4] (w4.alloc (.cells #[.int .u8 0, .int .u8 0, .int .u8 0, .int .u8 9] 5)) fun e w5 => e = .returned (.bool true) ∧ Below w.heap.size w w5
theorem known_calls (w : World) : KnC w := by
  unfold KnC
  refine (plain_any w).mono ?_
  rintro e w1 ⟨cv, rfl, hcf, b1⟩
  refine ⟨cv, rfl, ?_⟩
  have s1 := b1.size
  have r1 := one_built w1 5 [0, 0, 0, 5] 4 #[.int .u8 0, .int .u8 0, .int .u8 0, .int .u8 5] rfl rfl (by omega)
  have B1 : Below w1.heap.size w1 ((w1.alloc (.cells #[.int .u8 0, .int .u8 0, .int .u8 0, .int .u8 5] 5)).alloc (.cells #[.int .i64 5, .slice (some ⟨w1.heap.size, 0, none⟩) 4 4] 70)) := ((Below.refl _ _).alloc (Nat.le_refl _) _).alloc (by simp) _
  have z1 : ((w1.alloc (.cells #[.int .u8 0, .int .u8 0, .int .u8 0, .int .u8 5] 5)).alloc (.cells #[.int .i64 5, .slice (some ⟨w1.heap.size, 0, none⟩) 4 4] 70)).heap.size = w1.heap.size + 2 := by simp
  generalize ((w1.alloc (.cells #[.int .u8 0, .int .u8 0, .int .u8 0, .int .u8 5] 5)).alloc (.cells #[.int .i64 5, .slice (some ⟨w1.heap.size, 0, none⟩) 4 4] 70)) = W1 at r1 B1 z1 ⊢
  rw [← z1] at r1
  refine (judge_any cv kc ⟨0, 0, 0, 5, false, false⟩ _ 1 1 [(5, [0, 0, 0, 5])] 0 9 W1 (hcf.on B1) (by omega) r1 (by intro o ho; simp at ho; subst ho; exact ⟨by decide, by decide⟩) (by omega)).mono ?_
  rintro e w2 ⟨A, n, c, k, s', rfl, hj, hn, ho, b2⟩
  rw [judge_k1] at hj
  injection hj with hj1 hj2
  subst hj1 hj2
  subst hn
  obtain ⟨g, E, kE, cE, rfl, hg1, hg2, hc0, hc1, hE⟩ := own_one ho
  obtain ⟨eE, _, _⟩ := hE.len
  subst eE
  refine ⟨g, c, rfl, (plain_any w2).mono ?_⟩
  rintro e w3 ⟨cv2, rfl, hcf2, b3⟩
  refine ⟨cv2, rfl, ?_⟩
  have s2 := b2.size
  have s3 := b3.size
  have r2 := one_built w3 1 [5, 120] 2 #[.int .u8 5, .int .u8 120] rfl rfl (by omega)
  have B2 : Below w3.heap.size w3 ((w3.alloc (.cells #[.int .u8 5, .int .u8 120] 5)).alloc (.cells #[.int .i64 1, .slice (some ⟨w3.heap.size, 0, none⟩) 2 2] 70)) := ((Below.refl _ _).alloc (Nat.le_refl _) _).alloc (by simp) _
  have z2 : ((w3.alloc (.cells #[.int .u8 5, .int .u8 120] 5)).alloc (.cells #[.int .i64 1, .slice (some ⟨w3.heap.size, 0, none⟩) 2 2] 70)).heap.size = w3.heap.size + 2 := by simp
  generalize ((w3.alloc (.cells #[.int .u8 5, .int .u8 120] 5)).alloc (.cells #[.int .i64 1, .slice (some ⟨w3.heap.size, 0, none⟩) 2 2] 70)) = W2 at r2 B2 z2 ⊢
  rw [← z2] at r2
  refine (judge_any cv2 kc ⟨0, 0, 0, 7, false, false⟩ _ 1 1 [(1, [5, 120])] 0 9 W2 (hcf2.on B2) (by omega) r2 (by intro o ho; simp at ho; subst ho; exact ⟨by decide, by decide⟩) (by omega)).mono ?_
  rintro e w4 ⟨A4, n4, c4, k4, s4', rfl, hj4, hn4, ho4, b4⟩
  rw [judge_k2] at hj4
  injection hj4 with hj1 hj2
  subst hj1 hj2
  subst hn4
  have s4 := b4.size
  have B24 : Below w2.heap.size w2 w4 := b3.trans ((B2.trans (b4.mono (by omega))).mono s3)
  refine ⟨A4, c4, E, cE, rfl, (B24.cell (p := ⟨g, 1, none⟩) hg2).trans hc1, ?_⟩
  have k5 := blk_new w4 5 [.int .u8 0, .int .u8 0, .int .u8 0, .int .u8 9]
  have B5 : Below w4.heap.size w4 (w4.alloc (.cells #[.int .u8 0, .int .u8 0, .int .u8 0, .int .u8 9] 5)) := (Below.refl _ _).alloc (Nat.le_refl _) _
  have rE := (hE.later B24).later B5
  have k5' : Blk (w4.alloc (.cells #[.int .u8 0, .int .u8 0, .int .u8 0, .int .u8 9] 5)) w4.heap.size 5 ([0, 0, 0, 9].map cellOf) := k5
  generalize w4.alloc (.cells #[.int .u8 0, .int .u8 0, .int .u8 0, .int .u8 9] 5) = W5 at k5' B5 rE ⊢
  have hs : Rd W5 W5.heap.size (some ⟨w4.heap.size, 0, none⟩) 4 [0, 0, 0, 9] := ⟨rfl, fun _ => ⟨w4.heap.size, 0, rfl, k5'.lt, fun j hj => by rw [Nat.zero_add, k5'.cell j]; exact cells_at [0, 0, 0, 9] j hj⟩⟩
  refine (same_any E _ 4 4 cE 4 [0, 0, 0, 9] [0, 0, 0, 9] W5 W5.heap.size rE.rdAll hs (by decide) (by decide)).mono ?_
  rintro e w5 ⟨rfl, q, rfl⟩
  have B04 : Below w.heap.size w w4 := b1.trans ((B1.trans ((b2.trans (B24.mono (by omega))).mono (by omega))).mono s1)
  exact ⟨rfl, below_drewN (B04.trans (B5.mono (by omega))) q⟩
theorem known11_any (w : World) : Calls Try.prog 38 #[] w fun e w' => e = .returned (.bool true) ∧ Below w.heap.size w w' := by
  have N := Lib.hid (known_calls w)
  unfold KnC at N
  go_enter Try.func38, Try.ntmps38
  go_wp2_with (first
    | (go_at_call 99; ((with_reducible refine N.out.mono ?_); rintro e w1 ⟨cv, rfl, n1⟩; have N1 := Lib.hid n1; clear n1))
    | (go_at_call 62; ((with_reducible refine N1.out.mono ?_); rintro e w2 ⟨g, c, rfl, n2⟩; have N2 := Lib.hid n2; clear n2))
    | (go_at_call 99; ((with_reducible refine N2.out.mono ?_); rintro e w3 ⟨cv2, rfl, n3⟩; have N3 := Lib.hid n3; clear n3))
    | (go_at_call 62; ((with_reducible refine N3.out.mono ?_); rintro e w4 ⟨A, c2, E, cE, rfl, hce, n4⟩; have N4 := Lib.hid n4; clear n4))
    | (go_at_call 34; ((with_reducible refine N4.out.mono ?_); rintro e w5 ⟨rfl, n5⟩; have N5 := Lib.hid n5; clear n5)))
  go_ret
  exact ⟨rfl, N5.out⟩
end Go.Proofs.Ytonbdcajepmgbaa
