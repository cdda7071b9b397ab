/-
  The laws' awake: the chapter's example.
-/
import Derived.Test.YtjkdlmielckaaaaDoorIpText
namespace Go.Proofs.YtjkdlmielckaaaaDoor
open Go.RowKit
set_option maxRecDepth 100000
set_option maxHeartbeats 4000000
set_option linter.unusedSimpArgs false
set_option linter.unusedVariables false

theorem wpList_load_rowG {P : Program} {ops : Array Oper} {rest : List Oper} {o : Oper} {a : Act} {w : World} {Q : Exit → Act → World → Prop} (hw : Region.wanted o (yielded ops a.tmps) = true) (ty : TypeId) (x : Operand) (ho : o.op = .load ty x)
    (g : Nat) (hx : a.eval x = .pointer (some ⟨g, 0, none⟩)) (t : TypeId) (cs : Array Value) (fr : Nat × Nat) (d : TypeDesc) (hg : w.heap[g]? = some (.cells cs t fr))
    (hu : P.underlying ty = some d) (hd : (match d with | .struct _ | .array _ _ => true | _ => false) = true) (hi : (P.info? ty).map (·.size) = some cs.size)
    (h : wpList P ops Q rest (a.put o.dst (.agg cs)) w) : wpList P ops Q (o :: rest) a w := by
  unfold wpList
  rw [if_pos hw]
  exact .inl (wp_load_row ty x ho g hx t cs fr d hg hu hd hi h)
def exS : List UInt8 := [0, 1, 242, 3, 244, 245, 246, 247]
theorem exS_sum : sumZ exS = 8717 := by decide +kernel
theorem rd_eight {W : World} {g : Nat} {l : List UInt8} (hk : Blk W g 5 (l.map cellOf)) (hl : l.length = 8) : Rd W W.heap.size (some ⟨g, 0, none⟩) 8 l :=
  rd_front hk (by rw [List.take_of_length_le (by simp [hl])]) hl
theorem own_shape {w : World} {base : Nat} {v : Value} (h : Own w base v exB) : ∃ g cap, v = .slice (some ⟨g, 0, none⟩) 28 cap ∧ 28 ≤ cap ∧ Rd w w.heap.size (some ⟨g, 0, none⟩) 28 exB := by
  rcases h.form with ⟨_, e⟩ | ⟨g, cap, rfl, _, _, hc⟩
  · cases e
  · have h2 := h.rd rfl 28 (Nat.le_refl _)
    exact ⟨g, cap, rfl, hc, h2.wide (Nat.le_refl _)⟩
theorem awake18 (w : World) : Calls Tryd.prog 8 #[] w fun e w' => e = .returned (.bool true) ∧ Below w.heap.size w w' := by
  obtain ⟨W1, hW1⟩ : ∃ W1, w.alloc (.cells #[.int .u8 0, .int .u8 5, .int .u8 0, .int .u8 7, .int .u8 0, .int .u8 8, .int .u8 0, .int .u8 0] 5) = W1 := ⟨_, rfl⟩
  have k1 : Blk W1 w.heap.size 5 (exD.map cellOf) := by rw [← hW1]; exact blk_new w _ (exD.map cellOf)
  have B1 : Hid (Below w.heap.size w W1) := by rw [← hW1]; exact (Below.refl _ _).alloc (Nat.le_refl _) _
  have BE := Lib.hid (build_ex ipF0.toArray (some ⟨w.heap.size, 0, none⟩) 8 8 W1.heap.size exD W1 fldA rfl (by decide) (rd_eight k1 rfl) (by simp) rfl)
  have HI : Hid ((Tryd.prog.info? 25).map (·.size) = some ipF3.toArray.size) := info25
  have len3 := ipF3_len
  clear k1
  go_enter Tryd.func8, Tryd.ntmps8
  go_upto_region 1 with (fail)
  refine wp_region_lit ?_
  refine wpList_buildTo rfl 25 _ rfl (some 6) rfl ipF0.toArray (by kernel_rfl) ?_
  try simp only [Act.put, List.setIfInBounds_toArray, List.set_cons_zero, List.set_cons_succ]
  go_upto_region 3 with (first
    | (go_at_call 15; ((with_reducible refine BE.out.mono ?_); rintro e w2 ⟨v, rfl, ho2, hb2⟩; obtain ⟨g, cap, rfl, hcap, hrd⟩ := own_shape ho2; have PE := Lib.hid (parse_ex g 0 cap w2 hrd hcap); have HR := Lib.hid hrd; have HB2 := Lib.hid hb2; clear ho2 hrd hb2))
    | (go_at_call 7; ((with_reducible refine PE.out.mono ?_); rintro e w3 ⟨rfl, hb3⟩; obtain ⟨W4, hst, k4, B4⟩ := fresh_row2 w3 25 ipF3 ipF3_len ipF3_one; have HB3 := Lib.hid hb3; have K4 := Lib.hid k4; have HB4 := Lib.hid B4; clear hb3 k4 B4)))
  have h4 : Below w2.heap.size w2 W4 := HB3.out.trans (HB4.out.mono HB3.out.size)
  obtain ⟨b9, o9, he9, hb9, hcell⟩ := (HR.out.below h4).2 (by decide)
  cases he9
  have c10 : W4.cell? ⟨g, 10, none⟩ = some (.int .u8 102) := hcell 10 (by decide)
  have c11 : W4.cell? ⟨g, 11, none⟩ = some (.int .u8 207) := hcell 11 (by decide)
  have HB5 : Hid (Below w.heap.size w W4) := (B1.out.trans (HB2.out.mono B1.out.size)).trans (h4.mono (Nat.le_trans B1.out.size HB2.out.size))
  clear h4 hcell hb9 hst hW1
  go_wp2_with (first
    | (refine wpList_load_rowG (by kernel_rfl) 25 (.tmp 3) rfl w3.heap.size rfl 25 ipF3.toArray (0, 0) _ K4.out Tryd.underlying25 rfl HI.out ?_)
    | (go_at_call 16; ((with_reducible refine (text_ex _).mono ?_); rintro e w6 ⟨rfl, hb6⟩; have SM0 := ipSum_any (some ⟨w6.heap.size, 0, none⟩) 8 8 _ exS (w6.alloc (.cells #[.int .u8 0, .int .u8 1, .int .u8 242, .int .u8 3, .int .u8 244, .int .u8 245, .int .u8 246, .int .u8 247] 5)) (rd_eight (blk_new w6 _ (exS.map cellOf)) rfl) (by decide); rw [exS_sum] at SM0; have SM := Lib.hid SM0; have HB6 := Lib.hid (HB5.out.trans (hb6.mono HB5.out.size)); clear hb6 SM0))
    | (go_at_call 11; ((with_reducible refine SM.out.mono ?_); rintro e w7 ⟨rfl, rfl⟩)))
  go_ret
  exact ⟨rfl, HB6.out.alloc HB6.out.size _⟩
end Go.Proofs.YtjkdlmielckaaaaDoor
