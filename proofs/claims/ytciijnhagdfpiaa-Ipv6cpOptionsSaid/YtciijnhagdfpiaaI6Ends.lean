/-
  Ipv6cpEnds: two ends come to two identifiers.
-/
import Derived.Test.YtciijnhagdfpiaaI6NakW
import Derived.Test.YtciijnhagdfpiaaI6Known
import Derived.Test.YtciijnhagdfpiaaI6Want
import Derived.Deep.RegionHeld3
namespace Go.Proofs.Ytciijnhagdfpiaa
open Go.RowKit
set_option maxRecDepth 100000
set_option maxHeartbeats 4000000
set_option linter.unusedSimpArgs false
set_option linter.unusedVariables false

theorem rgt_id (x : Int) : rgt (1, putB x.toNat 8) = true := by
  unfold rgt
  simp [putB_length]
theorem num_id {x : Int} (h : In64 x) : num (putB x.toNat 8) 8 = x := by
  unfold In64 at h
  rw [num_putB 8 x.toNat (by omega)]
  omega
theorem tk_id {a b : Int} (ha : In64 a) (h0 : a ≠ 0) : tkB b (1, putB a.toNat 8) = (a == b) := by
  unfold tkB
  rw [num_id ha]
  have : (a == 0) = false := by simpa using h0
  rw [this, Bool.false_or]
theorem rf_id {a b : Int} (hb : b ≠ 0) : rfL b [(1, putB a.toNat 8)] = [] := by
  have h : rfQ b [(1, putB a.toNat 8)] 0 = false := by
    show rfB b false (1, putB a.toNat 8) = false
    unfold rfB
    rw [rgt_id]
    have : (b == 0) = false := by simpa using hb
    rw [this]
    rfl
  show pick _ _ 1 = []
  rw [pick, h]
  rfl
theorem tkL_id {a b : Int} (ha : In64 a) (h0 : a ≠ 0) : tkL b [(1, putB a.toNat 8)] = if a = b then [(1, putB a.toNat 8)] else [] := by
  show pick _ _ 1 = _
  rw [pick]
  have h : tkQ b [(1, putB a.toNat 8)] 0 = (a == b) := tk_id ha h0
  rw [h]
  by_cases e : a = b
  · simp [e, pick]
  · have : (a == b) = false := by simpa using e
    rw [this, if_neg e]
    rfl
theorem jd_nak {mf a b r third : Int} (ha : In64 a) (h0 : a ≠ 0) (e : a = b) (hr : r < mf) : jd6 mf b [(1, putB a.toNat 8)] r third = (3, [(1, putB (giv third b).toNat 8)]) := by
  unfold jd6
  rw [rf_id (by rw [← e]; exact h0), tkL_id ha h0, if_pos e]
  simp [hr]
theorem jd_ack {mf a b r third : Int} (ha : In64 a) (h0 : a ≠ 0) (hb : b ≠ 0) (e : a ≠ b) : jd6 mf b [(1, putB a.toNat 8)] r third = (2, [(1, putB a.toNat 8)]) := by
  unfold jd6
  rw [rf_id hb, tkL_id ha h0, if_neg e]
  simp
theorem nk_id {a g draw : Int} (hg : In64 g) (g0 : g ≠ 0) (e : g ≠ a) : nk6 a draw [(1, putB g.toNat 8)] = (g, true) := by
  unfold nk6
  rw [show ([(1, putB g.toNat 8)] : List Opt).reverse.find? rgt = some (1, putB g.toNat 8) from by
    show List.find? rgt [(1, putB g.toNat 8)] = _
    rw [List.find?_cons_of_pos (rgt_id g)]]
  show (nkV a draw (1, putB g.toNat 8), true) = _
  unfold nkV
  rw [tk_id hg g0, num_id hg]
  have : (g == a) = false := by simpa using e
  rw [this]
  rfl
theorem wnt_in {id draw : Int} (h : In64 id) (hd : In64 draw) : In64 (wnt id draw) ∧ wnt id draw ≠ 0 := by
  unfold wnt
  split
  · exact ⟨giv_in 0 hd, (giv_ok 0 hd).1⟩
  · rename_i h0
    exact ⟨h, h0⟩
theorem info6 : (Try.prog.info? 26).map (·.size) = some 33 := by kernel_rfl
theorem step_conf6 {ops : Array Oper} {rest : List Oper} {o : Oper} {a : Act} {w : World} {Q : Exit → Act → World → Prop} (x : Operand) (g : Nat) (cv : Array Value) (hg : w.heap[g]? = some (.cells cv 26 (0, 0))) (hi : (Try.prog.info? 26).map (·.size) = some cv.size)
    (h : wpList Try.prog ops Q rest (a.put o.dst (.agg cv)) w) (hgd : o.guard = none) (ho : o.op = .load 26 x) (hx : a.eval x = .pointer (some ⟨g, 0, none⟩)) : wpList Try.prog ops Q (o :: rest) a w :=
  wpList_load_row hgd 26 x ho g hx 26 cv (0, 0) _ hg Try.underlying26 rfl hi h
theorem conf_row6 {W : World} {z : Nat} {cv : Array Value} (h : Blk W z 26 cv.toList) : W.heap[z]? = some (.cells cv 26 (0, 0)) := by
  unfold Blk at h
  simpa using h
def ConfRow (W : World) (z : Nat) (cv : Array Value) : Prop := W.heap[z]? = some (.cells cv 26 (0, 0))
theorem ConfRow.on {W V : World} {z : Nat} {cv : Array Value} (h : ConfRow W z cv) (hb : Below W.heap.size W V) : ConfRow V z cv := by
  unfold ConfRow at h ⊢
  rw [hb.block z (Array.getElem?_eq_some_iff.1 h).1]
  exact h
/-- what both ends want first -/
def EwC (W2 : World) (z : Nat) (cv0 cv1 : Array Value) (a b one two : Int) : Prop :=
  Calls Try.prog 14 #[.agg cv0, .int .u64 one] W2 fun e w1 => e = .returned (.int .u64 a) ∧ Hid (w1.heap[z]? = some (.cells cv1 26 (0, 0))) ∧
    Hid (Calls Try.prog 14 #[.agg cv1, .int .u64 two] w1 fun e w2 => e = .returned (.int .u64 b) ∧ Hid (Below W2.heap.size W2 w2))
theorem ew_c {W2 : World} {z : Nat} {cv0 cv1 : Array Value} {id0 mf0 id1 mf1 one two : Int} (h0 : ConfI cv0 id0 mf0) (h1 : ConfI cv1 id1 mf1) (hz : ConfRow W2 z cv1) (ho : In64 one) (ht : In64 two) : EwC W2 z cv0 cv1 (wnt id0 one) (wnt id1 two) one two := by
  unfold EwC
  refine (want6_any cv0 id0 mf0 one W2 h0 ho).mono ?_
  rintro e w1 ⟨rfl, b1⟩
  refine ⟨rfl, hz.on b1, Lib.hid ((want6_any cv1 id1 mf1 two w1 h1 ht).mono ?_)⟩
  rintro e w2 ⟨rfl, b2⟩
  exact ⟨rfl, Lib.hid (b1.trans (b2.mono b1.size))⟩
theorem range_of {V : World} {z : Nat} {cs : List Value} (h : ConfRow V z cs.toArray) : V.rangeAt z 0 cs := by
  have hb : Blk V z 26 cs := h
  intro j v hj
  rw [Nat.zero_add]
  exact (hb.cell j).trans hj
/-- a round -/
def ErC (V : World) (z : Nat) (cs : List Value) (a b r third k : Int) (fin : Prop) (nx : Int) : Prop :=
  ∀ W, Below V.heap.size V W → Calls Try.prog 7 #[.int .u64 a] W fun e V1 => ∃ g, e = .returned (.slice (some ⟨g, 0, none⟩) 1 1) ∧ Hid (V1.rangeAt z 0 cs) ∧
    Hid (∀ W', Below V1.heap.size V1 W' → Calls Try.prog 17 #[.agg cs.toArray, .int .u64 b, .slice (some ⟨g, 0, none⟩) 1 1, .int .i64 r, .int .u64 third] W' fun e V2 => ∃ F d, e = .returned (.tuple #[.int .i64 k, .slice F 1 d]) ∧ Hid (V2.rangeAt z 0 cs) ∧ Hid (Below V.heap.size V V2) ∧
      (¬ fin → Hid (∀ one', In64 one' → Calls Try.prog 20 #[.int .u64 a, .slice F 1 d, .int .u64 one'] V2 fun e V3 => e = .returned (.tuple #[.int .u64 nx, .bool true]) ∧ Hid (Below V.heap.size V V3))))
theorem er_c {V : World} {z : Nat} {cs : List Value} {id1 mf1 a b r third k nx : Int} {L : List UInt8} {fin : Prop} (h1 : ConfI cs.toArray id1 mf1) (hz : ConfRow V z cs.toArray) (ha : In64 a) (ht : In64 third) (hj : jd6 mf1 b [(1, putB a.toNat 8)] r third = (k, [(1, L)])) (hL : L.length ≤ 140737488351232) (hn : ¬ fin → ∀ one', nk6 a one' [(1, L)] = (nx, true)) : ErC V z cs a b r third k fin nx := by
  intro W hVW
  refine (options6_any a W ha.1 ha.2).mono ?_
  rintro e V1 ⟨g, rfl, ho, b1⟩
  have s0 := hVW.size
  have s1 := b1.size
  have B1 := hVW.trans (b1.mono s0)
  refine ⟨g, rfl, range_of (hz.on B1), Lib.hid fun W' hW' => ?_⟩
  have ho' := ho.later hW'
  obtain ⟨A1, c1, e1, hrd, _⟩ := ho'.rd (by intro o ho; simp at ho; subst ho; show (putB _ 8).length ≤ _; rw [putB_length]; omega)
  injection e1 with e1 _ e3
  subst e1 e3
  refine (judge6_any _ id1 mf1 b _ 1 1 W'.heap.size [(1, putB a.toNat 8)] r third W' h1 ht hrd (Nat.le_refl _) (by omega)).mono ?_
  rintro e V2 ⟨F, m, d, k', L', rfl, hj', hm, ho2, b2⟩
  rw [hj] at hj'
  injection hj' with e1 e2
  subst e1 e2 hm
  have s2 := hW'.size
  have s3 := b2.size
  have B2 := (B1.trans (hW'.mono (by omega))).trans (b2.mono (by omega))
  refine ⟨F, d, rfl, range_of (hz.on B2), Lib.hid B2, fun hf => Lib.hid fun one' ho' => ?_⟩
  obtain ⟨A2, c2, e2, hrd2, _⟩ := ho2.rd (by intro o ho; simp at ho; subst ho; exact hL)
  injection e2 with e2 _ e4
  subst e2 e4
  refine (nak6_any a one' F 1 d V2.heap.size [(1, L)] V2 hrd2 (Nat.le_refl _) (by omega) ho').mono ?_
  rintro e V3 ⟨rfl, b3⟩
  rw [hn hf one']
  exact ⟨rfl, Lib.hid (B2.trans (b3.mono (by omega)))⟩
end Go.Proofs.Ytciijnhagdfpiaa
