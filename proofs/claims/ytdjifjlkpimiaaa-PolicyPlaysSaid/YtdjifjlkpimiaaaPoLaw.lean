/-
  What the laws of a policy share: some, asks, a configuration loaded whole, what a call leaves.
-/
import Derived.Test.YtdjifjlkpimiaaaPoCall
import Derived.Test.YtdjifjlkpimiaaaPoTmM
import Derived.Test.YtdjifjlkpimiaaaPoOpen
import Derived.Deep.Cut
import Derived.Deep.CutRange
namespace Go.Proofs.Ytdjifjlkpimiaaa
open Go.RowKit
set_option maxRecDepth 100000
set_option maxHeartbeats 4000000
set_option linter.unusedSimpArgs false
set_option linter.unusedVariables false

theorem some_any (z m : Int) (w : World) (hz : In64 z) (hm : 0 ≤ m ∧ m ≤ 1099511627776) : Calls Try.prog 15 #[.int .i64 z, .int .i64 m] w fun e w' => ∃ v, e = .returned (.int .i64 v) ∧ (0 ≤ v ∧ v ≤ m) ∧ w = w' := by
  obtain ⟨z1, z2⟩ := hz
  obtain ⟨m1, m2⟩ := hm
  have h1 : -m ≤ z.tmod (m + 1) ∧ z.tmod (m + 1) ≤ m := by
    rcases Int.le_total 0 z with h | h
    · have a := Int.tmod_nonneg (m + 1) h
      have b := Int.tmod_lt_of_pos z (b := m + 1) (by omega)
      omega
    · have a := Int.tmod_nonneg (m + 1) (a := -z) (by omega)
      have b := Int.tmod_lt_of_pos (-z) (b := m + 1) (by omega)
      rw [Int.neg_tmod] at a b
      omega
  obtain ⟨r, hr⟩ : ∃ r, z.tmod (m + 1) = r := ⟨_, rfl⟩
  rw [hr] at h1
  obtain ⟨h1, h2⟩ := h1
  have hmm : ((m + 1) == 0) = false := by simp; omega
  have hwm : IntKind.i64.wrap (m + 1) = m + 1 := IntWalk.i64_in _ (by omega)
  by_cases hn : r < 0
  · go_enter Try.func15, Try.ntmps15
    go_wp2
    go_ret
    exact ⟨_, rfl, by omega, rfl⟩
  · go_enter Try.func15, Try.ntmps15
    go_wp2
    go_ret
    exact ⟨_, rfl, by omega, rfl⟩
def asksB (k : Int) (m : Bool) : Bool := k == 2 || (k == 1 && m)
theorem asks_any (k b : Int) (m : Bool) (w : World) : Calls Try.prog 17 #[.agg #[.int .i64 k, .int .i64 b, .bool m]] w fun e w' => e = .returned (.bool (asksB k m)) ∧ Below w.heap.size w w' := by
  unfold asksB
  have AL : Hid (Below w.heap.size w (w.alloc (.cells #[.int .i64 k, .int .i64 b, .bool m] 36))) := (Below.refl _ _).alloc (Nat.le_refl _) _
  cases h2 : (k == 2) <;> cases h1 : (k == 1)
  all_goals
    go_enter Try.func17, Try.ntmps17
    go_wp2
    go_ret
    exact ⟨by simp, AL.out⟩
theorem infoC : (Try.prog.info? 25).map (·.size) = some 33 := by kernel_rfl
theorem step_conf {ops : Array Oper} {rest : List Oper} {o : Oper} {a : Act} {w : World} {Q : Exit → Act → World → Prop} (x : Operand) (g : Nat) (cv : Array Value) (hg : w.heap[g]? = some (.cells cv 25 (0, 0))) (hi : (Try.prog.info? 25).map (·.size) = some cv.size)
    (h : wpList Try.prog ops Q rest (a.put o.dst (.agg cv)) w) (hgd : o.guard = none) (ho : o.op = .load 25 x) (hx : a.eval x = .pointer (some ⟨g, 0, none⟩)) : wpList Try.prog ops Q (o :: rest) a w :=
  wpList_load_row hgd 25 x ho g hx 25 cv (0, 0) _ hg Try.underlying25 rfl hi h
theorem conf_row {W : World} {z : Nat} {cv : Array Value} (h : Blk W z 25 cv.toList) : W.heap[z]? = some (.cells cv 25 (0, 0)) := by
  unfold Blk at h
  simpa using h
theorem conf_cells {W : World} {z : Nat} {cv : Array Value} {il se ho mf : Int} {pe dm : Bool} (h : Blk W z 25 cv.toList) (hc : ConfP cv il se ho mf pe dm) :
    W.cell? ⟨z, 25, none⟩ = some (.int .i64 il) ∧ W.cell? ⟨z, 26, none⟩ = some (.int .i64 se) ∧ W.cell? ⟨z, 27, none⟩ = some (.int .i64 ho) ∧ W.cell? ⟨z, 28, none⟩ = some (.bool pe) ∧ W.cell? ⟨z, 29, none⟩ = some (.bool dm) ∧ W.cell? ⟨z, 30, none⟩ = some (.int .i64 mf) := by
  obtain ⟨_, h1, h2, h3, h4, h5, h6⟩ := hc
  exact ⟨by rw [h.cell 25, Array.getElem?_toList]; exact h1, by rw [h.cell 26, Array.getElem?_toList]; exact h2, by rw [h.cell 27, Array.getElem?_toList]; exact h3, by rw [h.cell 28, Array.getElem?_toList]; exact h4, by rw [h.cell 29, Array.getElem?_toList]; exact h5, by rw [h.cell 30, Array.getElem?_toList]; exact h6⟩
/-- a law's frame: the configuration in block z, the policy in g, both there since the law began -/
structure PoI (w W : World) (z g : Nat) (cv : Array Value) (x : PoS) (k : Int) : Prop where
  bl : Below w.heap.size w W
  row : Blk W z 25 cv.toList
  zw : w.heap.size ≤ z
  gw : w.heap.size ≤ g
  ne : z ≠ g
  pb : PoB W g x
  ok : PoOk x
  now : x.now ≤ 5000 * k
theorem PoI.later {w W W' : World} {z g : Nat} {cv : Array Value} {x : PoS} {k : Int} (h : PoI w W z g cv x k) (hb : Below W.heap.size W W') : PoI w W' z g cv x k :=
  ⟨bto h.bl hb, Blk.below h.row hb h.row.lt, h.zw, h.gw, h.ne, h.pb.below hb, h.ok, h.now⟩
theorem PoI.step {w W W' : World} {z g : Nat} {cv : Array Value} {x y : PoS} {k k' : Int} (h : PoI w W z g cv x k) (hg : W.grownBy W' (some g)) (hy : PoB W' g y) (hok : PoOk y) (hk : y.now ≤ 5000 * k') : PoI w W' z g cv y k' :=
  ⟨bgr h.bl h.gw hg, Blk.grown h.row hg (fun e => h.ne (by injection e with e; exact e.symm)), h.zw, h.gw, h.ne, hy, hok, hk⟩
/-- what a law knows behind a call: the answer's numbers, the call's own copy of the operation, the frame -/
structure PoA (w W3 W : World) (z g p : Nat) (cv : Array Value) (y : PoS) (k' : Int) (kk bb : Int) (m : Bool) (A : Option Addr) (n c : Nat) (l : List Int) : Prop where
  rd : RdI W W.heap.size A n l
  own : OwnI W W3.heap.size (.slice A n c) l
  op0 : W.cell? ⟨p, 0, none⟩ = some (.int .i64 kk)
  op1 : W.cell? ⟨p, 1, none⟩ = some (.int .i64 bb)
  op2 : W.cell? ⟨p, 2, none⟩ = some (.bool m)
  i : PoI w W z g cv y k'
  gr : W3.grownBy W (some g)
theorem law_call {w wr : World} {z g : Nat} {cv : Array Value} {x : PoS} {k : Int} (kk bb t : Int) (m : Bool) (hI : PoI w wr z g cv x k) (hb : poBad t x = false) (ht : t ≤ 5000 * (k + 1)) :
    Calls Try.prog 11 #[.pointer (some ⟨g, 0, none⟩), .agg #[.int .i64 kk, .int .i64 bb, .bool m], .int .i64 t] (wr.alloc (.cells #[.int .i64 kk, .int .i64 bb, .bool m] 36)) fun e w2 =>
      ∃ A n c, e = .returned (.tuple #[.slice A n c, .int .i64 0]) ∧ PoA w (wr.alloc (.cells #[.int .i64 kk, .int .i64 bb, .bool m] 36)) w2 z g wr.heap.size cv (poStep (kdO kk m) t x) (k + 1) kk bb m A n c (poStepL (kdO kk m) t x) := by
  have I3 := hI.later ((Below.refl _ _).alloc (Nat.le_refl _) (.cells #[.int .i64 kk, .int .i64 bb, .bool m] 36))
  have hp : Blk (wr.alloc (.cells #[.int .i64 kk, .int .i64 bb, .bool m] 36)) wr.heap.size 36 [.int .i64 kk, .int .i64 bb, .bool m] := blk_new _ _ _
  have hlt := hI.pb.lt
  refine (call_any g x kk bb t m _ I3.pb hI.ok hb).mono ?_
  rintro e w2 ⟨v, rfl, ho, hy, hg⟩
  obtain ⟨A, c, rfl, hc, hz⟩ := ho.slice
  have hp2 := Blk.grown hp hg (fun e => by injection e with e; omega)
  have hnow : (poStep (kdO kk m) t x).now ≤ 5000 * (k + 1) := by
    have hz : TmJ x 0 0 (-1) ∨ True := .inr trivial
    have e1 : (poSet (poAt x t)).now = t := by
      obtain ⟨y, L, e1, _, hc⟩ := set_cases (poAt x t) hI.ok.st
      rw [e1]
      rcases hc with ⟨_, _, ⟨_, rfl⟩, _⟩ | ⟨_, _, rfl, _⟩ | ⟨_, _, _, rfl, _⟩ | ⟨_, _, _, rfl, _⟩ | ⟨_, _, rfl, _⟩ | ⟨_, _, rfl, _⟩ <;> rfl
    have hb2 := of_decide_eq_false hb
    have hz2 : PoOk (poSet (poAt x t)) := poSet_ok (poAt_ok hI.ok (by omega) (by omega))
    have d3 := (tm_do (k := kdO kk m) (z := poSet (poAt x t)) (began := (poSet (poAt x t)).ran) (last := (poSet (poAt x t)).us) (ended := -1) hz2 ⟨fun _ => ⟨rfl, rfl⟩, by have := hz2.now; omega, fun h => absurd h (by omega)⟩).2.2.1
    show (poDo (kdO kk m) (poSet (poAt x t))).now ≤ _
    rw [d3, e1]
    exact ht
  refine ⟨A, _, c, rfl, ho.rd.1, ho, hp2.cell 0, hp2.cell 1, hp2.cell 2, I3.step hg hy (poStep_ok hI.ok hb) hnow, hg⟩
end Go.Proofs.Ytdjifjlkpimiaaa
