/-
  slices.Backward over options: the iterator's contract.
-/
import Derived.RangeFuncNested
import Derived.RangeFuncBound
import Derived.RangeFuncCalls
import Derived.RangeFuncLeaves
import Derived.Shelf.Abstract
import Derived.Shelf.RegionOpen
import Derived.WalkKit
import Derived.OwnWalkIn
import Derived.TacticsInMore
import Derived.LoopNIn
import Derived.LoopIn
import Derived.Deep.Slices
import Derived.Test.YtciijnhagdfpiaaOpList
namespace Go.Proofs.Ytciijnhagdfpiaa
open Go.RowKit Go.Shelf
set_option maxRecDepth 100000
set_option maxHeartbeats 2000000
set_option linter.unusedSimpArgs false
set_option linter.unusedVariables false
attribute [local go_sem] Oper.semAt_some

/-- a list of options by its cells -/
structure OF where
  K : Nat → Int
  E : Nat → Option Addr
  k : Nat → Nat
  c : Nat → Nat
def OF.at (o : OF) (W : World) (C : Nat) (A : Option Addr) (n : Nat) : Prop := 0 < n → ∃ b off, A = some ⟨b, off, none⟩ ∧ b < C ∧ ∀ i, i < n → W.cell? ⟨b, off + i * 2, none⟩ = some (.int .i64 (o.K i)) ∧ W.cell? ⟨b, off + i * 2 + 1, none⟩ = some (.slice (o.E i) (o.k i) (o.c i))
theorem OF.at.below {o : OF} {W W' : World} {C D n : Nat} {A : Option Addr} (h : o.at W C A n) (hb : Below D W W') (hC : C ≤ D) : o.at W' C A n := fun h0 => by
  obtain ⟨b, off, e, hl, hc⟩ := h h0
  exact ⟨b, off, e, hl, fun i hi => ⟨(hb.cell (by show b < D; omega)).trans (hc i hi).1, (hb.cell (by show b < D; omega)).trans (hc i hi).2⟩⟩
theorem optf_of {w : World} {B n : Nat} {A : Option Addr} {s : List Opt} (h : OptRd w B A n s) : ∃ o : OF, o.at w B A n ∧ ∀ i (hi : i < s.length), o.K i = s[i].1 ∧ Rd w B (o.E i) (o.k i) s[i].2 ∧ (o.E i = none → o.c i = 0) ∧ o.k i ≤ o.c i ∧ o.k i ≤ 140737488351232 := by
  by_cases h0 : 0 < n
  · obtain ⟨b, off, e, hl, hc⟩ := h.2 h0
    have hlen := h.1
    have each : ∀ i, i < n → ∃ q : Option Addr × Nat × Nat, ∀ (hi : i < s.length), w.cell? ⟨b, off + i * 2, none⟩ = some (.int .i64 s[i].1) ∧ w.cell? ⟨b, off + i * 2 + 1, none⟩ = some (.slice q.1 q.2.1 q.2.2) ∧ Rd w B q.1 q.2.1 s[i].2 ∧ (q.1 = none → q.2.2 = 0) ∧ q.2.1 ≤ q.2.2 ∧ q.2.1 ≤ 140737488351232 := by
      intro i hi
      obtain ⟨c1, E, kk, cc, c2, h3⟩ := hc i (by omega)
      exact ⟨(E, kk, cc), fun _ => ⟨c1, c2, h3⟩⟩
    obtain ⟨Q, hQ⟩ := Go.Deep.choose_lt each
    refine ⟨⟨fun i => (s.getD i (0, [])).1, fun i => (Q i).1, fun i => (Q i).2.1, fun i => (Q i).2.2⟩, fun _ => ⟨b, off, e, hl, fun i hi => ?_⟩, fun i hi => ?_⟩
    · have hi' : i < s.length := by omega
      obtain ⟨c1, c2, _⟩ := hQ i hi hi'
      refine ⟨?_, c2⟩
      show w.cell? _ = some (.int .i64 (s.getD i (0, [])).1)
      rw [List.getD_eq_getElem?_getD, List.getElem?_eq_getElem hi']
      exact c1
    · obtain ⟨_, _, h3⟩ := hQ i (by omega) hi
      refine ⟨?_, h3⟩
      show (s.getD i (0, [])).1 = _
      rw [List.getD_eq_getElem?_getD, List.getElem?_eq_getElem hi]
      rfl
  · refine ⟨⟨fun _ => 0, fun _ => none, fun _ => 0, fun _ => 0⟩, fun h1 => absurd h1 h0, fun i hi => ?_⟩
    have := h.1
    omega
def encB (o : OF) (n : Nat) (x : Fin n) : Array Value := #[.int .i64 (x.1 : Int), .agg #[.int .i64 (o.K x.1), .slice (o.E x.1) (o.k x.1) (o.c x.1)]]
def revs (n : Nat) : List (Fin n) := (List.finRange n).reverse
theorem revs_length (n : Nat) : (revs n).length = n := by simp [revs]
theorem revs_at (n q : Nat) (h : q < n) : (revs n)[n - (q + 1)]? = some ⟨q, h⟩ := by
  unfold revs
  rw [List.getElem?_reverse (by simp; omega), List.length_finRange, List.getElem?_eq_getElem (by simp; omega), List.getElem_finRange]
  congr 1
  apply Fin.ext
  simp
  omega
theorem take_one_more6 {α : Type} {l : List α} {k : Nat} {x : α} (h : l[k]? = some x) : l.take (k + 1) = l.take k ++ [x] := by
  rw [List.take_add_one, h]
  rfl
theorem back1_in (m : Nat) (hm : 1 ≤ m) (lp Bs C : Nat) (A : Option Addr) (n c : Nat) (o : OF) (J Jx : List (Fin n) → World → Prop) (W : World) (hJ : AbidesFrom W.heap.size J)
    (hY : ∀ pre x W, J pre W → pre.length < n → YieldAt Fence.wide (m - 1) Try.prog lp (encB o n x) W fun e W' =>
      (e = .returned (.bool true) ∧ J (pre ++ [x]) W' ∧ Below C W W') ∨ (e = .returned (.bool false) ∧ Jx (pre ++ [x]) W'))
    (hBs : W.cell? ⟨Bs, 0, none⟩ = some (.slice A n c)) (hlt : Bs < C) (ho : o.at W C A n) (hn : n ≤ 1152921504606846976) (h0 : J [] W) :
    CallsIn Fence.wide m Try.prog 50 #[.func (.yield lp) #[] #[], .pointer (some ⟨Bs, 0, none⟩)] W fun e W' => (∃ v, e = .returned v) ∧
      ((∃ ys, ys = revs n ∧ J ys W') ∨ (∃ pre, (∃ k, k ≤ n ∧ pre = (revs n).take k) ∧ Jx pre W')) := by
  have HJ := Lib.hid hJ
  have HY := Lib.hid hY
  have HO := Lib.hid ho
  have HBS := Lib.hid hBs
  clear hJ hY ho
  refine callsIn_of_wp Try.func50 rfl trivial ?_ rfl
  simp only [Try.ntmps50, List.size_toArray, List.length_cons, List.length_nil, Nat.reduceAdd, Nat.reduceSub, Array.replicate_succ, Array.replicate_zero, List.push_toArray, List.append_toArray, List.nil_append, List.cons_append]
  gi_wp2
  gi_loopw [3] (fun vi wr => ∃ z : Int, vi = .int .i64 z ∧ -1 ≤ z ∧ z < n ∧ J ((revs n).take (n - (z + 1).toNat)) wr ∧ Below C W wr) (fun vi _ => (intOf vi + 1).toNat)
  case atStart =>
    refine ⟨_, rfl, by omega, by omega, ?_, Below.refl _ _⟩
    rw [show n - ((n : Int) - 1 + 1).toNat = 0 by omega]
    exact h0
  case round =>
    rename World => wo
    obtain ⟨z, rfl, hz1, hzn, hJs, hBw⟩ := hrel
    have d1 : wo.cell? ⟨Bs, 0, none⟩ = some (.slice A n c) := (hBw.cell (p := ⟨Bs, 0, none⟩) hlt).trans HBS.out
    by_cases hz : 0 ≤ z
    · obtain ⟨q, rfl⟩ := Int.eq_ofNat_of_zero_le hz
      have hq : q < n := by omega
      obtain ⟨b, off, rfl, hbl, hc⟩ := HO.out (by omega)
      obtain ⟨c0', c1'⟩ := hc q hq
      have c0 := (hBw.cell (p := ⟨b, off + q * 2, none⟩) hbl).trans c0'
      have c1 := (hBw.cell (p := ⟨b, off + q * 2 + 1, none⟩) hbl).trans c1'
      have e1 : ((q : Int) + 1).toNat = q + 1 := by omega
      rw [e1] at hJs
      obtain ⟨fn, tmps, assign, body, hy, hR⟩ := HY.out _ ⟨q, hq⟩ _ hJs (by rw [List.length_take, revs_length]; omega)
      rw [show encB o n ⟨q, hq⟩ = #[.int .i64 (q : Int), .agg #[.int .i64 (o.K q), .slice (o.E q) (o.k q) (o.c q)]] from rfl] at hy
      have hst := take_one_more6 (revs_at n q hq)
      rw [show n - (q + 1) + 1 = n - q by omega] at hst
      have HR3 := Lib.hid hR
      have HST := Lib.hid hst
      have HB := Lib.hid hBw
      clear hc c0' c1' hR hst hJs hBw e1
      gi_wp2
      refine HR3.out.mono ?_
      rintro e W4' (⟨rfl, hJ3, hk3⟩ | ⟨rfl, hJx3⟩)
      · gi_wp2
        go_roundw
        case rel =>
          refine ⟨_, rfl, by omega, by omega, ?_, HB.out.trans hk3⟩
          rw [show ((q : Int) - 1 + 1).toNat = q by omega, HST.out]
          exact hJ3
        case measure => simp [intOf]
      · gi_wp2
        refine bodyPost_ret (results_none rfl _ _ _) rfl ?_
        exact ⟨⟨_, rfl⟩, .inr ⟨_, ⟨n - q, by omega, HST.out.symm⟩, hJx3⟩⟩
    · have e : z = -1 := by omega
      subst e
      rw [show n - ((-1 : Int) + 1).toNat = n by simp, List.take_of_length_le (by rw [revs_length]; omega)] at hJs
      have HJS := Lib.hid hJs
      clear hJs
      gi_wp2
      go_end0
      exact ⟨⟨_, rfl⟩, .inl HJS.out⟩
theorem back_stops (m : Nat) (hm : 1 ≤ m) (Bs : Nat) (A : Option Addr) (n c : Nat) (o : OF) (w : World) (hBs : w.cell? ⟨Bs, 0, none⟩ = some (.slice A n c)) (hlt : Bs < w.heap.size) (ho : o.at w w.heap.size A n) (hn : n ≤ 1152921504606846976) :
    SeqStopsK Fence.wide m Try.prog 50 #[.pointer (some ⟨Bs, 0, none⟩)] (encB o n) (Below w.heap.size) (fun ys => ys = revs n) (fun pre => ∃ k, k ≤ n ∧ pre = (revs n).take k) n w := fun lp J Jx W hW hJ _ hY h0 =>
  back1_in m hm lp Bs w.heap.size A n c o J Jx W hJ hY ((hW.cell (p := ⟨Bs, 0, none⟩) hlt).trans hBs) hlt (ho.below hW (Nat.le_refl _)) hn h0
theorem backward_any (A : Option Addr) (n c : Nat) (w : World) : Calls Try.prog 43 #[.slice A n c] w fun e w' => e = .returned (.func (.func 50) #[] #[.pointer (some ⟨w.heap.size, 0, none⟩)]) ∧ w' = w.alloc (.cells #[.slice A n c] 23) := by
  have hmf : ∀ (fn : Fn) (first cap : Array Value) (w : World), (Instr.makeFunc fn first cap).run Try.prog w = .ok (.func fn first cap) w := fun _ _ _ _ => rfl
  go_enter Try.func43, Try.ntmps43
  go_wp2
  go_ret
  exact ⟨rfl, rfl⟩
end Go.Proofs.Ytciijnhagdfpiaa
