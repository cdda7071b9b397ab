/-
  (*md5.Stream).Blocks: the iterator over the words behind each whole block: its contract. Reset.
-/
import Derived.Test.YtnlhjlmjbmaipaaDoorMdFrame
namespace Go.Proofs.YtnlhjlmjbmaipaaDoor
open Go.RowKit Go.Shelf
set_option maxRecDepth 100000
set_option maxHeartbeats 2000000
set_option linter.unusedSimpArgs false
set_option linter.unusedVariables false
attribute [local go_sem] Oper.semAt_some

/-- what is read between two rounds: the row of words -/
def KeepV (v : Value) (W W' : World) : Prop := W.heap.size ≤ W'.heap.size ∧ ∀ k, v.ownBlock = some k → W'.heap[k]? = W.heap[k]?
theorem KeepV.trans {v : Value} {a b c : World} (h : KeepV v a b) (k : KeepV v b c) : KeepV v a c := ⟨Nat.le_trans h.1 k.1, fun i e => (k.2 i e).trans (h.2 i e)⟩
theorem keepV_b {v : Value} {w : World} (hv : ∀ k, v.ownBlock = some k → k < w.heap.size) (W : World) (l : Nat) (o o' : Obj) (hl : w.heap.size ≤ l) (h : W.heap[l]? = some o) (_ : o.isCells = false) (_ : o.isWalk = false) : KeepV v W (W.putObj l o') :=
  ⟨by simp, fun k e => by
    have h1 := hv k e
    have h2 := (Array.getElem?_eq_some_iff.1 h).1
    exact (grownBy_putObj' W l o').block k (by omega) (by intro e; injection e with e; omega)⟩
theorem OwnW.keepV {w w' : World} {base : Nat} {v : Value} {vs : List W4} (h : OwnW w base v vs) (hk : KeepV v w w') : OwnW w' base v vs := by
  refine ⟨h.1, ?_⟩
  rcases h.2 with h0 | ⟨g, cap, cur, e, hb, hg, h1, h2, h3, h4⟩
  · exact .inl h0
  · exact .inr ⟨g, cap, cur, e, hb, (hk.2 g (by rw [e]; simp [Value.ownBlock])).trans hg, h1, h2, h3, h4⟩
theorem take_one_more {α : Type} {l : List α} {k : Nat} {x : α} (h : l[k]? = some x) : l.take (k + 1) = l.take k ++ [x] := by
  rw [List.take_add_one, h]
  rfl
def encW (V : W4) : Array Value := #[.agg (partB V 16).toArray]
theorem sblocks_any (g n : Nat) (w : World) (v : Value) (hc : w.cell? ⟨g, 0, none⟩ = some v) (hv : ∃ A n c, v = .slice A n c) (hg : g < w.heap.size) : Calls Tryd.prog 27 #[.pointer (some ⟨g, 0, none⟩)] w fun e w' => e = .returned (.func (.func 39) #[] #[.pointer (some ⟨w.heap.size, 0, none⟩)]) ∧ w' = w.alloc (.cells #[v] 41) := by
  obtain ⟨A, n, c, rfl⟩ := hv
  have hne : w.heap.size ≠ g := by omega
  go_enter Tryd.func27, Tryd.ntmps27
  go_wp2
  go_ret
  exact ⟨rfl, rfl⟩
theorem sblocks1_in (n : Nat) (hn : 1 ≤ n) (lp Bs base : Nat) (v : Value) (vs : List W4) (J Jx : List W4 → World → Prop) (W : World) (hJ : AbidesFrom W.heap.size J)
    (hY : ∀ pre x W, J pre W → pre.length < vs.length → YieldAt Fence.wide (n - 1) Tryd.prog lp (encW x) W fun e W' =>
      (e = .returned (.bool true) ∧ J (pre ++ [x]) W' ∧ KeepV v W W') ∨ (e = .returned (.bool false) ∧ Jx (pre ++ [x]) W'))
    (hBs : W.cell? ⟨Bs, 0, none⟩ = some v) (ho : OwnW W base v vs) (hok : ∀ x ∈ vs, x.ok) (hm : vs.length ≤ 1152921504606846976) (h0 : J [] W) :
    CallsIn Fence.wide n Tryd.prog 39 #[.func (.yield lp) #[] #[], .pointer (some ⟨Bs, 0, none⟩)] W fun e W' => (∃ v, e = .returned v) ∧
      ((∃ ys, ys = vs ∧ J ys W') ∨ (∃ pre, (∃ k, k ≤ vs.length ∧ pre = vs.take k) ∧ Jx pre W')) := by
  have HJ := Lib.hid hJ
  have HY := Lib.hid hY
  have HOK := Lib.hid hok
  obtain ⟨A, c, hv⟩ : ∃ A c, v = .slice A vs.length c := by
    rcases ho.form with ⟨e, e2⟩ | ⟨g', cap, e, _⟩
    · exact ⟨none, 0, by rw [e, e2]; rfl⟩
    · exact ⟨_, cap, e⟩
  obtain ⟨N, hN⟩ : ∃ N, N = vs.length := ⟨_, rfl⟩
  rw [← hN] at hv hm HY ⊢
  rw [hv] at hBs
  have HV := Lib.hid hv
  have HN := Lib.hid hN
  have HO := Lib.hid ho
  clear hJ hY hok hv hN ho
  refine callsIn_of_wp Tryd.func39 rfl trivial ?_ rfl
  simp only [Tryd.ntmps39, List.size_toArray, List.length_cons, List.length_nil, Nat.reduceAdd, Nat.reduceSub, Array.replicate_succ, Array.replicate_zero, List.push_toArray, List.append_toArray, List.nil_append, List.cons_append]
  gi_wp2
  gi_loopw [7] (fun vi wr => ∃ k : Nat, vi = .int .i64 k ∧ k ≤ N ∧ J (vs.take k) wr ∧ OwnW wr base v vs ∧ W.heap.size ≤ wr.heap.size) (fun vi _ => N - (intOf vi).toNat)
  case atStart => exact ⟨0, rfl, by omega, h0, HO.out, Nat.le_refl _⟩
  case round =>
    rename World => wo
    obtain ⟨k, rfl, hk, hJs, how, hsz⟩ := hrel
    by_cases hlt : k < N
    · obtain ⟨x, hx⟩ : ∃ x, vs[k]? = some x := ⟨vs[k]'(by have := HN.out; omega), List.getElem?_eq_getElem _⟩
      have hxok : x.ok := HOK.out x (List.mem_of_getElem? hx)
      obtain ⟨g', cap, hA, hb, hg, hc, hcm⟩ : ∃ g' cap, v = .slice (some ⟨g', 0, none⟩) vs.length cap ∧ base ≤ g' ∧ g' < wo.heap.size ∧ vs.length ≤ cap ∧ cap ≤ maxLen := by
        rcases how.form with ⟨_, e⟩ | h
        · rw [e] at hx; simp at hx
        · exact h
      obtain rfl : A = some ⟨g', 0, none⟩ := by
        have h := HV.out.symm.trans hA
        injection h with h
      have how2 : OwnW wo base (.slice (some ⟨g', 0, none⟩) vs.length cap) vs := by rw [← hA]; exact how
      have c0 := how2.cell k 0 x hx (by omega) (.int .u32 x.a) rfl
      have c1 := how2.cell k 1 x hx (by omega) (.int .u32 x.b) rfl
      have c2 := how2.cell k 2 x hx (by omega) (.int .u32 x.c) rfl
      have c3 := how2.cell k 3 x hx (by omega) (.int .u32 x.d) rfl
      rw [show 4 * k + 0 = k * 4 by omega] at c0
      rw [show 4 * k + 1 = k * 4 + 1 by omega] at c1
      rw [show 4 * k + 2 = k * 4 + 2 by omega] at c2
      rw [show 4 * k + 3 = k * 4 + 3 by omega] at c3
      have hne : wo.heap.size ≠ g' := by omega
      have hk0 : (0 : Int) ≤ (k : Int) := by omega
      have hkN : (k : Int) < (N : Int) := by omega
      have BA := Lib.hid (bytes_any x (wo.alloc (.cells (cells4 x).toArray 50)) hxok)
      have HB3 := Lib.hid ((Below.refl wo.heap.size wo).alloc (Nat.le_refl _) (.cells (cells4 x).toArray 50))
      have HX := Lib.hid hx
      have HOW := Lib.hid how
      have HA := Lib.hid hA
      clear hx how how2 hA
      gi_wp2_with fail
      refine ⟨trivial, ?_⟩
      refine (callsIn_wide.2 BA.out).mono ?_
      rintro e w5 ⟨rfl, hb5⟩
      have hB5 : Below wo.heap.size wo w5 := HB3.out.trans (hb5.mono (by simp))
      have hJw := HJ.out _ wo w5 none hJs (grown_of_below hB5) (fun r e => nomatch e)
      obtain ⟨fn, tmps, assign, body, hy, hR⟩ := HY.out _ x w5 hJw (by rw [List.length_take, ← HN.out]; omega)
      have HR3 := Lib.hid hR
      have HB5 := Lib.hid hB5
      rw [show encW x = #[.agg (partB x 16).toArray] from rfl] at hy
      clear hR hb5 hB5 hJw
      gi_wp2
      refine HR3.out.mono ?_
      rintro e W4' (⟨rfl, hJ3, hk3⟩ | ⟨rfl, hJx3⟩)
      · gi_wp2
        go_roundw
        case rel =>
          have hsz4 := HB5.out.size
          have hO5 := HOW.out.kept (row := none) (grown_of_below HB5.out) (Classical.em _)
          refine ⟨k + 1, by go_num, by omega, ?_, OwnW.keepV hO5 hk3, by have := hk3.1; omega⟩
          rw [take_one_more HX.out]
          exact hJ3
        case measure => simp [intOf]; omega
      · gi_wp2
        refine bodyPost_ret (results_none rfl _ _ _) rfl ?_
        refine ⟨⟨_, rfl⟩, .inr ⟨_, ⟨k + 1, by omega, ?_⟩, hJx3⟩⟩
        exact (take_one_more HX.out).symm
    · obtain rfl : k = N := by omega
      rw [show vs.take k = vs by rw [HN.out, List.take_length]] at hJs
      have HJS := Lib.hid hJs
      clear hJs how
      gi_wp2
      go_end0
      exact ⟨⟨_, rfl⟩, .inl ⟨_, rfl, HJS.out⟩⟩
theorem sblocks_stops (n : Nat) (hn : 1 ≤ n) (Bs base : Nat) (v : Value) (vs : List W4) (w : World) (hBs : w.cell? ⟨Bs, 0, none⟩ = some v) (hlt : Bs < w.heap.size) (ho : OwnW w base v vs) (hok : ∀ x ∈ vs, x.ok) (hm : vs.length ≤ 1152921504606846976) :
    SeqStopsK Fence.wide n Tryd.prog 39 #[.pointer (some ⟨Bs, 0, none⟩)] encW (KeepV v) (fun ys => ys = vs) (fun pre => ∃ k, k ≤ vs.length ∧ pre = vs.take k) vs.length w := fun lp J Jx W hW hJ _ hY h0 =>
  sblocks1_in n hn lp Bs base v vs J Jx W hJ hY ((hW.cell (p := ⟨Bs, 0, none⟩) hlt).trans hBs) (ho.kept (row := none) (grown_of_below hW) (Classical.em _)) hok hm h0
end Go.Proofs.YtnlhjlmjbmaipaaDoor

