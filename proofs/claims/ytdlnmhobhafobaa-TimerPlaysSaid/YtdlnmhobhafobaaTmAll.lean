/-
  (*timer.Queue).All: the iterator over the timers that are there: its contract.
-/
import Derived.Test.YtdlnmhobhafobaaTmBase
namespace Go.Proofs.Ytdlnmhobhafobaa
open Go.RowKit Go.Shelf
set_option maxRecDepth 100000
set_option maxHeartbeats 2000000
set_option linter.unusedSimpArgs false
set_option linter.unusedVariables false
attribute [local go_sem] Oper.semAt_some

/-- a queue of timers -/
structure Qs (W : World) (base g : Nat) (xs : List T2) (v : Value) : Prop where
  blk : Blk W g 92 [v]
  own : OwnT W base v xs
  ne : v.ownBlock ≠ some g
theorem Qs.later {w W : World} {base g : Nat} {xs : List T2} {v : Value} (h : Qs w base g xs v) (hB : Below w.heap.size w W) : Qs W base g xs v :=
  ⟨(hB.block g (Blk.lt h.blk)).trans h.blk, h.own.later hB, h.ne⟩

/-- what is read between two rounds: the row of timers -/
def KeepV (v : Value) (W W' : World) : Prop := W.heap.size ≤ W'.heap.size ∧ ∀ k, v.ownBlock = some k → W'.heap[k]? = W.heap[k]?
theorem KeepV.trans {v : Value} {a b c : World} (h : KeepV v a b) (k : KeepV v b c) : KeepV v a c := ⟨Nat.le_trans h.1 k.1, fun i e => (k.2 i e).trans (h.2 i e)⟩
theorem keepV_b {v : Value} {w : World} (hv : ∀ k, v.ownBlock = some k → k < w.heap.size) (W : World) (l : Nat) (o o' : Obj) (hl : w.heap.size ≤ l) (h : W.heap[l]? = some o) (_ : o.isCells = false) (_ : o.isWalk = false) : KeepV v W (W.putObj l o') :=
  ⟨by simp, fun k e => by
    have h1 := hv k e
    have h2 := (Array.getElem?_eq_some_iff.1 h).1
    exact (grownBy_putObj' W l o').block k (by omega) (by intro e; injection e with e; omega)⟩
theorem OwnT.keepV {w w' : World} {base : Nat} {v : Value} {xs : List T2} (h : OwnT w base v xs) (hk : KeepV v w w') : OwnT w' base v xs := by
  refine ⟨h.1, ?_⟩
  rcases h.2 with h0 | ⟨g, cap, cur, e, hb, hg, h1, h2, h3, h4⟩
  · exact .inl h0
  · exact .inr ⟨g, cap, cur, e, hb, (hk.2 g (by rw [e]; simp [Value.ownBlock])).trans hg, h1, h2, h3, h4⟩
def encT (x : T2) : Array Value := #[.int .i64 x.1, .int .i64 x.2]
theorem take_one_more {α : Type} {l : List α} {k : Nat} {x : α} (h : l[k]? = some x) : l.take (k + 1) = l.take k ++ [x] := by
  rw [List.take_add_one, h]
  rfl
theorem all1_in (n : Nat) (hn : 1 ≤ n) (lp Bs base : Nat) (v : Value) (xs : List T2) (J Jx : List T2 → World → Prop) (W : World) (hJ : AbidesFrom W.heap.size J)
    (hY : ∀ pre x W, J pre W → pre.length < xs.length → YieldAt Fence.wide (n - 1) Try.prog lp (encT x) W fun e W' =>
      (e = .returned (.bool true) ∧ J (pre ++ [x]) W' ∧ KeepV v W W') ∨ (e = .returned (.bool false) ∧ Jx (pre ++ [x]) W'))
    (hBs : W.cell? ⟨Bs, 0, none⟩ = some v) (ho : OwnT W base v xs) (hm : xs.length ≤ 1152921504606846976) (h0 : J [] W) :
    CallsIn Fence.wide n Try.prog 99 #[.func (.yield lp) #[] #[], .pointer (some ⟨Bs, 0, none⟩)] W fun e W' => (∃ v, e = .returned v) ∧
      ((∃ ys, ys = xs ∧ J ys W') ∨ (∃ pre, (∃ k, k ≤ xs.length ∧ pre = xs.take k) ∧ Jx pre W')) := by
  have HJ := Lib.hid hJ
  have HY := Lib.hid hY
  obtain ⟨A, c, hv, _⟩ := ho.slice
  obtain ⟨N, hN⟩ : ∃ N, N = xs.length := ⟨_, rfl⟩
  rw [← hN] at hv hm HY ⊢
  rw [hv] at hBs
  have HV := Lib.hid hv
  have HN := Lib.hid hN
  have HO := Lib.hid ho
  clear hJ hY hv hN ho
  refine callsIn_of_wp Try.func99 rfl trivial ?_ rfl
  simp only [Try.ntmps99, List.size_toArray, List.length_cons, List.length_nil, Nat.reduceAdd, Nat.reduceSub, Array.replicate_succ, Array.replicate_zero, List.push_toArray, List.append_toArray, List.nil_append, List.cons_append]
  gi_wp2
  gi_loopw [7] (fun vi wr => ∃ k : Nat, vi = .int .i64 k ∧ k ≤ N ∧ J (xs.take k) wr ∧ OwnT wr base v xs ∧ W.heap.size ≤ wr.heap.size) (fun vi _ => N - (intOf vi).toNat)
  case atStart => exact ⟨0, rfl, by omega, h0, HO.out, Nat.le_refl _⟩
  case round =>
    rename World => wo
    obtain ⟨k, rfl, hk, hJs, how, hsz⟩ := hrel
    by_cases hlt : k < N
    · obtain ⟨x, hx⟩ : ∃ x, xs[k]? = some x := ⟨xs[k]'(by have := HN.out; omega), List.getElem?_eq_getElem _⟩
      obtain ⟨g', cap, hA, hb, hg, hc, hcm⟩ : ∃ g' cap, v = .slice (some ⟨g', 0, none⟩) xs.length cap ∧ base ≤ g' ∧ g' < wo.heap.size ∧ xs.length ≤ cap ∧ cap ≤ maxLen := by
        rcases how.form with ⟨_, e⟩ | h
        · rw [e] at hx; simp at hx
        · exact h
      obtain rfl : A = some ⟨g', 0, none⟩ := by
        have h := HV.out.symm.trans hA
        injection h with h
      have how2 : OwnT wo base (.slice (some ⟨g', 0, none⟩) xs.length cap) xs := by rw [← hA]; exact how
      obtain ⟨c0, c1⟩ := how2.cell k x hx
      have hne : wo.heap.size ≠ g' := by omega
      have hk0 : (0 : Int) ≤ (k : Int) := by omega
      have hkN : (k : Int) < (N : Int) := by omega
      have hB5 : Below wo.heap.size wo (wo.alloc (.cells (cellsT x).toArray 95)) := (Below.refl wo.heap.size wo).alloc (Nat.le_refl _) _
      have hJw := HJ.out _ wo _ none hJs (grown_of_below hB5) (fun r e => nomatch e)
      obtain ⟨fn, tmps, assign, body, hy, hR⟩ := HY.out _ x _ hJw (by rw [List.length_take, ← HN.out]; omega)
      rw [show encT x = #[.int .i64 x.1, .int .i64 x.2] from rfl] at hy
      have HR3 := Lib.hid hR
      have HB5 := Lib.hid hB5
      have HX := Lib.hid hx
      have HOW := Lib.hid how
      have HA := Lib.hid hA
      clear hx how how2 hA hR hB5 hJw
      unfold cellsT at hy
      gi_wp2
      refine HR3.out.mono ?_
      rintro e W4' (⟨rfl, hJ3, hk3⟩ | ⟨rfl, hJx3⟩)
      · gi_wp2
        go_roundw
        case rel =>
          have hsz4 := HB5.out.size
          have hO5 := HOW.out.later HB5.out
          refine ⟨k + 1, by go_num, by omega, ?_, OwnT.keepV hO5 hk3, by have := hk3.1; omega⟩
          rw [take_one_more HX.out]
          exact hJ3
        case measure => simp [intOf]; omega
      · gi_wp2
        refine bodyPost_ret (results_none rfl _ _ _) rfl ?_
        refine ⟨⟨_, rfl⟩, .inr ⟨_, ⟨k + 1, by omega, ?_⟩, hJx3⟩⟩
        exact (take_one_more HX.out).symm
    · obtain rfl : k = N := by omega
      rw [show xs.take k = xs by rw [HN.out, List.take_length]] at hJs
      have HJS := Lib.hid hJs
      clear hJs how
      gi_wp2
      go_end0
      exact ⟨⟨_, rfl⟩, .inl ⟨_, rfl, HJS.out⟩⟩
theorem all_stops (n : Nat) (hn : 1 ≤ n) (Bs base : Nat) (v : Value) (xs : List T2) (w : World) (hBs : w.cell? ⟨Bs, 0, none⟩ = some v) (hlt : Bs < w.heap.size) (ho : OwnT w base v xs) (hm : xs.length ≤ 1152921504606846976) :
    SeqStopsK Fence.wide n Try.prog 99 #[.pointer (some ⟨Bs, 0, none⟩)] encT (KeepV v) (fun ys => ys = xs) (fun pre => ∃ k, k ≤ xs.length ∧ pre = xs.take k) xs.length w := fun lp J Jx W hW hJ _ hY h0 =>
  all1_in n hn lp Bs base v xs J Jx W hJ hY ((hW.cell (p := ⟨Bs, 0, none⟩) hlt).trans hBs) (ho.later hW) hm h0
theorem all_any (base g : Nat) (xs : List T2) (v : Value) (w : World) (h : Qs w base g xs v) (hm : 16 * xs.length ≤ 140737488355328) :
    Calls Try.prog 71 #[.pointer (some ⟨g, 0, none⟩)] w fun e w' => ∃ v', e = .returned (.func (.func 99) #[] #[.pointer (some ⟨w.heap.size, 0, none⟩)]) ∧
      Blk w' w.heap.size 90 [v'] ∧ OwnT w' (w.heap.size + 1) v' xs ∧ Below w.heap.size w w' := by
  have hgl := Blk.lt h.blk
  have hB1 : Below w.heap.size w (w.alloc (.cells #[.slice none 0 0] 90)) := (Below.refl _ _).alloc (Nat.le_refl _) _
  have CL := Lib.hid (tclone_any _ base v xs (h.own.later hB1) hm)
  have hc0 : w.cell? ⟨g, 0, none⟩ = some v := h.blk.cell 0
  have hne : w.heap.size ≠ g := by omega
  have HB1 := Lib.hid hB1
  obtain ⟨A, c, rfl, _⟩ := h.own.slice
  clear h hB1
  go_enter Try.func71, Try.ntmps71
  go_wp2_with fail
  refine CL.out.mono ?_
  rintro e w2 ⟨v', rfl, ho2, hb2⟩
  have hs2 := hb2.size
  rw [World.size_alloc] at hs2 ho2 hb2
  have hb2' : Below (w.heap.size + 1) (w.alloc (.cells #[.slice none 0 0] 90)) w2 := hb2
  have hk2 : Blk w2 w.heap.size 90 [.slice none 0 0] := (hb2'.block w.heap.size (by omega)).trans (blk_new w _ _)
  have hset : w2.grownBy (w2.setCell ⟨w.heap.size, 0, none⟩ v') (some w.heap.size) := only_set _
  have POST : Hid (Blk (w2.setCell ⟨w.heap.size, 0, none⟩ v') w.heap.size 90 [v'] ∧ OwnT (w2.setCell ⟨w.heap.size, 0, none⟩ v') (w.heap.size + 1) v' xs ∧ Below w.heap.size w (w2.setCell ⟨w.heap.size, 0, none⟩ v')) := by
    refine ⟨hk2.set_ 0 v', ho2.grown hset ?_, (HB1.out.trans (hb2'.mono (by omega))).grown hset (by omega) (fun k e => by cases e; exact Nat.le_refl _)⟩
    cases hv : v'.ownBlock with
    | none => exact .inl rfl
    | some k =>
      refine .inr fun e => ?_
      injection e with e
      have := (ho2.block k hv).1
      omega
  have kc : w2.cell? ⟨w.heap.size, 0, none⟩ = some (.slice none 0 0) := hk2.cell 0
  have kf : w2.frozen? ⟨w.heap.size, 0, none⟩ = false := hk2.frozen 0
  obtain ⟨A', c', rfl, _⟩ := ho2.slice
  clear hb2 hb2' hk2 hset ho2
  go_wp2
  go_ret
  exact ⟨_, rfl, POST.out⟩
theorem all_nil (w : World) : Calls Try.prog 71 #[.pointer none] w fun e w' => e = .returned (.func (.func 99) #[] #[.pointer (some ⟨w.heap.size, 0, none⟩)]) ∧ w' = w.alloc (.cells #[.slice none 0 0] 90) := by
  go_enter Try.func71, Try.ntmps71
  go_wp2
  go_ret
  exact ⟨rfl, rfl⟩
end Go.Proofs.Ytdlnmhobhafobaa
