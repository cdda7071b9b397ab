/-
  md5.blocks: the iterator over whole blocks: its contract.
-/
import Derived.Lib.Hide
import Derived.RangeFuncNested
import Derived.RangeFuncBound
import Derived.RangeFuncCalls
import Derived.RangeFuncLeaves
import Derived.Shelf.Abstract
import Derived.Shelf.RegionOpen
import Derived.WalkKit
import Derived.OwnWalkIn
import Derived.TacticsInMore
import Derived.LoopNIn
import Derived.LoopIn
import Derived.Test.YtjimoegegigoiaaDoorMdPart
import Derived.Test.YtjimoegegigoiaaDoorSliceFrom
namespace Go.Proofs.YtjimoegegigoiaaDoor
open Go.RowKit Go.Shelf
set_option maxRecDepth 100000
set_option maxHeartbeats 2000000
set_option linter.unusedSimpArgs false
set_option linter.unusedVariables false
attribute [local go_sem] Oper.semAt_some

theorem grown_of_below {w w' : World} (h : Below w.heap.size w w') : w.grownBy w' none := ⟨h.os, h.tape, h.output, h.size, fun i hi _ => h.block i hi⟩
def lenOf : Value → Nat
  | .slice _ n _ => n
  | _ => 0

theorem blocks_in (F : Fence) (n : Nat) (h : F.fn 75) (hro : F.round = none) (A : Option Addr) (nn c : Nat) (w : World) :
    CallsIn F n Tryd.prog 75 #[.slice A nn c] w fun e w' => e = .returned (.func (.func 101) #[] #[.pointer (some ⟨w.heap.size, 0, none⟩)]) ∧ w' = w.alloc (.cells #[.slice A nn c] 22) := by
  refine callsIn_of_wp Tryd.func75 rfl h ?_ hro
  simp only [Tryd.ntmps75, List.size_toArray, List.length_cons, List.length_nil, Nat.reduceAdd, Nat.reduceSub, Array.replicate_succ, Array.replicate_zero, List.push_toArray, List.append_toArray, List.nil_append, List.cons_append]
  gi_wp2
  go_ret
  exact ⟨rfl, rfl⟩

theorem Blk.drewN {w : World} {g t : Nat} {cs : List Value} (h : Blk w g t cs) (k : Nat) : Blk (w.drewN k) g t cs := h
/-- block g is as it was -/
def KeepB (g : Nat) (W W' : World) : Prop := W.heap.size ≤ W'.heap.size ∧ W'.heap[g]? = W.heap[g]?
theorem KeepB.refl (g : Nat) (W : World) : KeepB g W W := ⟨Nat.le_refl _, rfl⟩
theorem KeepB.trans {g : Nat} {A B C : World} (h : KeepB g A B) (k : KeepB g B C) : KeepB g A C := ⟨Nat.le_trans h.1 k.1, k.2.trans h.2⟩
theorem KeepB.below {g n : Nat} {W W' : World} (h : Below n W W') (hg : g < n) : KeepB g W W' := ⟨h.size, h.block g hg⟩
theorem KeepB.grown {g : Nat} {W W' : World} {row : Option Nat} (h : W.grownBy W' row) (hg : g < W.heap.size) (hr : some g ≠ row) : KeepB g W W' := ⟨h.size, h.block g hg hr⟩
theorem keepB_b {g : Nat} {w : World} (hn : g < w.heap.size) (W : World) (l : Nat) (o o' : Obj) (hl : w.heap.size ≤ l) (h : W.heap[l]? = some o) (_ : o.isCells = false) (_ : o.isWalk = false) : KeepB g W (W.putObj l o') :=
  KeepB.grown (grownBy_putObj' W l o') (by have := (Array.getElem?_eq_some_iff.1 h).1; omega) (by intro e; cases e; omega)
theorem rd_keepB {W W' : World} {B N g off : Nat} {m : List UInt8} (h : Rd W B (some ⟨g, off, none⟩) N m) (hk : KeepB g W W') : Rd W' B (some ⟨g, off, none⟩) N m := by
  refine ⟨h.1, fun h0 => ?_⟩
  obtain ⟨b', off', e, hb, hcell⟩ := h.2 h0
  injection e with e
  injection e with e1 e2
  subst e1 e2
  exact ⟨g, off, rfl, hb, fun j hj => (World.cell?_of_block (w := W) hk.2).trans (hcell j hj)⟩
theorem rd_keepC {W W' : World} {B N g off : Nat} {m : List UInt8} (h : Rd W B (some ⟨g, off, none⟩) N m) (hk : ∀ j, j < N → W'.cell? ⟨g, off + j, none⟩ = W.cell? ⟨g, off + j, none⟩) : Rd W' B (some ⟨g, off, none⟩) N m := by
  refine ⟨h.1, fun h0 => ?_⟩
  obtain ⟨b', off', e, hb, hcell⟩ := h.2 h0
  injection e with e
  injection e with e1 e2
  subst e1 e2
  exact ⟨g, off, rfl, hb, fun j hj => (hk j hj).trans (hcell j hj)⟩
theorem rd_from64 {w : World} {B b off N c : Nat} {m : List UInt8} (hr : Rd w B (some ⟨b, off, none⟩) N m) (h : 64 ≤ N) (hc : N ≤ c) :
    Rd w B (if c = 64 then some ⟨b, off, none⟩ else some ⟨b, off + 64, none⟩) (N - 64) (m.drop 64) := by
  have hl := hr.1
  refine ⟨by rw [List.length_drop]; omega, fun h0 => ?_⟩
  obtain ⟨b', off', e, hb, hcell⟩ := hr.2 (by omega)
  injection e with e
  injection e with e1 e2
  subst e1 e2
  rw [if_neg (by omega)]
  refine ⟨b, off + 64, rfl, hb, fun j hj => ?_⟩
  rw [Nat.add_assoc, hcell (64 + j) (by omega), byteAt_drop]

theorem blocks1_in (n : Nat) (hn : 1 ≤ n) (lp Bs n₀ nn c : Nat) (A : Option Addr) (l : List UInt8) (Kp : World → World → Prop) (J Jx : List X16 → World → Prop) (W : World)
    (hn0 : n₀ ≤ W.heap.size) (hJ : AbidesFrom W.heap.size J)
    (hY : ∀ pre x W, J pre W → pre.length < nn / 64 → YieldAt Fence.wide (n - 1) Tryd.prog lp (encX x) W fun e W' =>
      (e = .returned (.bool true) ∧ J (pre ++ [x]) W' ∧ Kp W W') ∨ (e = .returned (.bool false) ∧ Jx (pre ++ [x]) W'))
    (hBs : W.cell? ⟨Bs, 0, none⟩ = some (.slice A nn c)) (hr : Rd W n₀ A nn l) (hc : nn ≤ c) (hm : nn ≤ 140737488351300) (hnil : A = none → c = 0) (hKr : 64 ≤ nn → ∀ b o W1 W2, A = some ⟨b, o, none⟩ → Kp W1 W2 → W1.heap.size ≤ W2.heap.size ∧ ∀ j, j < nn → W2.cell? ⟨b, o + j, none⟩ = W1.cell? ⟨b, o + j, none⟩) (h0 : J [] W) :
    CallsIn Fence.wide n Tryd.prog 101 #[.func (.yield lp) #[] #[], .pointer (some ⟨Bs, 0, none⟩)] W fun e W' => (∃ v, e = .returned v) ∧
      ((∃ ys, ys = uptoX l (nn / 64) ∧ J ys W') ∨ (∃ pre, (∃ k, k ≤ nn / 64 ∧ pre = uptoX l k) ∧ Jx pre W')) := by
  have HJ := Lib.hid hJ
  have HY := Lib.hid hY
  clear hJ hY
  refine callsIn_of_wp Tryd.func101 rfl trivial ?_ rfl
  simp only [Tryd.ntmps101, List.size_toArray, List.length_cons, List.length_nil, Nat.reduceAdd, Nat.reduceSub, Array.replicate_succ, Array.replicate_zero, List.push_toArray, List.append_toArray, List.nil_append, List.cons_append]
  gi_wp2
  gi_loopw [3] (fun v wr => ∃ (k : Nat) (A' : Option Addr) (c' : Nat), k ≤ nn / 64 ∧ v = .slice A' (nn - 64 * k) c' ∧ Rd wr n₀ A' (nn - 64 * k) (l.drop (64 * k)) ∧ nn - 64 * k ≤ c' ∧ (A' = none → c' = 0) ∧ (64 ≤ nn - 64 * k → ∀ b o s, A' = some ⟨b, o, s⟩ → ∃ off, A = some ⟨b, off, none⟩ ∧ o = off + 64 * k ∧ s = none) ∧ J (uptoX l k) wr ∧ n₀ ≤ wr.heap.size)
    (fun v _ => lenOf v)
  case atStart => exact ⟨0, A, c, by omega, rfl, hr, hc, hnil, fun h b o s e => by
    obtain ⟨b', off, e', _, _⟩ := hr.2 (by omega)
    rw [e'] at e
    cases e
    exact ⟨_, e', by omega, rfl⟩, h0, hn0⟩
  case round =>
    rename World => wo
    obtain ⟨k, A', c', hk, rfl, hrd, hcc, hnl, hA', hJs, hsz⟩ := hrel
    obtain ⟨N, hN⟩ : ∃ N, N = nn - 64 * k := ⟨_, rfl⟩
    obtain ⟨m, hml⟩ : ∃ m, m = l.drop (64 * k) := ⟨_, rfl⟩
    rw [← hN] at hrd hcc ⊢
    rw [← hml] at hrd
    by_cases hlt : k < nn / 64
    · have h64 : 64 ≤ N := by omega
      have h64' : (64 : Int) ≤ (N : Int) := by omega
      have HN := Lib.hid hN
      have HM := Lib.hid hml
      clear hN hml
      obtain ⟨b, off, rfl, hb, hcell⟩ := hrd.2 (by omega)
      obtain ⟨off0, hAe, hoff, _⟩ := hA' (by have := HN.out; omega) b off none rfl
      have hKW := Lib.hid (fun W1 W2 => hKr (by omega) b off0 W1 W2 hAe)
      have HAe := Lib.hid hAe
      have Hoff := Lib.hid hoff
      clear hAe hoff
      clear hA'
      have HC := Lib.hid hcell
      have HR := Lib.hid hrd
      clear hcell hrd
      gi_wp2
      gi_loopw [16] (fun vi wr => ∃ i : Nat, vi = .int .i64 i ∧ i ≤ 64 ∧ Blk wr wo.heap.size 141 (partX m i) ∧ Below wo.heap.size wo wr) (fun vi _ => 64 - (intOf vi).toNat)
      case atStart =>
        have b0 := blk_new wo 141 (partX m 0)
        exact ⟨0, rfl, by omega, by rw [partX_zero] at b0 ⊢; exact b0, (Below.refl _ _).alloc (Nat.le_refl _) _⟩
      case round =>
        obtain ⟨i, rfl, hi, hp, hB⟩ := hrel
        by_cases hli : i < 64
        · have kb : wr.cell? ⟨b, off + i, none⟩ = some (.int .u8 (byteAt m i)) := (hB.cell (p := ⟨b, off + i, none⟩) (by show b < _; omega)).trans (HC.out i (by omega))
          have kx : wr.cell? ⟨wo.heap.size, i / 4, none⟩ = some (.int .u32 (pw m i (i / 4))) := (hp.cell _).trans (partX_at m i (i / 4) (by omega))
          have fx := hp.frozen (i / 4)
          have hor := pw_or m i
          have HP := Lib.hid hp
          have BB := Lib.hid hB
          have y0 := byteAt_lo m i
          have y1 := byteAt_hi m i
          obtain ⟨z0, z1⟩ := pw_bounds m i (i / 4)
          have PS := Lib.hid (partX_set m i hli)
          clear hp hB
          generalize byteAt m i = y at *
          generalize pw m i (i / 4) = z at *
          obtain ⟨q, hq⟩ : ∃ q, q = pw m (i + 1) (i / 4) := ⟨_, rfl⟩
          rw [← hq] at hor PS
          clear hq
          have i0 : (0 : Int) ≤ (i : Int) := by omega
          have i1 : (i : Int) < 64 := by omega
          have i4 : i / 4 < 16 := by omega
          gi_wp2
          gi_region
          gi_wp2
          go_roundw
          case rel =>
            have h1 := Blk.set_ HP.out (i / 4) (.int .u32 q)
            rw [PS.out] at h1
            exact ⟨i + 1, by go_num, by omega, h1.drewN 1, (BB.out.setCell (p := ⟨wo.heap.size, i / 4, none⟩) (Nat.le_refl _) _).drew⟩
          case measure => simp [intOf]; omega
        · obtain rfl : i = 64 := by omega
          have q : ∀ j, j < 16 → wr.cell? ⟨wo.heap.size, j, none⟩ = some (.int .u32 (mdWord m j)) := by
            intro j hj
            rw [hp.cell, partX_at m 64 j hj, pw_all m j hj]
          have q0 := q 0 (by omega)
          have q1 := q 1 (by omega)
          have q2 := q 2 (by omega)
          have q3 := q 3 (by omega)
          have q4 := q 4 (by omega)
          have q5 := q 5 (by omega)
          have q6 := q 6 (by omega)
          have q7 := q 7 (by omega)
          have q8 := q 8 (by omega)
          have q9 := q 9 (by omega)
          have q10 := q 10 (by omega)
          have q11 := q 11 (by omega)
          have q12 := q 12 (by omega)
          have q13 := q 13 (by omega)
          have q14 := q 14 (by omega)
          have q15 := q 15 (by omega)
          clear q
          have hJw := HJ.out _ wo wr none hJs (grown_of_below hB) (fun r e => nomatch e)
          obtain ⟨fn, tmps, assign, body, hy, hR⟩ := HY.out _ (blkX l k) wr hJw (by rw [uptoX_length]; exact hlt)
          rw [show encX (blkX l k) = #[.agg #[.int .u32 (mdWord m 0), .int .u32 (mdWord m 1), .int .u32 (mdWord m 2), .int .u32 (mdWord m 3), .int .u32 (mdWord m 4), .int .u32 (mdWord m 5), .int .u32 (mdWord m 6), .int .u32 (mdWord m 7), .int .u32 (mdWord m 8), .int .u32 (mdWord m 9), .int .u32 (mdWord m 10), .int .u32 (mdWord m 11), .int .u32 (mdWord m 12), .int .u32 (mdWord m 13), .int .u32 (mdWord m 14), .int .u32 (mdWord m 15)]] by rw [HM.out]; rfl] at hy
          have HR3 := Lib.hid hR
          have BB := Lib.hid hB
          clear hR hB hp hJw
          gi_wp2
          refine HR3.out.mono ?_
          rintro e W3 (⟨rfl, hJ3, hk3⟩ | ⟨rfl, hJx3⟩)
          · gi_wp2
            go_roundw
            case rel =>
              obtain ⟨hsz3, hck⟩ := hKW.out _ _ hk3
              have hsz4 := BB.out.size
              have hr3 : Rd W3 n₀ (some ⟨b, off, none⟩) N m := rd_keepC (HR.out.below (BB.out.mono hsz)) (fun j hj => by have h := hck (64 * k + j) (by have := HN.out; omega); rw [show off0 + (64 * k + j) = off + j by have := Hoff.out; omega] at h; exact h)
              have hr4 := rd_from64 hr3 h64 hcc
              have e1 : N - 64 = nn - 64 * (k + 1) := by have := HN.out; omega
              rw [HM.out, List.drop_drop, show 64 * k + 64 = 64 * (k + 1) by omega, e1] at hr4
              have e2 := HN.out
              refine ⟨k + 1, _, c' - 64, by omega, by rw [e1], hr4, by omega, ?_, ?_, by rw [uptoX_succ]; exact hJ3, by omega⟩
              · intro hh
                split at hh <;> cases hh
              · intro h65 b' o' s' hh
                rw [if_neg (by have := HN.out; omega)] at hh
                cases hh
                exact ⟨off0, HAe.out, by have := Hoff.out; omega, rfl⟩
            case measure => simp only [lenOf]; omega
          · gi_wp2
            refine bodyPost_ret (results_none rfl _ _ _) rfl ?_
            exact ⟨⟨_, rfl⟩, .inr ⟨_, ⟨k + 1, by omega, (uptoX_succ _ _).symm⟩, hJx3⟩⟩
    · have HN := Lib.hid hN
      have hlt64 : ¬ (64 : Int) ≤ (N : Int) := by omega
      clear hN
      gi_wp2
      go_end0
      obtain rfl : k = nn / 64 := by omega
      exact ⟨⟨_, rfl⟩, .inl hJs⟩

theorem blocks_stopsK (n : Nat) (hn : 1 ≤ n) (Bs n₀ nn c : Nat) (A : Option Addr) (l : List UInt8) (Kp : World → World → Prop) (w : World) (hBs : Bs < w.heap.size) (hn0 : n₀ ≤ w.heap.size)
    (hc0 : w.cell? ⟨Bs, 0, none⟩ = some (.slice A nn c)) (hr : Rd w n₀ A nn l) (hc : nn ≤ c) (hm : nn ≤ 140737488351300) (hnil : A = none → c = 0)
    (hKr : 64 ≤ nn → ∀ b o W1 W2, A = some ⟨b, o, none⟩ → Kp W1 W2 → W1.heap.size ≤ W2.heap.size ∧ ∀ j, j < nn → W2.cell? ⟨b, o + j, none⟩ = W1.cell? ⟨b, o + j, none⟩) :
    SeqStopsK Fence.wide n Tryd.prog 101 #[.pointer (some ⟨Bs, 0, none⟩)] encX Kp (fun ys => ys = uptoX l (nn / 64)) (fun pre => ∃ k, k ≤ nn / 64 ∧ pre = uptoX l k) (nn / 64) w := fun lp J Jx W hW hJ _ hY h0 =>
  blocks1_in n hn lp Bs n₀ nn c A l Kp J Jx W (by have := hW.size; omega) hJ hY ((hW.cell (p := ⟨Bs, 0, none⟩) hBs).trans hc0) (hr.below (hW.mono hn0)) hc hm hnil hKr h0
theorem blocks_stops (n : Nat) (hn : 1 ≤ n) (Bs n₀ gb nn c : Nat) (A : Option Addr) (l : List UInt8) (w : World) (hBs : Bs < w.heap.size) (hn0 : n₀ ≤ w.heap.size)
    (hc0 : w.cell? ⟨Bs, 0, none⟩ = some (.slice A nn c)) (hr : Rd w n₀ A nn l) (hc : nn ≤ c) (hm : nn ≤ 140737488351300) (hnil : A = none → c = 0) (hA : 64 ≤ nn → ∀ b o s, A = some ⟨b, o, s⟩ → b = gb) :
    SeqStopsK Fence.wide n Tryd.prog 101 #[.pointer (some ⟨Bs, 0, none⟩)] encX (KeepB gb) (fun ys => ys = uptoX l (nn / 64)) (fun pre => ∃ k, k ≤ nn / 64 ∧ pre = uptoX l k) (nn / 64) w :=
  blocks_stopsK n hn Bs n₀ nn c A l (KeepB gb) w hBs hn0 hc0 hr hc hm hnil (fun h64 b o W1 W2 e hk => by
    obtain rfl := hA h64 b o none e
    exact ⟨hk.1, fun j _ => World.cell?_of_block (w := W1) hk.2⟩)
end Go.Proofs.YtjimoegegigoiaaDoor
