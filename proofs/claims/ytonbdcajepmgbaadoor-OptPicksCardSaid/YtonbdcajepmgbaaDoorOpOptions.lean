/-
  opt.Options of the six known bytes.
  opt.Options of the six known bytes: the walk.
-/
import Derived.Test.YtonbdcajepmgbaaDoorOpRead
import Derived.LoopTactic
namespace Go.Proofs.YtonbdcajepmgbaaDoor
open Go.RowKit
set_option maxRecDepth 100000
set_option maxHeartbeats 4000000
set_option linter.unusedSimpArgs false
set_option linter.unusedVariables false

def k6 : List UInt8 := [1, 4, 5, 220, 7, 2]
/-- a row of options of the call's own, by its cells -/
def OwnO (w : World) (base : Nat) (v : Value) (n : Nat) (cs : List Value) : Prop := w.ownsRow base 28 2 v n cs
theorem infoO : (Tryd.prog.info? 28).map (fun i => (i.zero, i.size, i.bytes)) = some (some (.agg #[.int .i64 0, .slice none 0 0]), 2, 32) := by kernel_rfl
theorem addr_add (g i : Nat) : (⟨g, 0, none⟩ : Addr).add i = ⟨g, i, none⟩ := by
  unfold Addr.add
  split
  · rename_i h
    rw [h]
  · simp
theorem OwnO.block {w : World} {base n : Nat} {v : Value} {cs : List Value} (h : OwnO w base v n cs) : ∀ k, v.ownBlock = some k → base ≤ k ∧ k < w.heap.size := by
  intro k hk
  rcases h.2 with ⟨rfl, _⟩ | ⟨g, cap, cur, rfl, hb, hg, _⟩
  · simp [Value.ownBlock] at hk
  · simp [Value.ownBlock] at hk
    subst hk
    exact ⟨hb, (Array.getElem?_eq_some_iff.1 hg).1⟩
theorem OwnO.shape {w : World} {base n : Nat} {v : Value} {cs : List Value} (h : OwnO w base v n cs) : ∃ A c, v = .slice A n c := by
  rcases h.2 with ⟨rfl, h0⟩ | ⟨g, cap, cur, rfl, _⟩
  · exact ⟨none, 0, by rw [h0]⟩
  · exact ⟨_, _, rfl⟩
theorem OwnO.grown {w w' : World} {base n : Nat} {v : Value} {cs : List Value} {row : Option Nat} (h : OwnO w base v n cs) (hg : w.grownBy w' row) (hne : v.ownBlock = none ∨ v.ownBlock ≠ row) : OwnO w' base v n cs := World.ownsRow.kept h hg hne
theorem appO_run {w : World} {base n : Nat} {v : Value} {cs : List Value} (h : OwnO w base v n cs) (b : Nat) (x y : Value) (hx : w.cell? ⟨b, 0, none⟩ = some x) (hy : w.cell? ⟨b, 1, none⟩ = some y) (h1 : x.oneCell' = true) (h2 : y.oneCell' = true) (hn : n ≤ 1000) (hb : base ≤ w.heap.size) :
    ∃ v' w', (Builtin.append_ #[22, 22] 22 #[v, .slice (some ⟨b, 0, none⟩) 1 1]).run Tryd.prog w = .ok v' w' ∧ OwnO w' base v' (n + 1) (cs ++ [x, y]) ∧ w.grownBy w' v.ownBlock ∧ (v'.ownBlock = v.ownBlock ∨ v'.ownBlock = some w.heap.size) := by
  obtain ⟨i, hi, hz, e1, e2⟩ := info_parts infoO
  obtain ⟨v', w', hrun, h3, h4, _, h5⟩ := run_append_own_at (P := Tryd.prog) w base 22 22 28 i _ 2 32 Tryd.underlying22 hi hz e1 e2 rfl (by decide) v n cs h ⟨b, 0, none⟩ 1 1 [x, y]
    rfl (fun j u hj => by
      rw [addr_add]
      match j, hj with
      | 0, hj => simp at hj; rw [← hj]; exact hx
      | 1, hj => simp at hj; rw [← hj]; exact hy
      | j + 2, hj => simp at hj) (by intro u hu; simp at hu; rcases hu with rfl | rfl <;> assumption) (by unfold maxLen; omega) (by omega) hb
  exact ⟨v', w', hrun, h3, h4, h5⟩
/-- what is left behind j options, and the options -/
def k6R (j : Nat) : List UInt8 := k6.drop ([0, 4, 6].getD j 6)
def k6C (j : Nat) (D1 D2 : Option Addr) (c1 c2 : Nat) : List Value := ([.int .i64 1, .slice D1 2 c1, .int .i64 7, .slice D2 0 c2] : List Value).take (2 * j)
def OptJ (w wr : World) (B g j : Nat) (v : Value) : Prop := OctAt wr B g (k6R j) 0 ∧ (∃ D1 D2 c1 c2, OwnO wr B v j (k6C j D1 D2 c1 c2)) ∧ Below w.heap.size w wr ∧ w.heap.size ≤ g ∧ g < B ∧ B ≤ wr.heap.size
end Go.Proofs.YtonbdcajepmgbaaDoor
namespace Go.Proofs.YtonbdcajepmgbaaDoor
open Go.RowKit
set_option maxRecDepth 100000
set_option maxHeartbeats 4000000
set_option linter.unusedSimpArgs false
set_option linter.unusedVariables false

theorem wpList_appO (t t' : TypeId) {w : World} {ops : Array Oper} {rest : List Oper} {o : Oper} {a : Act} {Q : Exit → Act → World → Prop} (hgd : o.guard = none) (s x : Operand)
    (ho : o.op = .call { callee := .builtin .append, args := #[s, x], argTypes := #[t, t'] }) (v u : Value) (hs : a.eval s = v) (hx : a.eval x = u)
    (v' : Value) (w2 : World) (hrun : (Builtin.append_ #[t, t'] o.type #[v, u]).run Tryd.prog w = .ok v' w2)
    (h : wpList Tryd.prog ops Q rest (a.put o.dst v') w2) : wpList Tryd.prog ops Q (o :: rest) a w := by
  refine wpList_plain hgd fun K hK => ?_
  unfold Oper.wp execOp
  simp only [ho, resolve, invoke, builtin, Sem.run_bind, Sem.run_pure, Result.andThen_ok, List.map_toArray, List.map_cons, List.map_nil, hs, hx, hrun]
  exact hK _ _ h
def lenV : Value → Nat
  | .slice _ n _ => n
  | _ => 0
/-- where an option more has been read: it is appended -/
def OptApp (w w2 : World) (B g j : Nat) (v : Value) (K : Int) (S : Value) : Prop := ∀ w3 b, Below w2.heap.size w2 w3 → w3.cell? ⟨b, 0, none⟩ = some (.int .i64 K) → w3.cell? ⟨b, 1, none⟩ = some S →
  ∃ v' w', (Builtin.append_ #[22, 22] 22 #[v, .slice (some ⟨b, 0, none⟩) 1 1]).run Tryd.prog w3 = .ok v' w' ∧ OptJ w w' B g (j + 1) v' ∧ lenV v' = j + 1
theorem opt_next (w wr : World) (B g j : Nat) (v : Value) (h : OptJ w wr B g j v) (hj : j < 2) (K : Int) (z : Nat) (hK : num (k6R j) 1 = K) (hZ : num ((k6R j).drop 1) 1 = ((z + 2 : Nat) : Int)) (hz : z + 2 ≤ (k6R j).length)
    (hR : (k6R j).drop (z + 2) = k6R (j + 1)) (hC : ∀ D1 D2 c1 c2 D c, ∃ D1' D2' c1' c2', k6C j D1 D2 c1 c2 ++ [.int .i64 K, .slice D (((k6R j).drop 2).take z).length c] = k6C (j + 1) D1' D2' c1' c2') :
    Calls Tryd.prog 36 #[.pointer (some ⟨g, 0, none⟩)] wr fun e w2 => ∃ D m c, e = .returned (.tuple #[.agg #[.int .i64 K, .slice D m c], .int .i64 0]) ∧ OptApp w w2 B g j v K (.slice D m c) := by
  obtain ⟨hO, ⟨D1, D2, c1, c2, hw⟩, hB, h1, h2, h3⟩ := h
  refine (read_good B g (k6R j) K z wr hO (by omega) (by omega) hK hZ hz).mono ?_
  rintro e w2 ⟨D, m, c, rfl, ho, hO2, hG⟩
  have hm : m = (((k6R j).drop 2).take z).length := by
    rcases ho.form with ⟨e, e2⟩ | ⟨q, cap, e, _⟩
    · injection e with _ e _; rw [e, e2]; rfl
    · injection e
  rw [hR] at hO2
  have hs2 := hG.size
  have hw2 : OwnO w2 B v j (k6C j D1 D2 c1 c2) := hw.grown hG (by
    rcases e : v.ownBlock with _ | q
    · exact .inl rfl
    · have := hw.block q e
      exact .inr (fun e => by injection e; omega))
  refine ⟨D, m, c, rfl, fun w3 b hB3 e0 e1 => ?_⟩
  have hs3 := hB3.size
  have G3 : w2.grownBy w3 none := only_of_below hB3 none
  have hw3 : OwnO w3 B v j (k6C j D1 D2 c1 c2) := hw2.grown G3 (by
    rcases e : v.ownBlock with _ | q
    · exact .inl rfl
    · exact .inr (by simp))
  obtain ⟨v', w', hrun, h4, h5, h6⟩ := appO_run hw3 b _ _ e0 e1 rfl rfl (by omega) (by omega)
  have hs4 := h5.size
  obtain ⟨D1', D2', c1', c2', hc⟩ := hC D1 D2 c1 c2 D c
  rw [hm, hc] at h4
  obtain ⟨A', cc, hA⟩ := h4.shape
  have hOw : OctAt w' B g (k6R (j + 1)) 0 := (hO2.newer G3 (by simp)).newer h5 (fun q e => (hw3.block q e).1)
  have hBe : Below w.heap.size w w' := by
    have q1 : w.grownBy wr none := only_of_below hB none
    have q2 : w.grownBy w2 none := only_then q1 hG (fun q e => .inr (by injection e; omega))
    have q3 : w.grownBy w3 none := only_then q2 G3 (fun q e => .inl e)
    have q4 : w.grownBy w' none := only_then q3 h5 (fun q e => .inr (by have := (hw3.block q e).1; have := hB.size; omega))
    exact (Below.refl w.heap.size w).grown q4 (Nat.le_refl _) (by simp)
  exact ⟨v', w', hrun, ⟨hOw, ⟨_, _, _, _, h4⟩, hBe, h1, h2, by omega⟩, by rw [hA]; rfl⟩
theorem opt_next01 (w wr : World) (B g j : Nat) (v : Value) (h : OptJ w wr B g j v) (hj : j < 2) :
    Calls Tryd.prog 36 #[.pointer (some ⟨g, 0, none⟩)] wr fun e w2 => ∃ K D m c, e = .returned (.tuple #[.agg #[.int .i64 K, .slice D m c], .int .i64 0]) ∧ OptApp w w2 B g j v K (.slice D m c) := by
  match j, hj with
  | 0, _ =>
    refine (opt_next w wr B g 0 v h (by omega) 1 2 (by decide) (by decide) (by decide) (by decide) (fun D1 D2 c1 c2 D c => ⟨D, none, c, 0, rfl⟩)).mono ?_
    rintro e w2 ⟨D, m, c, rfl, h2⟩
    exact ⟨_, D, m, c, rfl, h2⟩
  | 1, _ =>
    refine (opt_next w wr B g 1 v h (by omega) 7 0 (by decide) (by decide) (by decide) (by decide) (fun D1 D2 c1 c2 D c => ⟨D1, D, c1, c, rfl⟩)).mono ?_
    rintro e w2 ⟨D, m, c, rfl, h2⟩
    exact ⟨_, D, m, c, rfl, h2⟩
theorem opt_at {w w2 : World} {B g j : Nat} {v : Value} {K : Int} {D : Option Addr} {m c : Nat} (h : OptApp w w2 B g j v K (.slice D m c)) :
    ∃ v' w', (Builtin.append_ #[22, 22] 22 #[v, .slice (some ⟨w2.heap.size + 1, 0, none⟩) 1 1]).run Tryd.prog ((w2.alloc (.cells #[.int .i64 K, .slice D m c] 28)).alloc (.cells #[.int .i64 K, .slice D m c] 28)) = .ok v' w' ∧ OptJ w w' B g (j + 1) v' ∧ lenV v' = j + 1 := by
  have hb := blk_new (w2.alloc (.cells #[.int .i64 K, .slice D m c] 28)) 28 [.int .i64 K, .slice D m c]
  rw [show (w2.alloc (.cells #[.int .i64 K, .slice D m c] 28)).heap.size = w2.heap.size + 1 by simp] at hb
  exact h _ (w2.heap.size + 1) (((Below.refl _ _).alloc (Nat.le_refl _) _).alloc (by simp) _) (hb.cell 0) (hb.cell 1)
theorem k6_length (j : Nat) (h : j ≤ 2) : ((k6R j).length : Int) = if j = 2 then 0 else if j = 1 then 2 else 6 := by
  match j, h with
  | 0, _ => rfl
  | 1, _ => rfl
  | 2, _ => rfl
theorem options_k6 (A : Option Addr) (c B0 : Nat) (w : World) (hr : Rd w B0 A 6 k6) (hB : B0 ≤ w.heap.size) :
    Calls Tryd.prog 22 #[.slice A 6 c] w fun e w' => ∃ v, e = .returned (.tuple #[v, .int .i64 0]) ∧ (∃ D1 D2 c1 c2, OwnO w' w.heap.size v 2 (k6C 2 D1 D2 c1 c2)) ∧ Below w.heap.size w w' := by
  have NR : Hid (Calls Tryd.prog 34 #[.slice A 6 c] w fun e w1 => ∃ g, e = .returned (.pointer (some ⟨g, 0, none⟩)) ∧ OptJ w w1 w1.heap.size g 0 (.slice none 0 0)) := by
    refine (newreader_any A 6 c B0 k6 w hr hB (by omega)).mono ?_
    rintro e w1 ⟨g, rfl, h1, h2, h3, h4⟩
    exact ⟨g, rfl, h4 w1 none (World.grownBy.refl _ _) (by simp), ⟨none, none, 0, 0, World.ownsRow_nil _ _ _ _⟩, h3, h1, h2, Nat.le_refl _⟩
  clear hr hB
  go_enter Tryd.func22, Tryd.ntmps22
  go_wp2_with (go_at_call 34; ((with_reducible refine NR.out.mono ?_); rintro e w1 ⟨g, rfl, hj⟩; have J0 := Lib.hid hj; clear hj))
  go_loopw [4] (fun v wr => ∃ j, j ≤ 2 ∧ lenV v = j ∧ OptJ w wr w1.heap.size g j v) (fun v _ => 2 - lenV v)
  case atStart => exact ⟨0, by omega, rfl, J0.out⟩
  case round =>
    rename_i wr
    obtain ⟨j, hj2, hl, hJ⟩ := hrel
    have hJ2 := hJ
    obtain ⟨hO, ⟨D1, D2, c1, c2, hw⟩, hB, hg1, hg2, hg3⟩ := hJ2
    obtain ⟨A1, cc, rfl⟩ := hw.shape
    have LE := Lib.hid (left_any _ _ _ _ wr hO)
    rw [k6_length j hj2] at LE
    by_cases h2 : j = 2
    · rw [if_pos h2] at LE
      subst h2
      have HP : Hid ((∃ D1 D2 c1 c2, OwnO wr w.heap.size (.slice A1 2 cc) 2 (k6C 2 D1 D2 c1 c2)) ∧ Below w.heap.size w wr) := ⟨⟨D1, D2, c1, c2, by
        refine ⟨hw.1, ?_⟩
        rcases hw.2 with h | ⟨g', cap, cur, e1, e2, e3⟩
        · exact .inl h
        · exact .inr ⟨g', cap, cur, e1, by omega, e3⟩⟩, hB⟩
      clear hO hw hJ hB hl hj2 hg1 hg2 hg3
      go_wp2_with (go_at_call 35; ((with_reducible refine LE.out.mono ?_); rintro e w2 ⟨rfl, rfl⟩))
      go_ret2
      exact ⟨_, rfl, HP.out⟩
    · obtain ⟨q, hq, hq0⟩ : ∃ q : Int, (if j = 2 then (0 : Int) else if j = 1 then 2 else 6) = q ∧ 0 < q := ⟨_, rfl, by rw [if_neg h2]; split <;> omega⟩
      rw [hq] at LE
      have hj1 : j < 2 := by omega
      have h32 : ((j : Int) == 32) = false := by simp; omega
      have RD := Lib.hid (opt_next01 w wr _ g j _ hJ hj1)
      clear hO hw hJ hB hl hj2 hq
      go_wp2_with (first
        | (go_at_call 35; ((with_reducible refine LE.out.mono ?_); rintro e w2 ⟨rfl, rfl⟩))
        | (go_at_call 36; ((with_reducible refine RD.out.mono ?_); rintro e w2 ⟨K, D, m, c2, rfl, h4⟩; obtain ⟨v', w', hrun, hJ', hl'⟩ := opt_at h4; have HR := Lib.hid hrun; have HJ := Lib.hid hJ'; have HL := Lib.hid hl'; clear hrun hJ' hl' h4))
        | (at_builtin; refine wpList_appO 22 22 rfl (.tmp 24) (.tmp 26) rfl _ _ rfl rfl _ _ HR.out ?_))
      go_roundw
      case rel => exact ⟨j + 1, by omega, HL.out, HJ.out⟩
      case measure => show 2 - lenV v' < 2 - j; rw [HL.out]; omega
end Go.Proofs.YtonbdcajepmgbaaDoor
