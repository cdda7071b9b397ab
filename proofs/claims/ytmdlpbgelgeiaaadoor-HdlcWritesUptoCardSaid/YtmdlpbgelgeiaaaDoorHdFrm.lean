/-
  A list of frames: one that is read; one of the call's own, with each frame's bytes the call's own too.
-/
import Derived.Test.YtmdlpbgelgeiaaaDoorHdIt
namespace Go.Proofs.YtmdlpbgelgeiaaaDoor
open Go.RowKit
set_option maxRecDepth 100000
set_option maxHeartbeats 4000000
set_option linter.unusedSimpArgs false
set_option linter.unusedVariables false


/-- a row of options of the call's own, by its cells -/
def OwnFO (w : World) (base : Nat) (v : Value) (n : Nat) (cs : List Value) : Prop := w.ownsRow base 24 2 v n cs
theorem infoFr : (Tryd.prog.info? 24).map (fun i => (i.zero, i.size, i.bytes)) = some (some (.agg #[.int .i64 0, .slice none 0 0]), 2, 32) := by kernel_rfl
theorem addr_addF (g i : Nat) : (⟨g, 0, none⟩ : Addr).add i = ⟨g, i, none⟩ := by
  unfold Addr.add
  split
  · rename_i h
    rw [h]
  · simp
theorem OwnFO.block {w : World} {base n : Nat} {v : Value} {cs : List Value} (h : OwnFO w base v n cs) : ∀ k, v.ownBlock = some k → base ≤ k ∧ k < w.heap.size := by
  intro k hk
  rcases h.2 with ⟨rfl, _⟩ | ⟨g, cap, cur, rfl, hb, hg, _⟩
  · simp [Value.ownBlock] at hk
  · simp [Value.ownBlock] at hk
    subst hk
    exact ⟨hb, (Array.getElem?_eq_some_iff.1 hg).1⟩
theorem OwnFO.shape {w : World} {base n : Nat} {v : Value} {cs : List Value} (h : OwnFO w base v n cs) : ∃ A c, v = .slice A n c := by
  rcases h.2 with ⟨rfl, h0⟩ | ⟨g, cap, cur, rfl, _⟩
  · exact ⟨none, 0, by rw [h0]⟩
  · exact ⟨_, _, rfl⟩
theorem OwnFO.grown {w w' : World} {base n : Nat} {v : Value} {cs : List Value} {row : Option Nat} (h : OwnFO w base v n cs) (hg : w.grownBy w' row) (hne : v.ownBlock = none ∨ v.ownBlock ≠ row) : OwnFO w' base v n cs := World.ownsRow.kept h hg hne
theorem appFO_run {w : World} {base n : Nat} {v : Value} {cs : List Value} (h : OwnFO w base v n cs) (b : Nat) (x y : Value) (hx : w.cell? ⟨b, 0, none⟩ = some x) (hy : w.cell? ⟨b, 1, none⟩ = some y) (h1 : x.oneCell' = true) (h2 : y.oneCell' = true) (hn : n ≤ 1000) (hb : base ≤ w.heap.size) :
    ∃ v' w', (Builtin.append_ #[42, 42] 42 #[v, .slice (some ⟨b, 0, none⟩) 1 1]).run Tryd.prog w = .ok v' w' ∧ OwnFO w' base v' (n + 1) (cs ++ [x, y]) ∧ w.grownBy w' v.ownBlock ∧ (v'.ownBlock = v.ownBlock ∨ v'.ownBlock = some w.heap.size) := by
  obtain ⟨i, hi, hz, e1, e2⟩ := info_parts infoFr
  obtain ⟨v', w', hrun, h3, h4, _, h5⟩ := run_append_own_at (P := Tryd.prog) w base 42 42 24 i _ 2 32 Tryd.underlying42 hi hz e1 e2 rfl (by decide) v n cs h ⟨b, 0, none⟩ 1 1 [x, y]
    rfl (fun j u hj => by
      rw [addr_addF]
      match j, hj with
      | 0, hj => simp at hj; rw [← hj]; exact hx
      | 1, hj => simp at hj; rw [← hj]; exact hy
      | j + 2, hj => simp at hj) (by intro u hu; simp at hu; rcases hu with rfl | rfl <;> assumption) (by unfold maxLen; omega) (by omega) hb
  exact ⟨v', w', hrun, h3, h4, h5⟩
theorem wpList_appFO (t t' : TypeId) {w : World} {ops : Array Oper} {rest : List Oper} {o : Oper} {a : Act} {Q : Exit → Act → World → Prop} (hgd : o.guard = none) (s x : Operand)
    (ho : o.op = .call { callee := .builtin .append, args := #[s, x], argTypes := #[t, t'] }) (v u : Value) (hs : a.eval s = v) (hx : a.eval x = u)
    (v' : Value) (w2 : World) (hrun : (Builtin.append_ #[t, t'] o.type #[v, u]).run Tryd.prog w = .ok v' w2)
    (h : wpList Tryd.prog ops Q rest (a.put o.dst v') w2) : wpList Tryd.prog ops Q (o :: rest) a w := by
  refine wpList_plain hgd fun K hK => ?_
  unfold Oper.wp execOp
  simp only [ho, resolve, invoke, builtin, Sem.run_bind, Sem.run_pure, Result.andThen_ok, List.map_toArray, List.map_cons, List.map_nil, hs, hx, hrun]
  exact hK _ _ h



/-- The slice at A of n options reads as s, all of it in blocks below B. -/
def FrmRd (w : World) (B : Nat) (A : Option Addr) (n : Nat) (s : List Frm) : Prop :=
  s.length = n ∧ (0 < n → ∃ b off, A = some ⟨b, off, none⟩ ∧ b < B ∧ ∀ i (h : i < s.length), w.cell? ⟨b, off + i * 2, none⟩ = some (.int .i64 s[i].1) ∧
    ∃ E k c, w.cell? ⟨b, off + i * 2 + 1, none⟩ = some (.slice E k c) ∧ Rd w B E k s[i].2 ∧ (E = none → c = 0) ∧ k ≤ c ∧ k ≤ 140737488351232)
theorem FrmRd.nil {w : World} {B : Nat} {A : Option Addr} : FrmRd w B A 0 [] := ⟨rfl, fun h => absurd h (Nat.lt_irrefl 0)⟩
theorem FrmRd.below {w w' : World} {B C n : Nat} {A : Option Addr} {s : List Frm} (h : FrmRd w B A n s) (hb : Below C w w') (hB : B ≤ C) : FrmRd w' B A n s := by
  refine ⟨h.1, fun h0 => ?_⟩
  obtain ⟨b, off, e, hl, hc⟩ := h.2 h0
  refine ⟨b, off, e, hl, fun i hi => ?_⟩
  obtain ⟨h1, E, k, c, h2, h3, h4⟩ := hc i hi
  exact ⟨(hb.cell (by show b < C; omega)).trans h1, E, k, c, (hb.cell (by show b < C; omega)).trans h2, h3.below (hb.mono hB), h4⟩
theorem FrmRd.wide {w : World} {B C n : Nat} {A : Option Addr} {s : List Frm} (h : FrmRd w B A n s) (hB : B ≤ C) : FrmRd w C A n s := by
  refine ⟨h.1, fun h0 => ?_⟩
  obtain ⟨b, off, e, hl, hc⟩ := h.2 h0
  refine ⟨b, off, e, by omega, fun i hi => ?_⟩
  obtain ⟨h1, E, k, c, h2, h3, h4⟩ := hc i hi
  exact ⟨h1, E, k, c, h2, h3.wide hB, h4⟩
theorem FrmRd.drewN {w : World} {B n : Nat} {A : Option Addr} {s : List Frm} (h : FrmRd w B A n s) (k : Nat) : FrmRd (w.drewN k) B A n s := h
theorem FrmRd.tail {w : World} {B n b off : Nat} {x : Frm} {s : List Frm} (h : FrmRd w B (some ⟨b, off, none⟩) (n + 1) (x :: s)) : FrmRd w B (some ⟨b, off + 2, none⟩) n s := by
  have hl : s.length = n := by simpa using h.1
  refine ⟨hl, fun h0 => ?_⟩
  obtain ⟨b', off', e, hlt, hc⟩ := h.2 (by omega)
  injection e with e
  injection e with e1 e2
  subst e1 e2
  refine ⟨b, off + 2, rfl, hlt, fun i hi => ?_⟩
  have := hc (i + 1) (by simpa using hi)
  rw [show off + (i + 1) * 2 = off + 2 + i * 2 by omega] at this
  exact this
theorem FrmRd.bytes {w : World} {B n : Nat} {A : Option Addr} {s : List Frm} (h : FrmRd w B A n s) : ∀ o ∈ s, o.2.length ≤ 140737488351232 := by
  intro o ho
  obtain ⟨i, hi, rfl⟩ := List.mem_iff_getElem.1 ho
  obtain ⟨b, off, _, _, hc⟩ := h.2 (by have := h.1; omega)
  obtain ⟨_, E, k, c, _, h3, _, _, h4⟩ := hc i hi
  rw [h3.1]
  exact h4
/-- a list of options of the call's own -/
def OwnFL (w : World) (base : Nat) (v : Value) (s : List Frm) : Prop :=
  ∃ cs, OwnFO w base v s.length cs ∧ ∀ i (h : i < s.length), cs[i * 2]? = some (.int .i64 s[i].1) ∧ ∃ E k c, cs[i * 2 + 1]? = some (.slice E k c) ∧ Own w base (.slice E k c) s[i].2
theorem OwnFL.nil (w : World) (base : Nat) : OwnFL w base (.slice none 0 0) [] := ⟨[], World.ownsRow_nil _ _ _ _, fun i h => absurd h (by simp)⟩
theorem OwnFL.shape {w : World} {base : Nat} {v : Value} {s : List Frm} (h : OwnFL w base v s) : ∃ A c, v = .slice A s.length c := by
  obtain ⟨cs, h1, _⟩ := h
  exact h1.shape
theorem OwnFL.block {w : World} {base : Nat} {v : Value} {s : List Frm} (h : OwnFL w base v s) : ∀ k, v.ownBlock = some k → base ≤ k ∧ k < w.heap.size := by
  obtain ⟨cs, h1, _⟩ := h
  exact h1.block
theorem OwnFL.later {w w' : World} {base : Nat} {v : Value} {s : List Frm} (h : OwnFL w base v s) (hB : Below w.heap.size w w') : OwnFL w' base v s := by
  obtain ⟨cs, h1, h2⟩ := h
  refine ⟨cs, h1.grown (only_of_below hB none) ?_, fun i hi => ?_⟩
  · rcases hv : v.ownBlock with _ | g
    · exact .inl rfl
    · exact .inr (by simp)
  · obtain ⟨a, E, k, c, b, ho⟩ := h2 i hi
    exact ⟨a, E, k, c, b, ho.later hB⟩
theorem OwnFL.base_le {w : World} {b b' : Nat} {v : Value} {s : List Frm} (h : OwnFL w b v s) (hb : b' ≤ b) : OwnFL w b' v s := by
  obtain ⟨cs, h1, h2⟩ := h
  refine ⟨cs, ⟨h1.1, ?_⟩, fun i hi => ?_⟩
  · rcases h1.2 with h | ⟨g', cap, cur, h1, h2, h3⟩
    · exact .inl h
    · exact .inr ⟨g', cap, cur, h1, by omega, h3⟩
  · obtain ⟨a, E, k, c, b, ho⟩ := h2 i hi
    exact ⟨a, E, k, c, b, own_lower ho hb⟩
theorem own_otherF {w : World} {base b2 n : Nat} {v u : Value} {cs : List Value} {l : List UInt8} (h : OwnFO w base v n cs) (ho : Own w b2 u l) : u.ownBlock = none ∨ u.ownBlock ≠ v.ownBlock := by
  rcases h.2 with ⟨rfl, _⟩ | ⟨g, cap, cur, rfl, _, hg, _⟩
  · rcases hu : u.ownBlock with _ | q
    · exact .inl rfl
    · exact .inr (by simp [Value.ownBlock])
  · rcases ho.2 with ⟨rfl, _⟩ | ⟨g2, cap2, cur2, rfl, _, hg2, _⟩
    · exact .inl rfl
    · refine .inr fun e => ?_
      simp only [Value.ownBlock, Option.some.injEq] at e
      subst e
      rw [hg] at hg2
      simp at hg2
theorem Own.lenF {w : World} {base : Nat} {E : Option Addr} {k c : Nat} {l : List UInt8} (h : Own w base (.slice E k c) l) : k = l.length ∧ (E = none → c = 0) ∧ k ≤ c := by
  rcases h.form with ⟨e, rfl⟩ | ⟨g, cap, e, _, _, h3⟩
  · injection e with e1 e2 e3
    subst e1 e2 e3
    exact ⟨rfl, fun _ => rfl, Nat.le_refl _⟩
  · injection e with e1 e2 e3
    subst e1 e2 e3
    exact ⟨rfl, fun e => (by cases e), h3⟩
theorem Own.rdAllF {w : World} {base : Nat} {E : Option Addr} {k c : Nat} {l : List UInt8} (h : Own w base (.slice E k c) l) : Rd w w.heap.size E k l := by
  rcases h.form with ⟨e, rfl⟩ | ⟨g, cap, e, _, _, h3⟩
  · injection e with e1 e2 e3
    subst e1 e2 e3
    exact Rd.nil
  · injection e with e1 e2 e3
    subst e1 e2 e3
    have := h.rd rfl l.length (Nat.le_refl _)
    rwa [List.take_length] at this
/-- what is owned is read -/
theorem OwnFL.rd {w : World} {base : Nat} {v : Value} {s : List Frm} (h : OwnFL w base v s) (hm : ∀ o ∈ s, o.2.length ≤ 140737488351232) :
    ∃ A c, v = .slice A s.length c ∧ FrmRd w w.heap.size A s.length s ∧ (A = none → c = 0) ∧ s.length ≤ c := by
  obtain ⟨cs, h1, h2⟩ := h
  have h1' := h1
  rcases h1.2 with ⟨rfl, h0⟩ | ⟨g, cap, cur, rfl, hb, hg, hc, _⟩
  · have : s = [] := List.eq_nil_of_length_eq_zero h0
    subst this
    exact ⟨none, 0, rfl, FrmRd.nil, fun _ => rfl, Nat.le_refl _⟩
  · refine ⟨_, _, rfl, ⟨rfl, fun h0 => ⟨g, 0, rfl, (Array.getElem?_eq_some_iff.1 hg).1, fun i hi => ?_⟩⟩, (fun e => by cases e), hc⟩
    obtain ⟨a, E, k, c, b, ho⟩ := h2 i hi
    have f : ∀ j u, cs[j]? = some u → w.cell? ⟨g, j, none⟩ = some u := fun j u hj => by
      have h3 := World.ownsRow.cells h1' (g := g) rfl j u hj
      rwa [addr_addF] at h3
    obtain ⟨e1, e2, e3⟩ := ho.lenF
    rw [Nat.zero_add]
    exact ⟨f _ _ a, E, k, c, f _ _ b, ho.rdAllF, e2, e3, by rw [e1]; exact hm _ (List.getElem_mem hi)⟩
theorem appF_run {w : World} {base : Nat} {v : Value} {s : List Frm} (h : OwnFL w base v s) (b : Nat) (K : Int) (E : Option Addr) (k c : Nat) (l : List UInt8) (hx : w.cell? ⟨b, 0, none⟩ = some (.int .i64 K)) (hy : w.cell? ⟨b, 1, none⟩ = some (.slice E k c)) (ho : Own w base (.slice E k c) l)
    (hn : s.length < 4398046511104) (hb : base ≤ w.heap.size) :
    ∃ v' w', (Builtin.append_ #[42, 42] 42 #[v, .slice (some ⟨b, 0, none⟩) 1 1]).run Tryd.prog w = .ok v' w' ∧ OwnFL w' base v' (s ++ [(K, l)]) ∧ w.grownBy w' v.ownBlock ∧ (v'.ownBlock = v.ownBlock ∨ v'.ownBlock = some w.heap.size) := by
  obtain ⟨cs, h1, h2⟩ := h
  obtain ⟨i, hi, hz, e1, e2⟩ := info_parts infoFr
  obtain ⟨v', w', hrun, h3, h4, _, h5⟩ := run_append_own_at (P := Tryd.prog) w base 42 42 24 i _ 2 32 Tryd.underlying42 hi hz e1 e2 rfl (by decide) v s.length cs h1 ⟨b, 0, none⟩ 1 1 [.int .i64 K, .slice E k c]
    rfl (fun j u hj => by
      rw [addr_addF]
      match j, hj with
      | 0, hj => simp at hj; rw [← hj]; exact hx
      | 1, hj => simp at hj; rw [← hj]; exact hy
      | j + 2, hj => simp at hj) (by intro u hu; simp at hu; rcases hu with rfl | rfl <;> rfl) (by unfold maxLen; omega) (by omega) hb
  have hcl : cs.length = s.length * 2 := h1.1
  refine ⟨v', w', hrun, ⟨cs ++ [.int .i64 K, .slice E k c], by rw [List.length_append]; exact h3, fun j hj => ?_⟩, h4, h5⟩
  rcases Nat.lt_or_ge j s.length with hlt | hge
  · obtain ⟨a, E', k', c', b', ho'⟩ := h2 j hlt
    rw [List.getElem_append_left hlt, List.getElem?_append_left (by omega), List.getElem?_append_left (by omega)]
    exact ⟨a, E', k', c', b', ho'.grown h4 (own_otherF h1 ho')⟩
  · have hj' : j = s.length := by simp at hj; omega
    subst hj'
    rw [List.getElem?_append_right (by omega), List.getElem?_append_right (by omega)]
    simp only [hcl, Nat.sub_self, show s.length * 2 + 1 - s.length * 2 = 1 by omega, List.getElem_concat_length]
    exact ⟨rfl, E, k, c, rfl, ho.grown h4 (own_otherF h1 ho)⟩
/-- frames of the call's own, all of it in the blocks L -/
def FL (W : World) (base : Nat) (v : Value) (fs : List Frm) (L : Nat → Prop) : Prop :=
  ∃ cs, OwnFO W base v fs.length cs ∧ (∀ g, v.ownBlock = some g → L g) ∧ (∀ i (h : i < fs.length), cs[i * 2]? = some (.int .i64 fs[i].1) ∧ ∃ E k c, cs[i * 2 + 1]? = some (.slice E k c) ∧ Own W base (.slice E k c) fs[i].2 ∧ ∀ g, (Value.slice E k c).ownBlock = some g → L g) ∧
    ∀ i j, i < fs.length → j < fs.length → i ≠ j → ∀ x y, cs[i * 2 + 1]? = some x → cs[j * 2 + 1]? = some y → ∀ g, x.ownBlock = some g → y.ownBlock ≠ some g
theorem FL.own {W : World} {base : Nat} {v : Value} {fs : List Frm} {L : Nat → Prop} (h : FL W base v fs L) : OwnFL W base v fs := by
  obtain ⟨cs, h1, _, h2, _⟩ := h
  exact ⟨cs, h1, fun i hi => by obtain ⟨a, E, k, c, b, o, _⟩ := h2 i hi; exact ⟨a, E, k, c, b, o⟩⟩
theorem FL.nil (W : World) (base : Nat) (L : Nat → Prop) : FL W base (.slice none 0 0) [] L := ⟨[], World.ownsRow_nil _ _ _ _, (fun g e => (by cases e)), (fun i h => absurd h (by simp)), fun i j h => absurd h (by simp)⟩
theorem row_same {W W' : World} {base : Nat} {e size : Nat} {v : Value} {n : Nat} {xs : List Value} (h : W.ownsRow base e size v n xs) (hb : ∀ g, v.ownBlock = some g → W'.heap[g]? = W.heap[g]?) : W'.ownsRow base e size v n xs := by
  refine ⟨h.1, h.2.imp id ?_⟩
  rintro ⟨g, cap, cur, rfl, hg, hh, r⟩
  exact ⟨g, cap, cur, rfl, hg, (hb g rfl).trans hh, r⟩
theorem own_same {W W' : World} {base : Nat} {v : Value} {l : List UInt8} (h : Own W base v l) (hb : ∀ g, v.ownBlock = some g → W'.heap[g]? = W.heap[g]?) : Own W' base v l := row_same h hb
theorem FL.same {W W' : World} {base : Nat} {v : Value} {fs : List Frm} {L : Nat → Prop} (h : FL W base v fs L) (hb : ∀ i, L i → W'.heap[i]? = W.heap[i]?) : FL W' base v fs L := by
  obtain ⟨cs, h1, h2, h3, h4⟩ := h
  refine ⟨cs, row_same h1 (fun g e => hb g (h2 g e)), h2, fun i hi => ?_, h4⟩
  obtain ⟨a, E, k, c, b, o, l⟩ := h3 i hi
  exact ⟨a, E, k, c, b, own_same o (fun g e => hb g (l g e)), l⟩
theorem FL.mono {W : World} {base : Nat} {v : Value} {fs : List Frm} {L L' : Nat → Prop} (h : FL W base v fs L) (hL : ∀ i, L i → L' i) : FL W base v fs L' := by
  obtain ⟨cs, h1, h2, h3, h4⟩ := h
  refine ⟨cs, h1, fun g e => hL g (h2 g e), fun i hi => ?_, h4⟩
  obtain ⟨a, E, k, c, b, o, l⟩ := h3 i hi
  exact ⟨a, E, k, c, b, o, fun g e => hL g (l g e)⟩
/-- a frame more -/
theorem appFL_run {w : World} {base : Nat} {v : Value} {s : List Frm} {L : Nat → Prop} (h : FL w base v s L) (b : Nat) (K : Int) (E : Option Addr) (k c : Nat) (l : List UInt8) (hx : w.cell? ⟨b, 0, none⟩ = some (.int .i64 K)) (hy : w.cell? ⟨b, 1, none⟩ = some (.slice E k c)) (ho : Own w base (.slice E k c) l)
    (hn : s.length < 4398046511104) (hb : base ≤ w.heap.size) (hfr : ∀ g, (Value.slice E k c).ownBlock = some g → ¬ L g) :
    ∃ v' w', (Builtin.append_ #[42, 42] 42 #[v, .slice (some ⟨b, 0, none⟩) 1 1]).run Tryd.prog w = .ok v' w' ∧ FL w' base v' (s ++ [(K, l)]) (fun i => L i ∨ v'.ownBlock = some i ∨ (Value.slice E k c).ownBlock = some i) ∧ w.grownBy w' v.ownBlock ∧ (v'.ownBlock = v.ownBlock ∨ v'.ownBlock = some w.heap.size) := by
  obtain ⟨cs, h1, h0, h2, hd⟩ := h
  obtain ⟨i, hi, hz, e1, e2⟩ := info_parts infoFr
  obtain ⟨v', w', hrun, h3, h4, _, h5⟩ := run_append_own_at (P := Tryd.prog) w base 42 42 24 i _ 2 32 Tryd.underlying42 hi hz e1 e2 rfl (by decide) v s.length cs h1 ⟨b, 0, none⟩ 1 1 [.int .i64 K, .slice E k c]
    rfl (fun j u hj => by
      rw [addr_addF]
      match j, hj with
      | 0, hj => simp at hj; rw [← hj]; exact hx
      | 1, hj => simp at hj; rw [← hj]; exact hy
      | j + 2, hj => simp at hj) (by intro u hu; simp at hu; rcases hu with rfl | rfl <;> rfl) (by unfold maxLen; omega) (by omega) hb
  have hcl : cs.length = s.length * 2 := h1.1
  refine ⟨v', w', hrun, ⟨cs ++ [.int .i64 K, .slice E k c], by rw [List.length_append]; exact h3, fun g e => .inr (.inl e), fun j hj => ?_, fun i j hi hj hij x y hx hy g hg => ?_⟩, h4, h5⟩
  rcases Nat.lt_or_ge j s.length with hlt | hge
  · obtain ⟨a, E', k', c', b', ho', hl'⟩ := h2 j hlt
    rw [List.getElem_append_left hlt, List.getElem?_append_left (by omega), List.getElem?_append_left (by omega)]
    exact ⟨a, E', k', c', b', ho'.grown h4 (own_otherF h1 ho'), fun g e => .inl (hl' g e)⟩
  · have hj' : j = s.length := by simp at hj; omega
    subst hj'
    rw [List.getElem?_append_right (by omega), List.getElem?_append_right (by omega)]
    simp only [hcl, Nat.sub_self, show s.length * 2 + 1 - s.length * 2 = 1 by omega, List.getElem_concat_length]
    exact ⟨rfl, E, k, c, rfl, ho.grown h4 (own_otherF h1 ho), fun g e => .inr (.inr e)⟩
  · rw [List.length_append, List.length_singleton] at hi hj
    have old : ∀ u, u < s.length → ∀ z, (cs ++ [.int .i64 K, .slice E k c])[u * 2 + 1]? = some z → cs[u * 2 + 1]? = some z ∧ ∀ g, z.ownBlock = some g → L g := fun u hu z hz => by
      rw [List.getElem?_append_left (by omega)] at hz
      obtain ⟨_, E', k', c', b', _, hl'⟩ := h2 u hu
      refine ⟨hz, ?_⟩
      rw [b'] at hz
      injection hz with hz
      subst hz
      exact hl'
    have new : ∀ z, (cs ++ [.int .i64 K, .slice E k c])[s.length * 2 + 1]? = some z → z = .slice E k c := fun z hz => by
      rw [List.getElem?_append_right (by omega)] at hz
      simp only [hcl, show s.length * 2 + 1 - s.length * 2 = 1 by omega] at hz
      injection hz with hz
      exact hz.symm
    rcases Nat.lt_or_ge i s.length with hil | hil
    · rcases Nat.lt_or_ge j s.length with hjl | hjl
      · exact hd i j hil hjl hij x y (old i hil x hx).1 (old j hjl y hy).1 g hg
      · obtain rfl : j = s.length := by omega
        rw [new y hy]
        exact fun e => hfr g e ((old i hil x hx).2 g hg)
    · obtain rfl : i = s.length := by omega
      rw [new x hx] at hg
      exact fun e => hfr g hg ((old j (by omega) y hy).2 g e)
end Go.Proofs.YtmdlpbgelgeiaaaDoor
