/-
  What make of a slice of bytes does in this program; a row of zero bytes.
-/
import Derived.Test.YtjkdlmielckaaaaDoorProg
import Derived.Test.YtjkdlmielckaaaaDoorMath
import Derived.Laws.IdiomCopy
import Derived.Maps.AppendAt
import Derived.Laws.OwnMore
namespace Go.Proofs.YtjkdlmielckaaaaDoor
open Go.RowKit
set_option maxRecDepth 100000

theorem byte_info : (Tryd.prog.info? 5).map (fun i => (i.zero, i.size, i.bytes)) = some (some (.int .u8 0), 1, 1) := by kernel_rfl
theorem byte_size : (Tryd.prog.info? 5).map (·.size) = some 1 := by kernel_rfl

/-- n zero bytes as cells -/
def zeros (n : Nat) : List Value := List.replicate n (.int .u8 0)
theorem zeros_length (n : Nat) : (zeros n).length = n := List.length_replicate
theorem mk_run (n : Nat) (x : Int) (hx : x = (n : Int)) (hn : n ≤ 281474976710656) (w : World) :
    (Instr.makeSlice 22 (.int .i64 x) (.int .i64 x)).run Tryd.prog w = .ok (.slice (some ⟨w.heap.size, 0, none⟩) n n) (w.alloc (.cells (zeros n).toArray 5)) := by
  subst hx
  obtain ⟨i, hi, hz, h1, h2⟩ := info_parts byte_info
  have h := run_make (P := Tryd.prog) w 22 5 i (.int .u8 0) Tryd.underlying22 hi hz .i64 .i64 n n (Int.natCast_nonneg _) (Int.le_refl _) (by rw [h2]; omega) (by omega)
  simp only [Int.toNat_natCast, h1, Nat.mul_one] at h
  rw [h]
  have e : madeCells (Value.int .u8 0).cells n = (zeros n).toArray := by
    apply Array.toList_inj.1
    exact toList_madeCells_one _ _
  rw [e]
theorem blk_new (w : World) (t : Nat) (cs : List Value) : Blk (w.alloc (.cells cs.toArray t)) w.heap.size t cs := heap_alloc_new w _

theorem grown_setRow {w : World} {g : Nat} (cs : Array Value) : w.grownBy (w.setRow g cs) (some g) :=
  ⟨rfl, rfl, rfl, by simp [World.setRow], fun k _ hne => setRow_other w g k cs (fun e => hne (by rw [e]))⟩

/-- copy into a block that is known whole -/
theorem copy_run {w : World} {g : Nat} {cs : List Value} (hb : Blk w g 5 cs) (o dLen dCap : Nat) {A : Option Addr} {n B : Nat} (c : Nat) {l : List UInt8} (hr : Rd w B A n l) (k : Nat) (hk : k = min n dLen) (hfit : o + k ≤ cs.length) :
    ∃ w2, (Builtin.copy_ #[22, 22] 3 #[.slice (some ⟨g, o, none⟩) dLen dCap, .slice A n c]).run Tryd.prog w = .ok (goInt k) w2 ∧
      Blk w2 g 5 (cs.take o ++ ((l.take k).map cellOf ++ cs.drop (o + k))) ∧ w.grownBy w2 (some g) := by
  rcases Nat.eq_zero_or_pos k with h0 | h0
  · subst h0
    refine ⟨w, run_copy_none (P := Tryd.prog) w 22 22 3 5 _ _ _ _ _ _ Tryd.underlying22 byte_size hk.symm, ?_, World.grownBy.refl _ _⟩
    simpa using hb
  · obtain ⟨b, off, rfl, _, hc⟩ := hr.2 (by omega)
    have hl := hr.1
    have hlen : ((l.take k).map cellOf).length = k := by
      rw [List.length_map, List.length_take]
      omega
    have hrun := run_copy_row (P := Tryd.prog) w 22 22 3 5 g o dLen dCap ⟨b, off, none⟩ n c cs.toArray 5 ((l.take k).map cellOf)
      Tryd.underlying22 byte_size hb (by rw [hlen]; exact hk) (fun j v hj => by
        have hj' : j < k := by
          have := (List.getElem?_eq_some_iff.1 hj).1
          omega
        have e : (⟨b, off, none⟩ : Addr).add j = ⟨b, off + j, none⟩ := by
          unfold Addr.add
          split
          · subst_vars
            rfl
          · rfl
        rw [e, hc j (by omega)]
        rw [cells_at _ j (by rw [List.length_take]; omega)] at hj
        rw [← hj]
        congr 2
        unfold byteAt
        rw [List.getD_eq_getElem?_getD, List.getD_eq_getElem?_getD, List.getElem?_take_of_lt hj']) (by rw [hlen]; simpa using hfit) (cells_one _)
    rw [hlen] at hrun
    refine ⟨_, hrun, ?_, grown_setRow _⟩
    have h2 := setRow_heap w g _ (cs.toArray.toList.take o ++ (l.take k).map cellOf ++ cs.toArray.toList.drop (o + k)).toArray _ _ hb
    unfold Blk
    rw [h2]
    simp

/-- a slice of the call's own that holds the bytes l -/
def Own (w : World) (base : Nat) (v : Value) (l : List UInt8) : Prop := w.ownsRow base 5 1 v l.length (l.map cellOf)
theorem Own.nil (w : World) (base : Nat) : Own w base (.slice none 0 0) [] := World.ownsRow_nil _ _ _ _
theorem Own.grown {w w' : World} {base : Nat} {v : Value} {l : List UInt8} {row : Option Nat} (h : Own w base v l) (hg : w.grownBy w' row) (hne : v.ownBlock = none ∨ v.ownBlock ≠ row) : Own w' base v l :=
  World.ownsRow.kept h hg hne
theorem Own.alloc {w : World} {base : Nat} {v : Value} {l : List UInt8} (h : Own w base v l) (o : Obj) : Own (w.alloc o) base v l := World.ownsRow.alloc h o

/-- append onto a slice of the call's own -/
theorem append_run {w : World} {base : Nat} {v : Value} {l : List UInt8} (ho : Own w base v l) {A : Option Addr} {n B : Nat} (c : Nat) {m : List UInt8} (hr : Rd w B A n m) (hnil : A = none → c = 0)
    (hbytes : l.length + n ≤ 140737488355328) (hbase : base ≤ w.heap.size) :
    ∃ v' w2, (Builtin.append_ #[22, 22] 22 #[v, .slice A n c]).run Tryd.prog w = .ok v' w2 ∧ Own w2 base v' (l ++ m) ∧ w.grownBy w2 v.ownBlock ∧
      (v'.ownBlock = v.ownBlock ∨ v'.ownBlock = some w.heap.size) := by
  obtain ⟨i, hi, hz, h1, h2⟩ := info_parts byte_info
  have hl := hr.1
  rcases A with _ | ⟨b, off, sp⟩
  · have hn : n = 0 := by
      rcases Nat.eq_zero_or_pos n with h0 | h0
      · exact h0
      · obtain ⟨b, off, e, _⟩ := hr.2 h0
        cases e
    subst hn
    obtain rfl := hnil rfl
    obtain rfl : m = [] := List.eq_nil_of_length_eq_zero hl
    refine ⟨v, w, run_append_owned_none (P := Tryd.prog) (w := w) base 22 22 5 i 1 Tryd.underlying22 hi v _ _ ho, ?_, World.grownBy.refl _ _, .inl rfl⟩
    simpa using ho
  · have hcells : ∀ j u, (m.map cellOf)[j]? = some u → w.cell? ((⟨b, off, sp⟩ : Addr).add j) = some u := by
      intro j u hj
      have hj' : j < m.length := by
        have := (List.getElem?_eq_some_iff.1 hj).1
        simpa using this
      obtain ⟨b', off', e, _, hc⟩ := hr.2 (by omega)
      simp only [Option.some.injEq, Addr.mk.injEq] at e
      obtain ⟨rfl, rfl, rfl⟩ := e
      have e : (⟨b, off, none⟩ : Addr).add j = ⟨b, off + j, none⟩ := by
        unfold Addr.add
        split
        · subst_vars
          rfl
        · rfl
      rw [e, hc j (by omega), ← hj, cells_at m j hj']
    obtain ⟨v', w', hrun, h3, h4, _, h5⟩ := run_append_own_at (P := Tryd.prog) w base 22 22 5 i (.int .u8 0) 1 1 Tryd.underlying22 hi hz h1 h2 rfl (by decide) v _ _ ho ⟨b, off, sp⟩ n c (m.map cellOf)
      (by rw [List.length_map]; omega) hcells (cells_one _) (by unfold maxLen; omega) (by omega) hbase
    refine ⟨v', w', hrun, ?_, h4, h5⟩
    unfold Own
    rw [List.length_append, List.map_append, hl]
    exact h3

/-- an append whose run is known, as one step of a walk -/
theorem wpList_app {w : World} {ops : Array Oper} {rest : List Oper} {o : Oper} {a : Act} {Q : Exit → Act → World → Prop} (hgd : o.guard = none) (s x : Operand)
    (ho : o.op = .call { callee := .builtin .append, args := #[s, x], argTypes := #[22, 22] }) (v u : Value) (hs : a.eval s = v) (hx : a.eval x = u)
    (v' : Value) (w2 : World) (hrun : (Builtin.append_ #[22, 22] o.type #[v, u]).run Tryd.prog w = .ok v' w2)
    (h : wpList Tryd.prog ops Q rest (a.put o.dst v') w2) : wpList Tryd.prog ops Q (o :: rest) a w := by
  refine wpList_plain hgd fun K hK => ?_
  unfold Oper.wp execOp
  simp only [ho, resolve, invoke, builtin, Sem.run_bind, Sem.run_pure, Result.andThen_ok, List.map_toArray, List.map_cons, List.map_nil, hs, hx, hrun]
  exact hK _ _ h

theorem Own.form {w : World} {base : Nat} {v : Value} {l : List UInt8} (h : Own w base v l) :
    (v = .slice none 0 0 ∧ l = []) ∨ ∃ g cap, v = .slice (some ⟨g, 0, none⟩) l.length cap ∧ base ≤ g ∧ g < w.heap.size ∧ l.length ≤ cap := by
  rcases h.2 with ⟨e, h0⟩ | ⟨g, cap, cur, e, hb, hg, hc, _⟩
  · exact .inl ⟨e, List.eq_nil_of_length_eq_zero h0⟩
  · exact .inr ⟨g, cap, e, hb, (Array.getElem?_eq_some_iff.1 hg).1, hc⟩
theorem Own.cell {w : World} {base g n cap : Nat} {l : List UInt8} (h : Own w base (.slice (some ⟨g, 0, none⟩) n cap) l) (hn : n = l.length) (j : Nat) (hj : j < n) :
    w.cell? ⟨g, j, none⟩ = some (.int .u8 (byteAt l j)) := by
  subst hn
  have h2 : w.ownsRow base 5 1 (.slice (some ⟨g, 0, none⟩) l.length cap) l.length (l.map cellOf) := h
  rw [h2.cellAt j (by omega), cells_at l j hj]
theorem Own.unfrozen {w : World} {base g n cap : Nat} {l : List UInt8} (h : Own w base (.slice (some ⟨g, 0, none⟩) n cap) l) (hn : n = l.length) (j : Nat) :
    w.frozen? ⟨g, j, none⟩ = false := by
  subst hn
  have h2 : w.ownsRow base 5 1 (.slice (some ⟨g, 0, none⟩) l.length cap) l.length (l.map cellOf) := h
  exact h2.frozenAt j
theorem Own.rd {w : World} {base g n cap : Nat} {l : List UInt8} (h : Own w base (.slice (some ⟨g, 0, none⟩) n cap) l) (hn : n = l.length) (k : Nat) (hk : k ≤ n) :
    Rd w w.heap.size (some ⟨g, 0, none⟩) k (l.take k) := by
  refine ⟨by rw [List.length_take]; omega, fun h0 => ⟨g, 0, rfl, ?_, fun j hj => ?_⟩⟩
  · rcases h.form with ⟨e, _⟩ | ⟨g', cap', e, _, hlt, _⟩
    · cases e
    · injection e with e
      injection e with e
      injection e with e
      omega
  · rw [Nat.zero_add, h.cell hn j (by omega)]
    congr 2
    unfold byteAt
    rw [List.getD_eq_getElem?_getD, List.getD_eq_getElem?_getD, List.getElem?_take_of_lt hj]
theorem Own.set_ {w : World} {base g n cap : Nat} {l : List UInt8} (h : Own w base (.slice (some ⟨g, 0, none⟩) n cap) l) (hn : n = l.length) (j : Nat) (c : UInt8) (x : Int) (hx : x = (c.toNat : Int)) :
    Own (w.setCell ⟨g, j, none⟩ (.int .u8 x)) base (.slice (some ⟨g, 0, none⟩) n cap) (l.set j c) := by
  subst hx hn
  have h2 : w.ownsRow base 5 1 (.slice (some ⟨g, 0, none⟩) l.length cap) l.length (l.map cellOf) := h
  have h3 := h2.stored j (.int .u8 (c.toNat : Int))
  unfold Own
  rw [List.length_set, List.map_set]
  exact h3.1
theorem only_alloc {a w : World} {row : Option Nat} (h : a.grownBy w row) (o : Obj) : a.grownBy (w.alloc o) row :=
  ⟨h.os, h.tape, h.output, Nat.le_trans h.size (by simp), fun i hi hne => (Below.heap_alloc w o i (Nat.lt_of_lt_of_le hi h.size)).trans (h.block i hi hne)⟩
theorem only_then {a b c : World} {row row' : Option Nat} (h : a.grownBy b row) (k : b.grownBy c row') (hr : ∀ g, row' = some g → row = some g ∨ a.heap.size ≤ g) : a.grownBy c row := by
  refine ⟨k.os.trans h.os, k.tape.trans h.tape, k.output.trans h.output, Nat.le_trans h.size k.size, fun i hi hne => ?_⟩
  rw [k.block i (Nat.lt_of_lt_of_le hi h.size) ?_, h.block i hi hne]
  intro e
  rcases hr i e.symm with e' | e'
  · exact hne e'.symm
  · omega
theorem only_set {w : World} {p : Addr} (u : Value) : w.grownBy (w.setCell p u) (some p.block) :=
  ⟨rfl, rfl, rfl, by simp [World.setCell], fun k _ hne => Below.heap_setCell w p u k (fun e => hne (by rw [e]))⟩

theorem only_of_below {a w : World} (h : Below a.heap.size a w) (row : Option Nat) : a.grownBy w row := ⟨h.os, h.tape, h.output, h.size, fun i hi _ => h.block i hi⟩
theorem Own.later {w w' : World} {base : Nat} {v : Value} {l : List UInt8} (h : Own w base v l) (hB : Below w.heap.size w w') : Own w' base v l := by
  refine h.grown (only_of_below hB none) ?_
  rcases hv : v.ownBlock with _ | g
  · exact .inl rfl
  · exact .inr (by simp)
theorem Own.drewN {w : World} {base : Nat} {v : Value} {l : List UInt8} (h : Own w base v l) (k : Nat) : Own (w.drewN k) base v l := h
theorem Own.block {w : World} {base : Nat} {v : Value} {l : List UInt8} (h : Own w base v l) : ∀ g, v.ownBlock = some g → base ≤ g ∧ g < w.heap.size := by
  intro g hg
  rcases h.form with ⟨rfl, _⟩ | ⟨g', cap, rfl, h1, h2, _⟩
  · simp [Value.ownBlock] at hg
  · simp [Value.ownBlock] at hg
    omega
theorem Rd.later {w w' : World} {B n : Nat} {A : Option Addr} {l : List UInt8} (h : Rd w B A n l) (hb : B ≤ w.heap.size) (hB : Below w.heap.size w w') : Rd w' B A n l := h.below (hB.mono hb)
theorem below_own {B : Nat} {a w w' : World} {base : Nat} {v : Value} {l : List UInt8} (h : Below B a w) (ho : Own w base v l) (hg : w.grownBy w' v.ownBlock) (hb : B ≤ base) (hs : B ≤ w.heap.size) : Below B a w' :=
  h.grown hg hs fun k hk => by have := (ho.block k hk).1; omega
end Go.Proofs.YtjkdlmielckaaaaDoor
