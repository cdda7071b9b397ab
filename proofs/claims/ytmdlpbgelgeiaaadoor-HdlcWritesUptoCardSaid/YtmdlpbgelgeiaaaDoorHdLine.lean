/-
  hdlc.Line in memory: Reset, take.
-/
import Derived.Test.YtmdlpbgelgeiaaaDoorHdParse
namespace Go.Proofs.YtmdlpbgelgeiaaaDoor
open Go.RowKit
set_option maxRecDepth 100000
set_option maxHeartbeats 2000000
set_option linter.unusedSimpArgs false
set_option linter.unusedVariables false

structure LSt where
  held : List UInt8
  turns : Bool
  opn : Bool
  fr : Int
  ru : Int
  gi : Int
  su : Int
  ab : Int
  wr : Int
def lnT (M : Nat) (p q : Bool) (hv : Value) (s : LSt) : List Value := [.int .i64 M, .bool p, .bool q, hv, .bool s.turns, .bool s.opn, .int .i64 s.fr, .int .i64 s.ru, .int .i64 s.gi, .int .i64 s.su, .int .i64 s.ab, .int .i64 s.wr]
def lnC (a : Int) (M : Nat) (p q : Bool) (hv : Value) (s : LSt) : List Value := kdL a ++ lnT M p q hv s
theorem lnC_get (a : Int) (M : Nat) (p q : Bool) (hv : Value) (s : LSt) (i : Nat) : (lnC a M p q hv s)[256 + i]? = (lnT M p q hv s)[i]? := by
  unfold lnC
  rw [List.getElem?_append_right (by rw [kdL_length]; omega), kdL_length]
  congr 1
  omega
theorem lnC_set (a : Int) (M : Nat) (p q : Bool) (hv : Value) (s : LSt) (i : Nat) (v : Value) : (lnC a M p q hv s).set (256 + i) v = kdL a ++ (lnT M p q hv s).set i v := by
  unfold lnC
  rw [List.set_append_right _ _ (by rw [kdL_length]; omega), kdL_length]
  congr 2
  omega
structure LnAt (W : World) (b : Nat) (a : Int) (M : Nat) (p q : Bool) (hv : Value) (s : LSt) : Prop where
  blk : Blk W b 82 (lnC a M p q hv s)
  own : Own W (b + 1) hv s.held
  len : s.held.length ≤ M + 1
/-- whatever lay outside of the line and its bytes is as it was -/
structure Trn (b : Nat) (hv hv' : Value) (W W' : World) : Prop where
  os : W'.os = W.os
  tape : W'.tape = W.tape
  output : W'.output = W.output
  size : W.heap.size ≤ W'.heap.size
  block : ∀ i, i < W.heap.size → i ≠ b → hv.ownBlock ≠ some i → W'.heap[i]? = W.heap[i]?
  own : ∀ g, hv'.ownBlock = some g → hv.ownBlock = some g ∨ W.heap.size ≤ g
theorem Trn.refl (b : Nat) (hv : Value) (W : World) : Trn b hv hv W W := ⟨rfl, rfl, rfl, Nat.le_refl _, fun _ _ _ _ => rfl, fun _ h => .inl h⟩
theorem Trn.trans {b : Nat} {h1 h2 h3 : Value} {A B C : World} (x : Trn b h1 h2 A B) (y : Trn b h2 h3 B C) : Trn b h1 h3 A C := by
  have s1 := x.size
  refine ⟨y.os.trans x.os, y.tape.trans x.tape, y.output.trans x.output, Nat.le_trans x.size y.size, fun i hi hb hn => ?_, fun g hg => ?_⟩
  · rw [y.block i (by omega) hb (fun e => ?_), x.block i hi hb hn]
    rcases x.own i e with h | h
    · exact hn h
    · omega
  · rcases y.own g hg with h | h
    · exact x.own g h
    · exact .inr (by omega)
theorem Trn.set (b : Nat) (hv : Value) (W : World) (i : Nat) (v : Value) : Trn b hv hv W (W.setCell ⟨b, i, none⟩ v) :=
  ⟨rfl, rfl, rfl, by simp [World.setCell], fun j hj hb _ => Below.heap_setCell W ⟨b, i, none⟩ v j hb, fun _ h => .inl h⟩
theorem Trn.below {b : Nat} {W W' : World} (hv : Value) (h : Below W.heap.size W W') : Trn b hv hv W W' := ⟨h.os, h.tape, h.output, h.size, fun i hi _ _ => h.block i hi, fun _ h => .inl h⟩
theorem Trn.grown {b : Nat} {W W' : World} {hv v' : Value} (h : W.grownBy W' hv.ownBlock) (ho : v'.ownBlock = hv.ownBlock ∨ ∃ g, v'.ownBlock = some g ∧ W.heap.size ≤ g) : Trn b hv v' W W' :=
  ⟨h.os, h.tape, h.output, h.size, fun i hi _ hn => h.block i hi (fun e => hn e.symm), fun g hg => by
    rcases ho with e | ⟨k, e, hk⟩
    · exact .inl (e ▸ hg)
    · rw [e] at hg; injection hg with hg; exact .inr (by omega)⟩
theorem LnAt.cell {W : World} {b : Nat} {a : Int} {M : Nat} {p q : Bool} {hv : Value} {s : LSt} (h : LnAt W b a M p q hv s) (i : Nat) : W.cell? ⟨b, 256 + i, none⟩ = (lnT M p q hv s)[i]? := (h.blk.cell (256 + i)).trans (lnC_get _ _ _ _ _ _ i)
theorem LnAt.kind {W : World} {b : Nat} {a : Int} {M : Nat} {p q : Bool} {hv : Value} {s : LSt} (h : LnAt W b a M p q hv s) (i : Nat) (hi : i < 256) : W.cell? ⟨b, i, none⟩ = some (.int .u8 (kd a i : Nat)) := by
  rw [h.blk.cell i]
  unfold lnC
  rw [List.getElem?_append_left (by rw [kdL_length]; omega)]
  exact kdL_get a i hi
/-- the line's own cells turned -/
theorem LnAt.put {W : World} {b : Nat} {a : Int} {M : Nat} {p q : Bool} {hv hv' : Value} {s s' : LSt} (h : LnAt W b a M p q hv s) (i : Nat) (v : Value) (e : (lnT M p q hv s).set i v = lnT M p q hv' s') (ho : Own W (b + 1) hv' s'.held) (hl : s'.held.length ≤ M + 1) : LnAt (W.setCell ⟨b, 256 + i, none⟩ v) b a M p q hv' s' := by
  have h1 := h.blk.set_ (256 + i) v
  rw [lnC_set, e] at h1
  refine ⟨h1, ho.grown (only_set _) ?_, hl⟩
  rcases hg : hv'.ownBlock with _ | g
  · exact .inl rfl
  · exact .inr (fun e => by have := (ho.block g hg).1; injection e with e; simp at e; omega)
theorem LnAt.later {W W' : World} {b : Nat} {a : Int} {M : Nat} {p q : Bool} {hv : Value} {s : LSt} (h : LnAt W b a M p q hv s) (hB : Below W.heap.size W W') : LnAt W' b a M p q hv s :=
  ⟨(hB.block b (Blk.lt h.blk)).trans h.blk, h.own.later hB, h.len⟩
theorem LnAt.drewN {W : World} {b : Nat} {a : Int} {M : Nat} {p q : Bool} {hv : Value} {s : LSt} (h : LnAt W b a M p q hv s) (k : Nat) : LnAt (W.drewN k) b a M p q hv s := ⟨h.blk, h.own, h.len⟩

theorem own_none (hv : Value) (base : Nat) (l : List UInt8) (W : World) (ho : Own W base hv l) :
    ∃ hv', (∀ X, (Instr.slice 22 hv none (some (.int .i64 0)) none).run Tryd.prog X = .ok hv' X) ∧ Own W base hv' [] ∧ hv'.ownBlock = hv.ownBlock ∧ ∃ A n c, hv' = .slice A n c := by
  rcases ho.form with ⟨rfl, _⟩ | ⟨g, cap, rfl, hg, hlt, hc⟩
  · refine ⟨.slice none 0 0, fun X => ?_, Own.nil _ _, rfl, _, _, _, rfl⟩
    rw [run_slice_h X 22 _ _ _ (by rw [slice_elem]; exact Tryd.underlying22) .i64 0 (by omega) (by omega), slice_elem, byte_sizeOf]
    rfl
  · refine ⟨.slice (some ⟨g, 0, none⟩) 0 cap, fun X => ?_, ?_, rfl, _, _, _, rfl⟩
    · rw [run_slice_h X 22 _ _ _ (by rw [slice_elem]; exact Tryd.underlying22) .i64 0 (by omega) (by omega), slice_elem, byte_sizeOf]
      simp [sliced, Addr.add]
    · obtain ⟨h1, h2⟩ := ho
      refine ⟨rfl, ?_⟩
      rcases h2 with ⟨e, _⟩ | ⟨g', cap', cur, e, hb, hh, hcc, hm, hz, _⟩
      · cases e
      · injection e with e1 e2 e3
        injection e1 with e1
        injection e1 with e1
        subst e1 e3
        exact .inr ⟨g, cap, cur, rfl, hb, hh, Nat.zero_le _, hm, hz, by simp⟩
def rstS (s : LSt) : LSt := { s with held := [], turns := false, opn := false }
theorem reset_any (b : Nat) (a : Int) (M : Nat) (p q : Bool) (hv : Value) (s : LSt) (W : World) (h : LnAt W b a M p q hv s) :
    Calls Tryd.prog 27 #[.pointer (some ⟨b, 0, none⟩)] W fun e w' => ∃ hv', e = .returned (.tuple #[]) ∧ LnAt w' b a M p q hv' (rstS s) ∧ Trn b hv hv' W w' ∧ W.grownBy w' (some b) ∧ hv'.ownBlock = hv.ownBlock := by
  obtain ⟨hv', hrun, ho', hb', A', n', c', hform⟩ := own_none hv (b + 1) s.held W h.own
  have c259 : W.cell? ⟨b, 259, none⟩ = some hv := h.cell 3
  have c260 : W.cell? ⟨b, 260, none⟩ = some (.bool s.turns) := h.cell 4
  have c261 : W.cell? ⟨b, 261, none⟩ = some (.bool s.opn) := h.cell 5
  have f259 := h.blk.frozen 259
  have f260 := h.blk.frozen 260
  have f261 := h.blk.frozen 261
  have h1 : LnAt (W.setCell ⟨b, 259, none⟩ hv') b a M p q hv' { s with held := [] } := h.put 3 hv' rfl ho' (by simp)
  have h2 : LnAt ((W.setCell ⟨b, 259, none⟩ hv').setCell ⟨b, 260, none⟩ (.bool false)) b a M p q hv' { s with held := [], turns := false } := h1.put 4 _ rfl h1.own (by simp)
  have h3 : LnAt (((W.setCell ⟨b, 259, none⟩ hv').setCell ⟨b, 260, none⟩ (.bool false)).setCell ⟨b, 261, none⟩ (.bool false)) b a M p q hv' (rstS s) := h2.put 5 _ rfl h2.own (by simp [rstS])
  have H3 := Lib.hid h3
  have T3 : Hid (Trn b hv hv' W (((W.setCell ⟨b, 259, none⟩ hv').setCell ⟨b, 260, none⟩ (.bool false)).setCell ⟨b, 261, none⟩ (.bool false))) :=
    ((Trn.set b hv W 259 hv').trans ((Trn.set b hv _ 260 _).trans (Trn.set b hv _ 261 _))).trans ⟨rfl, rfl, rfl, Nat.le_refl _, fun _ _ _ _ => rfl, fun g hg => .inl (hb' ▸ hg)⟩
  have G3 : Hid (W.grownBy (((W.setCell ⟨b, 259, none⟩ hv').setCell ⟨b, 260, none⟩ (.bool false)).setCell ⟨b, 261, none⟩ (.bool false)) (some b)) :=
    only_then (only_then (only_set _) (only_set _) (fun g e => .inl e)) (only_set _) (fun g e => .inl e)
  have HOB := Lib.hid hb'
  obtain ⟨A, n, c, rfl⟩ : ∃ A n c, hv = .slice A n c := by
    rcases h.own.form with ⟨e, _⟩ | ⟨g, cap, e, _⟩
    · exact ⟨_, _, _, e⟩
    · exact ⟨_, _, _, e⟩
  subst hform
  clear h h1 h2 h3 ho' hb'
  go_enter Tryd.func27, Tryd.ntmps27
  go_wp2
  go_end0
  exact ⟨_, rfl, H3.out, T3.out, G3.out, HOB.out⟩
end Go.Proofs.YtmdlpbgelgeiaaaDoor
