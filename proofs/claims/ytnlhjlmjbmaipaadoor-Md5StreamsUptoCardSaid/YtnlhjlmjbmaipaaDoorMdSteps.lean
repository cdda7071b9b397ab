/-
  Plain: the words behind each whole block; what a stream holds as bytes come.
-/
import Derived.Test.YtnlhjlmjbmaipaaDoorMdSSum
namespace Go.Proofs.YtnlhjlmjbmaipaaDoor
open Go.RowKit
set_option maxRecDepth 10000
set_option linter.unusedSimpArgs false
set_option linter.unusedVariables false

def stepsX (v : W4) : List X16 → List W4
  | [] => []
  | x :: xs => mdBlock x.1 v :: stepsX (mdBlock x.1 v) xs
theorem stepsX_snoc (v : W4) (xs : List X16) (x : X16) : stepsX v (xs ++ [x]) = stepsX v xs ++ [wordsX v (xs ++ [x])] := by
  induction xs generalizing v with
  | nil => rfl
  | cons y ys ih =>
    show mdBlock y.1 v :: stepsX _ (ys ++ [x]) = mdBlock y.1 v :: (stepsX _ ys ++ [_])
    rw [ih]
    rfl
theorem stepsX_length (v : W4) (xs : List X16) : (stepsX v xs).length = xs.length := by
  induction xs generalizing v with
  | nil => rfl
  | cons y ys ih =>
    show (stepsX _ ys).length + 1 = ys.length + 1
    rw [ih]
theorem stepsX_ok (v : W4) (xs : List X16) : ∀ y ∈ stepsX v xs, y.ok := by
  induction xs generalizing v with
  | nil => exact fun y h => nomatch h
  | cons x xs ih =>
    intro y hy
    rcases List.mem_cons.1 hy with rfl | h
    · exact mdAdd_ok _ _
    · exact ih _ y h
theorem lastW_snoc (vs : List W4) (x : W4) : lastW (vs ++ [x]) = x := by simp [lastW]
theorem lastW_steps (vs : List W4) (xs : List X16) : lastW (vs ++ stepsX (lastW vs) xs) = wordsX (lastW vs) xs := by
  rcases List.eq_nil_or_concat xs with rfl | ⟨ys, x, e⟩
  · simp [stepsX, wordsX]
  · rw [List.concat_eq_append] at e
    subst e
    rw [stepsX_snoc, ← List.append_assoc, lastW_snoc]
theorem stepsX_upto (v : W4) (l : List UInt8) : ∀ k, stepsX v (uptoX l k) = (List.range k).map fun i => mdFrom v l (i + 1)
  | 0 => rfl
  | k + 1 => by
    rw [uptoX_succ, stepsX_snoc, ← uptoX_succ, wordsX_upto, stepsX_upto v l k, List.range_succ, List.map_append]
    rfl
/-- the words behind each whole block of l -/
def wordsAll (l : List UInt8) : List W4 := (List.range (l.length / 64)).map fun i => mdOver l (i + 1)
theorem wordsAll_length (l : List UInt8) : (wordsAll l).length = l.length / 64 := by simp [wordsAll]
theorem lastW_all (l : List UInt8) : lastW (wordsAll l) = mdOver l (l.length / 64) := by
  unfold wordsAll
  cases h : l.length / 64 with
  | zero => rfl
  | succ k =>
    rw [List.range_succ, List.map_append]
    exact lastW_snoc _ _
theorem mdOver_congr {l m : List UInt8} (k : Nat) (h : ∀ i, i < 64 * k → byteAt l i = byteAt m i) : mdOver l k = mdOver m k := by
  rw [mdOver_from, mdOver_from, mdFrom_congr _ k h]
theorem wordsAll_grow (l m : List UInt8) (h : l.length % 64 = 0) : wordsAll (l ++ m) = wordsAll l ++ (List.range (m.length / 64)).map fun i => mdFrom (lastW (wordsAll l)) m (i + 1) := by
  rw [lastW_all]
  unfold wordsAll
  have e : (l ++ m).length / 64 = l.length / 64 + m.length / 64 := by rw [List.length_append]; omega
  rw [e, List.range_add, List.map_append, List.map_map]
  congr 1
  · refine List.map_congr_left fun i hi => ?_
    have hi := List.mem_range.1 hi
    exact mdOver_congr _ fun j hj => byteAt_app _ _ _ (by omega)
  · refine List.map_congr_left fun i hi => ?_
    show mdOver (l ++ m) (l.length / 64 + i + 1) = _
    rw [mdOver_from, show l.length / 64 + i + 1 = l.length / 64 + (i + 1) by omega, mdFrom_add, ← mdOver_from, show 64 * (l.length / 64) = l.length by omega, List.drop_left]
    congr 1
    exact mdOver_congr _ fun j hj => byteAt_app _ _ _ (by omega)
theorem wordsAll_short (l m : List UInt8) (h : l.length % 64 + m.length < 64) : wordsAll (l ++ m) = wordsAll l := by
  have e : (l ++ m).length / 64 = l.length / 64 := by rw [List.length_append]; omega
  unfold wordsAll
  rw [e]
  refine List.map_congr_left fun i hi => ?_
  have hi := List.mem_range.1 hi
  exact mdOver_congr _ fun j hj => byteAt_app _ _ _ (by omega)
/-- what is behind the last whole block of l -/
def restOf (l : List UInt8) : List UInt8 := l.drop (64 * (l.length / 64))
theorem restOf_length (l : List UInt8) : (restOf l).length = l.length % 64 := by
  unfold restOf
  rw [List.length_drop]
  omega
theorem restOf_short (l m : List UInt8) (h : l.length % 64 + m.length < 64) : restOf (l ++ m) = restOf l ++ m := by
  unfold restOf
  have e : (l ++ m).length / 64 = l.length / 64 := by rw [List.length_append]; omega
  rw [e, List.drop_append_of_le_length (by omega)]
/-- one block that is filled up -/
theorem wordsAll_fill (l m : List UInt8) (h : l.length % 64 + m.length = 64) : wordsAll (l ++ m) = wordsAll l ++ stepsX (lastW (wordsAll l)) (uptoX (restOf l ++ m) 1) := by
  have hcut := List.take_append_drop (64 * (l.length / 64)) l
  obtain ⟨a, ha⟩ : ∃ a, a = l.take (64 * (l.length / 64)) := ⟨_, rfl⟩
  have hal : a.length % 64 = 0 := by rw [ha, List.length_take]; omega
  have e1 : l = a ++ restOf l := by rw [ha]; exact hcut.symm
  have e2 : wordsAll l = wordsAll a := by
    have h1 := wordsAll_short a (restOf l) (by rw [hal, restOf_length]; omega)
    rw [← e1] at h1
    exact h1
  have e3 : l ++ m = a ++ (restOf l ++ m) := by rw [← List.append_assoc, ← e1]
  rw [e3, wordsAll_grow a _ hal, e2, stepsX_upto]
  have e4 : (restOf l ++ m).length / 64 = 1 := by rw [List.length_append, restOf_length]; omega
  rw [e4]
theorem wordsAll_more (l m : List UInt8) (h : l.length % 64 = 0) : wordsAll (l ++ m) = wordsAll l ++ stepsX (lastW (wordsAll l)) (uptoX m (m.length / 64)) := by
  rw [wordsAll_grow l m h, stepsX_upto]
theorem restOf_more (l m : List UInt8) (h : l.length % 64 = 0) : restOf (l ++ m) = restOf m := by
  unfold restOf
  have e : (l ++ m).length / 64 = l.length / 64 + m.length / 64 := by rw [List.length_append]; omega
  rw [e, Nat.mul_add, show 64 * (l.length / 64) = l.length by omega, List.drop_append, List.drop_of_length_le (by omega), List.nil_append, Nat.add_sub_cancel_left]

/-- a stream of the bytes l -/
def Stm (W : World) (base g : Nat) (l : List UInt8) (v : Value) : Prop := ∃ rest, St W base g (wordsAll l) rest l.length v ∧ rest.take (l.length % 64) = restOf l
/-- what a call that writes stream g keeps: all but g and the row of its own -/
structure Frm (g : Nat) (v v' : Value) (w w' : World) : Prop where
  os : w'.os = w.os
  tape : w'.tape = w.tape
  output : w'.output = w.output
  size : w.heap.size ≤ w'.heap.size
  block : ∀ i, i < w.heap.size → i ≠ g → v.ownBlock ≠ some i → w'.heap[i]? = w.heap[i]?
  own : v'.ownBlock = v.ownBlock ∨ ∃ k, v'.ownBlock = some k ∧ w.heap.size ≤ k
theorem Frm.refl (g : Nat) (v : Value) (w : World) : Frm g v v w w := ⟨rfl, rfl, rfl, Nat.le_refl _, fun _ _ _ _ => rfl, .inl rfl⟩
theorem Frm.trans {g : Nat} {v v' v'' : Value} {a b c : World} (h : Frm g v v' a b) (k : Frm g v' v'' b c) : Frm g v v'' a c := by
  refine ⟨k.os.trans h.os, k.tape.trans h.tape, k.output.trans h.output, Nat.le_trans h.size k.size, fun i hi hg hv => ?_, ?_⟩
  · rw [k.block i (Nat.lt_of_lt_of_le hi h.size) hg ?_, h.block i hi hg hv]
    intro e
    rcases h.own with e' | ⟨j, e', hj⟩
    · exact hv (e'.symm.trans e)
    · rw [e'] at e
      injection e with e
      omega
  · rcases k.own with e | ⟨j, e, hj⟩
    · rw [e]
      exact h.own
    · exact .inr ⟨j, e, Nat.le_trans h.size hj⟩
theorem Frm.later {g : Nat} {v v' : Value} {a b c : World} (h : Frm g v v' a b) (k : Below b.heap.size b c) : Frm g v v' a c :=
  h.trans ⟨k.os, k.tape, k.output, k.size, fun i hi _ _ => k.block i hi, .inl rfl⟩
theorem Frm.grownG {g : Nat} {v v' : Value} {a b c : World} (h : Frm g v v' a b) (k : b.grownBy c (some g)) : Frm g v v' a c :=
  h.trans ⟨k.os, k.tape, k.output, k.size, fun i hi hg _ => k.block i hi (by intro e; injection e with e; exact hg e), .inl rfl⟩
theorem Frm.grownV {g : Nat} {v v' v'' : Value} {a b c : World} (h : Frm g v v' a b) (k : b.grownBy c v'.ownBlock) (e : v''.ownBlock = v'.ownBlock ∨ ∃ j, v''.ownBlock = some j ∧ b.heap.size ≤ j) : Frm g v v'' a c :=
  h.trans ⟨k.os, k.tape, k.output, k.size, fun i hi _ hv => k.block i hi (fun e => hv e.symm), e⟩
theorem Frm.below {g B : Nat} {v v' : Value} {a b : World} (h : Frm g v v' a b) (hB : B ≤ a.heap.size) (hg : B ≤ g) (hv : ∀ k, v.ownBlock = some k → B ≤ k) : Below B a b :=
  ⟨h.os, h.tape, h.output, h.size, fun i hi => h.block i (by omega) (by omega) (fun e => by have := hv i e; omega)⟩
theorem St.ownB {W : World} {base g n : Nat} {vs : List W4} {rest : List UInt8} {v : Value} (h : St W base g vs rest n v) : ∀ k, v.ownBlock = some k → base ≤ k ∧ k < W.heap.size := by
  intro k hk
  rcases h.own.form with ⟨rfl, _⟩ | ⟨g', cap, rfl, h1, h2, _⟩
  · simp [Value.ownBlock] at hk
  · simp [Value.ownBlock] at hk
    omega
end Go.Proofs.YtnlhjlmjbmaipaaDoor
