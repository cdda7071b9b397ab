/-
  The first, the last one of any numbers, in numbers alone: what a fold over the list makes, and that it is the only one.
-/
import Derived.Test.YtplmflgmfffdhaaDoorMeMean
import Derived.Test.YtplmflgmfffdhaaDoorMeWords
namespace Go.Proofs.YtplmflgmfffdhaaDoor
open Go.RowKit
set_option linter.unusedSimpArgs false
set_option linter.unusedVariables false
/-- whether v stands ahead of x; with s: behind it -/
def pickF (s : Bool) (v x : Nat) : Bool := if s then decide (keyF x < keyF v) else decide (keyF v < keyF x)
def stepF (s : Bool) (st : Option Nat) (v : Nat) : Option Nat :=
  if isN v then st else match st with | none => some v | some x => if pickF s v x then some v else some x
def bstF (s : Bool) (l : List Nat) : Option Nat := l.foldl (stepF s) none
theorem bst_snoc (s : Bool) (l : List Nat) (v : Nat) : bstF s (l ++ [v]) = stepF s (bstF s l) v := by simp [bstF]
theorem bst_nil (s : Bool) : bstF s [] = none := rfl
theorem take_one {l : List Nat} {k : Nat} (h : k < l.length) : l.take (k + 1) = l.take k ++ [numAt l k] := by
  rw [numAt_eq h, List.take_add_one, List.getElem?_eq_getElem h]
  rfl
theorem bst_take (s : Bool) {l : List Nat} {k : Nat} (h : k < l.length) : bstF s (l.take (k + 1)) = stepF s (bstF s (l.take k)) (numAt l k) := by
  rw [take_one h, bst_snoc]
theorem numAt_mem {l : List Nat} {k : Nat} (h : k < l.length) : numAt l k ∈ l := by
  rw [numAt_eq h]
  exact List.getElem_mem h
def IsB (s : Bool) (l : List Nat) : Option Nat → Prop
  | none => ∀ v ∈ l, isN v = true
  | some x => x ∈ l ∧ isN x = false ∧ ∀ v ∈ l, isN v = false → pickF s v x = false
theorem pick_self (s : Bool) (v : Nat) : pickF s v v = false := by
  unfold pickF
  cases s <;> simp
theorem pick_past {s : Bool} {v x u : Nat} (h : pickF s v x = true) (hu : pickF s u x = false) : pickF s u v = false := by
  unfold pickF at *
  cases s <;> simp at * <;> omega
theorem isB_step {s : Bool} {pre : List Nat} {st : Option Nat} (v : Nat) (h : IsB s pre st) : IsB s (pre ++ [v]) (stepF s st v) := by
  unfold stepF
  rcases hv : isN v with _ | _
  · simp only [Bool.false_eq_true, if_false]
    cases st with
    | none =>
      refine ⟨by simp, hv, fun u hu hn => ?_⟩
      rcases List.mem_append.1 hu with hu | hu
      · rw [h u hu] at hn
        cases hn
      · rw [List.mem_singleton.1 hu]
        exact pick_self s v
    | some x =>
      obtain ⟨h1, h2, h3⟩ := h
      rcases hp : pickF s v x with _ | _
      · show IsB s _ (if pickF s v x = true then some v else some x)
        rw [if_neg (by rw [hp]; decide)]
        refine ⟨List.mem_append.2 (.inl h1), h2, fun u hu hn => ?_⟩
        rcases List.mem_append.1 hu with hu | hu
        · exact h3 u hu hn
        · rw [List.mem_singleton.1 hu]
          exact hp
      · show IsB s _ (if pickF s v x = true then some v else some x)
        rw [if_pos hp]
        refine ⟨by simp, hv, fun u hu hn => ?_⟩
        rcases List.mem_append.1 hu with hu | hu
        · exact pick_past hp (h3 u hu hn)
        · rw [List.mem_singleton.1 hu]
          exact pick_self s v
  · simp only [if_true]
    cases st with
    | none =>
      intro u hu
      rcases List.mem_append.1 hu with hu | hu
      · exact h u hu
      · rw [List.mem_singleton.1 hu]
        exact hv
    | some x =>
      obtain ⟨h1, h2, h3⟩ := h
      refine ⟨List.mem_append.2 (.inl h1), h2, fun u hu hn => ?_⟩
      rcases List.mem_append.1 hu with hu | hu
      · exact h3 u hu hn
      · rw [List.mem_singleton.1 hu, hv] at hn
        cases hn
theorem isB_fold {s : Bool} (l : List Nat) : ∀ (pre : List Nat) (st : Option Nat), IsB s pre st → IsB s (pre ++ l) (l.foldl (stepF s) st) := by
  induction l with
  | nil => intro pre st h; simpa using h
  | cons v l ih =>
    intro pre st h
    have := ih (pre ++ [v]) (stepF s st v) (isB_step v h)
    simpa using this
theorem bst_is (s : Bool) (l : List Nat) : IsB s l (bstF s l) := by
  have := isB_fold (s := s) l [] none (fun v hv => by cases hv)
  simpa [bstF] using this
theorem pick_eq {s : Bool} {x y : Nat} (h1 : pickF s x y = false) (h2 : pickF s y x = false) : keyF x = keyF y := by
  unfold pickF at *
  cases s <;> simp at * <;> omega
theorem isB_one {s : Bool} {l m : List Nat} {a b : Option Nat} (hm : ∀ v, v ∈ l ↔ v ∈ m) (hw : ∀ v ∈ l, Word v) (ha : IsB s l a) (hb : IsB s m b) : a = b := by
  cases a with
  | none =>
    cases b with
    | none => rfl
    | some y =>
      have := ha y ((hm y).2 hb.1)
      rw [hb.2.1] at this
      cases this
  | some x =>
    cases b with
    | none =>
      have := hb x ((hm x).1 ha.1)
      rw [ha.2.1] at this
      cases this
    | some y =>
      have hk := pick_eq (hb.2.2 x ((hm x).1 ha.1) ha.2.1) (ha.2.2 y ((hm y).2 hb.1) hb.2.1)
      rcases (ord_zero (hw x ha.1) (hw y ((hm y).2 hb.1))).1 hk with h | h
      · rw [h]
      · rw [ha.2.1] at h
        exact absurd h.1 (by simp)
theorem bst_rev (s : Bool) {l : List Nat} (hw : ∀ v ∈ l, Word v) : bstF s l.reverse = bstF s l :=
  (isB_one (m := l.reverse) (fun v => by simp) hw (bst_is s l) (bst_is s l.reverse)).symm
theorem bst_ord {l : List Nat} {a c : Nat} (ha : bstF false l = some a) (hc : bstF true l = some c) : ordV a c ≤ 0 := by
  have h1 := bst_is false l
  have h2 := bst_is true l
  rw [ha] at h1
  rw [hc] at h2
  have := h1.2.2 c h2.1 h2.2.1
  unfold pickF at this
  simp at this
  rw [ord_key]
  split
  · omega
  · split <;> omega
theorem bst_both (l : List Nat) : (bstF false l).isSome = (bstF true l).isSome := by
  have h1 := bst_is false l
  have h2 := bst_is true l
  rcases h : bstF false l with _ | a <;> rcases h' : bstF true l with _ | b <;> rw [h] at h1 <;> rw [h'] at h2
  · have := h1 b h2.1
    rw [h2.2.1] at this
    cases this
  · have := h2 a h1.1
    rw [h1.2.1] at this
    cases this
  · rfl
theorem bst_word {s : Bool} {l : List Nat} (hw : ∀ v ∈ l, Word v) {x : Nat} (h : bstF s l = some x) : Word x := by
  have h1 := bst_is s l
  rw [h] at h1
  exact hw x h1.1
/-- what an order told tells of who stands ahead -/
def ordS (s : Bool) (v x : Nat) : Int := if s then ordV x v else ordV v x
theorem ordS_pick (s : Bool) (v x : Nat) : ordS s v x = if pickF s v x then -1 else if keyF v = keyF x then 0 else 1 := by
  unfold ordS pickF
  cases s
  · simp only [Bool.false_eq_true, if_false, decide_eq_true_eq]
    rw [ord_key]
    split
    · rfl
    · split <;> split <;> first | rfl | (exfalso; omega)
  · simp only [if_true, decide_eq_true_eq]
    rw [ord_key]
    split
    · rfl
    · split <;> split <;> first | rfl | (exfalso; omega)
end Go.Proofs.YtplmflgmfffdhaaDoor
