/-
  What ties the queue to the reference's list: the list, put in order, each timer behind those of its deadline.
-/
import Derived.Test.YtdlnmhobhafobaaTmRSet
import Derived.Test.YtdlnmhobhafobaaTmRFirst
namespace Go.Proofs.Ytdlnmhobhafobaa
open Go.RowKit Go.Shelf
set_option linter.unusedSimpArgs false
set_option linter.unusedVariables false

def insQ (y : T2) (xs : List T2) : List T2 := ins (cnt y.2 xs) y xs
theorem insQ_nil (y : T2) : insQ y [] = [y] := by simp [insQ, ins, cnt]
theorem insQ_le {y x : T2} (xs : List T2) (h : x.2 ≤ y.2) : insQ y (x :: xs) = x :: insQ y xs := by
  unfold insQ ins
  rw [cnt_cons_pos xs h]
  rfl
theorem insQ_gt {y x : T2} (xs : List T2) (h : ¬ x.2 ≤ y.2) : insQ y (x :: xs) = y :: x :: xs := by
  unfold insQ ins
  rw [cnt_cons_neg xs h]
  rfl
def srt (ys : List T2) : List T2 := ys.foldl (fun acc y => insQ y acc) []
theorem srt_snoc (ys : List T2) (y : T2) : srt (ys ++ [y]) = insQ y (srt ys) := by simp [srt]
theorem snocI {P : List T2 → Prop} (h0 : P []) (h1 : ∀ ys y, P ys → P (ys ++ [y])) (ys : List T2) : P ys := by
  have : ∀ n (ys : List T2), ys.length = n → P ys := by
    intro n
    induction n with
    | zero => intro ys h; rw [List.eq_nil_of_length_eq_zero h]; exact h0
    | succ n ih =>
      intro ys h
      have hne : ys ≠ [] := fun e => by rw [e] at h; simp at h
      rw [← List.dropLast_concat_getLast hne]
      exact h1 _ _ (ih _ (by rw [List.length_dropLast]; omega))
  exact this _ ys rfl
theorem insQ_mem (y x : T2) (xs : List T2) : x ∈ insQ y xs ↔ x = y ∨ x ∈ xs := by
  induction xs with
  | nil => simp [insQ_nil]
  | cons z xs ih =>
    by_cases h : z.2 ≤ y.2
    · rw [insQ_le xs h, List.mem_cons, ih, List.mem_cons]
      constructor
      · rintro (h | h | h) <;> simp [h]
      · rintro (h | h | h) <;> simp [h]
    · rw [insQ_gt xs h, List.mem_cons]
theorem insQ_len (y : T2) (xs : List T2) : (insQ y xs).length = xs.length + 1 := by
  induction xs with
  | nil => simp [insQ_nil]
  | cons z xs ih =>
    by_cases h : z.2 ≤ y.2
    · rw [insQ_le xs h, List.length_cons, ih, List.length_cons]
    · rw [insQ_gt xs h]; simp
theorem srt_mem (x : T2) (ys : List T2) : x ∈ srt ys ↔ x ∈ ys := by
  revert x
  refine snocI (P := fun ys => ∀ x, x ∈ srt ys ↔ x ∈ ys) (fun x => by simp [srt]) (fun ys y ih x => ?_) ys
  rw [srt_snoc, insQ_mem, ih, List.mem_append, List.mem_singleton]
  exact Or.comm
theorem srt_len (ys : List T2) : (srt ys).length = ys.length := by
  refine snocI (P := fun ys => (srt ys).length = ys.length) (by simp [srt]) (fun ys y ih => ?_) ys
  rw [srt_snoc, insQ_len, ih, List.length_append]
  rfl
/-- in order of deadlines -/
def Ord (xs : List T2) : Prop := xs.Pairwise fun a b => a.2 ≤ b.2
theorem insQ_ord (y : T2) {xs : List T2} (h : Ord xs) : Ord (insQ y xs) := by
  unfold Ord at h
  induction xs with
  | nil => rw [insQ_nil]; simp [Ord]
  | cons z xs ih =>
    rw [List.pairwise_cons] at h
    by_cases hz : z.2 ≤ y.2
    · rw [insQ_le xs hz]
      unfold Ord
      rw [List.pairwise_cons]
      refine ⟨fun a ha => ?_, ih h.2⟩
      rcases (insQ_mem y a xs).1 ha with rfl | ha
      · exact hz
      · exact h.1 a ha
    · rw [insQ_gt xs hz]
      unfold Ord
      rw [List.pairwise_cons, List.pairwise_cons]
      refine ⟨fun a ha => ?_, h⟩
      rcases List.mem_cons.1 ha with rfl | ha
      · omega
      · have := h.1 a ha; omega
theorem srt_ord (ys : List T2) : Ord (srt ys) := by
  refine snocI (P := fun ys => Ord (srt ys)) (by simp [srt, Ord]) (fun ys y ih => ?_) ys
  rw [srt_snoc]
  exact insQ_ord y ih
theorem insQ_head (y : T2) {xs : List T2} (h : ∀ a ∈ xs, y.2 < a.2) : insQ y xs = y :: xs := by
  cases xs with
  | nil => exact insQ_nil y
  | cons z xs => exact insQ_gt xs (by have := h z (by simp); omega)
theorem insQ_filter (p : T2 → Bool) (y : T2) {xs : List T2} (h : Ord xs) : (insQ y xs).filter p = if p y then insQ y (xs.filter p) else xs.filter p := by
  unfold Ord at h
  induction xs with
  | nil =>
    rw [insQ_nil]
    cases hp : p y <;> simp [hp, insQ_nil]
  | cons z xs ih =>
    rw [List.pairwise_cons] at h
    by_cases hz : z.2 ≤ y.2
    · rw [insQ_le xs hz, List.filter_cons, ih h.2, List.filter_cons]
      cases hpz : p z <;> cases hp : p y <;> simp [hpz, hp, insQ_le _ hz]
    · rw [insQ_gt xs hz]
      have h1 : ∀ a ∈ (z :: xs).filter p, y.2 < a.2 := by
        intro a ha
        rcases List.mem_cons.1 (List.mem_filter.1 ha).1 with rfl | ha
        · omega
        · have := h.1 a ha; omega
      rw [insQ_head y h1, List.filter_cons]
theorem srt_filter (p : T2 → Bool) (ys : List T2) : (srt ys).filter p = srt (ys.filter p) := by
  refine snocI (P := fun ys => (srt ys).filter p = srt (ys.filter p)) (by simp [srt]) (fun ys y ih => ?_) ys
  rw [srt_snoc, insQ_filter p y (srt_ord ys), ih, List.filter_append]
  cases hp : p y
  · simp [hp]
  · simp [hp, srt_snoc]
/-- the first timer, and what is left -/
theorem fiN_app (ys : List T2) (y : T2) : ∀ k, k ≤ ys.length → fiN (ys ++ [y]) k = fiN ys k
  | 0, _ => rfl
  | k + 1, h => by
    have ih := fiN_app ys y k (by omega)
    have e : ∀ j, j < ys.length → dl (ys ++ [y]) j = dl ys j := fun j hj => by
      unfold dl
      rw [List.getD_eq_getElem?_getD, List.getD_eq_getElem?_getD, List.getElem?_append_left hj]
    rw [fiN, fiN, ih]
    by_cases h0 : fiN ys k < 0
    · rw [if_pos h0, if_pos h0]
    · have h1 : (fiN ys k).toNat < ys.length := by
        cases k with
        | zero => exact absurd (show fiN ys 0 < 0 by simp [fiN]) h0
        | succ k =>
          obtain ⟨j, e1, e2⟩ := fiN_in ys (k + 1) (by omega)
          omega
      rw [if_neg h0, if_neg h0, e k (by omega), e _ h1]
theorem srt_first (ys : List T2) : ∀ k : Nat, fiN ys ys.length = k → ∃ x, ys[k]? = some x ∧ srt ys = x :: srt (ys.eraseIdx k) ∧ x.2 = dl ys k := by
  refine snocI (P := fun ys => ∀ k : Nat, fiN ys ys.length = k → ∃ x, ys[k]? = some x ∧ srt ys = x :: srt (ys.eraseIdx k) ∧ x.2 = dl ys k) (fun k h => by simp [fiN] at h) (fun ys y ih k h => ?_) ys
  rw [List.length_append, List.length_singleton, fiN, fiN_app ys y _ (Nat.le_refl _)] at h
  have hy : dl (ys ++ [y]) ys.length = y.2 := dl_at (by simp)
  rcases Nat.eq_zero_or_pos ys.length with h0 | h0
  · have : ys = [] := List.eq_nil_of_length_eq_zero h0
    subst this
    simp [fiN] at h
    obtain rfl : k = 0 := by omega
    exact ⟨y, by simp, by simp [srt, insQ_nil], by simp [dl]⟩
  · obtain ⟨j, e1, e2⟩ := fiN_in ys ys.length h0
    obtain ⟨x, hx, hs, hd⟩ := ih j e1
    have hdj : dl (ys ++ [y]) j = x.2 := dl_at (by rw [List.getElem?_append_left e2]; exact hx)
    rw [e1, if_neg (by omega), hy, Int.toNat_natCast, hdj] at h
    by_cases hlt : y.2 < x.2
    · rw [if_pos hlt] at h
      obtain rfl : k = ys.length := by omega
      refine ⟨y, by simp, ?_, hy.symm⟩
      have hall : ∀ a ∈ srt ys, y.2 < a.2 := by
        have ho := srt_ord ys
        rw [hs] at ho ⊢
        unfold Ord at ho
        rw [List.pairwise_cons] at ho
        intro a ha
        rcases List.mem_cons.1 ha with rfl | ha
        · exact hlt
        · have := ho.1 a ha; omega
      rw [srt_snoc, insQ_head y hall, List.eraseIdx_append_of_length_le (Nat.le_refl _)]
      simp
    · rw [if_neg hlt] at h
      obtain rfl : k = j := by omega
      refine ⟨x, by rw [List.getElem?_append_left e2]; exact hx, ?_, hdj.symm⟩
      rw [srt_snoc, hs, insQ_le _ (by omega), List.eraseIdx_append_of_lt_length e2, srt_snoc]
/-- the queue and the reference's list -/
def Tie (xs ys : List T2) : Prop := xs = srt ys ∧ (ys.map Prod.fst).Nodup ∧ ys.length ≤ 64
theorem Tie.nil : Tie [] [] := ⟨rfl, by simp, by simp⟩
theorem Tie.len {xs ys : List T2} (h : Tie xs ys) : xs.length = ys.length := by rw [h.1, srt_len]
end Go.Proofs.Ytdlnmhobhafobaa
