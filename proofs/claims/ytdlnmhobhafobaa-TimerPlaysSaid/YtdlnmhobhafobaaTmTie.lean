/-
  Set keeps the queue tied to the reference's list.
-/
import Derived.Test.YtdlnmhobhafobaaTmSort
namespace Go.Proofs.Ytdlnmhobhafobaa
open Go.RowKit Go.Shelf
set_option linter.unusedSimpArgs false
set_option linter.unusedVariables false

theorem rf_neg {id : Int} {ys : List T2} : rf id ys < 0 ↔ ∀ y ∈ ys, y.1 ≠ id := by
  constructor
  · intro h y hy he
    unfold rf at h
    have : ix id ys < ys.length := by
      unfold ix
      rw [List.findIdx_lt_length]
      exact ⟨y, hy, by simpa using he⟩
    rw [if_pos this] at h
    omega
  · intro h
    rw [ix_none h]
    omega
theorem rf_pos {id : Int} {ys : List T2} {k : Nat} (h : rf id ys = k) : ∃ x, ys[k]? = some x ∧ x.1 = id := by
  unfold rf at h
  split at h
  · rename_i hl
    obtain rfl : k = ix id ys := by omega
    refine ⟨ys[ix id ys], List.getElem?_eq_getElem hl, ?_⟩
    have := List.findIdx_getElem (p := fun x : T2 => decide (x.1 = id)) (xs := ys) (w := hl)
    exact of_decide_eq_true this
  · omega
theorem nodup_inj {ys : List T2} (h : (ys.map Prod.fst).Nodup) {a b : T2} (ha : a ∈ ys) (hb : b ∈ ys) (e : a.1 = b.1) : a = b := by
  induction ys with
  | nil => simp at ha
  | cons z ys ih =>
    rw [List.map_cons, List.nodup_cons] at h
    rcases List.mem_cons.1 ha with ea | ha'
    · rcases List.mem_cons.1 hb with eb | hb'
      · rw [ea, eb]
      · exact absurd (List.mem_map.2 ⟨b, hb', by rw [← e, ea]⟩) h.1
    · rcases List.mem_cons.1 hb with eb | hb'
      · exact absurd (List.mem_map.2 ⟨a, ha', by rw [e, eb]⟩) h.1
      · exact ih h.2 ha' hb'
theorem without_idx {ys : List T2} {k : Nat} {x : T2} (h : (ys.map Prod.fst).Nodup) (hx : ys[k]? = some x) : without x ys = ys.eraseIdx k := by
  induction ys generalizing k with
  | nil => simp at hx
  | cons z ys ih =>
    rw [List.map_cons, List.nodup_cons] at h
    cases k with
    | zero =>
      obtain rfl : z = x := by simpa using hx
      unfold without
      rw [List.filter_cons_of_neg (by simp), List.eraseIdx_zero, List.tail_cons]
      exact List.filter_eq_self.2 fun y hy => by
        have : y ≠ z := fun e => h.1 (List.mem_map.2 ⟨y, hy, by rw [e]⟩)
        simpa using this
    | succ k =>
      have hx' : ys[k]? = some x := by simpa using hx
      have hne : z ≠ x := fun e => h.1 (List.mem_map.2 ⟨x, List.mem_of_getElem? hx', by rw [e]⟩)
      have := ih h.2 hx'
      unfold without at this ⊢
      rw [List.filter_cons_of_pos (by simpa using hne), this, List.eraseIdx_cons_succ]
theorem Tie.without {xs ys : List T2} (h : Tie xs ys) {k : Nat} {x : T2} (hx : ys[k]? = some x) : Tie (without x xs) (ys.eraseIdx k) := by
  refine ⟨?_, ?_, Nat.le_trans (List.length_eraseIdx_le ..) h.2.2⟩
  · rw [h.1, ← without_idx h.2.1 hx]
    exact srt_filter _ _
  · exact h.2.1.sublist (List.Sublist.map _ (List.eraseIdx_sublist ys k))
theorem Tie.snoc {xs ys : List T2} (h : Tie xs ys) (id at' : Int) (hn : ∀ y ∈ ys, y.1 ≠ id) (hl : ys.length < 64) : Tie (ins (cnt at' xs) (id, at') xs) (ys ++ [(id, at')]) := by
  refine ⟨?_, ?_, by rw [List.length_append, List.length_singleton]; omega⟩
  · rw [srt_snoc, h.1]
    rfl
  · rw [List.map_append, List.nodup_append]
    refine ⟨h.2.1, by simp, fun a ha b hb e => ?_⟩
    obtain ⟨y, hy, rfl⟩ := List.mem_map.1 ha
    have : b = id := by simpa using hb
    exact hn y hy (e.trans this)
theorem fnd_iff {id : Int} {xs : List T2} : fnd id xs = none ↔ ∀ x ∈ xs, x.1 ≠ id := by
  unfold fnd
  rw [List.find?_eq_none]
  constructor
  · intro h x hx; simpa using h x hx
  · intro h x hx; simpa using h x hx
/-- Set of both: one answer, and they stay tied -/
theorem Tie.set {xs ys : List T2} (h : Tie xs ys) (id at' : Int) : (setQ id at' xs).1 = (rsetQ id at' ys).1 ∧ Tie (setQ id at' xs).2 (rsetQ id at' ys).2 := by
  have hlen := h.len
  by_cases ho : okT id at'
  · unfold setQ rsetQ
    rw [if_pos ho, if_pos ho]
    by_cases hk : rf id ys < 0
    · have hn := rf_neg.1 hk
      have hf : fnd id xs = none := fnd_iff.2 fun x hx => hn x (by rw [h.1] at hx; exact (srt_mem x ys).1 hx)
      rw [hf, if_pos hk]
      show (if xs.length = 64 then (7, xs) else (0, ins (cnt at' xs) (id, at') xs)).1 = _ ∧ Tie (if xs.length = 64 then (7, xs) else (0, ins (cnt at' xs) (id, at') xs)).2 _
      by_cases h64 : xs.length = 64
      · rw [if_pos h64, if_pos (by omega)]
        exact ⟨rfl, h⟩
      · have := h.2.2
        rw [if_neg h64, if_neg (by omega)]
        exact ⟨rfl, h.snoc id at' hn (by omega)⟩
    · obtain ⟨k, hkk, hkl⟩ := rf_lt hk
      obtain ⟨y, hy, hyi⟩ := rf_pos hkk
      have hym := List.mem_of_getElem? hy
      have hyx : y ∈ xs := by rw [h.1]; exact (srt_mem y ys).2 hym
      obtain ⟨t, ht⟩ : ∃ t, fnd id xs = some t := by
        cases e : fnd id xs with
        | none => exact absurd hyi (fnd_iff.1 e y hyx)
        | some t => exact ⟨t, rfl⟩
      have ht1 : t.1 = id := by
        have := List.find?_some (show xs.find? (fun x => decide (x.1 = id)) = some t from ht)
        simpa using this
      have htm : t ∈ ys := by
        have := List.mem_of_find?_eq_some (show xs.find? (fun x => decide (x.1 = id)) = some t from ht)
        rw [h.1] at this
        exact (srt_mem t ys).1 this
      obtain rfl : t = y := nodup_inj h.2.1 htm hym (ht1.trans hyi.symm)
      rw [ht, if_neg hk, hkk, Int.toNat_natCast]
      refine ⟨rfl, ?_⟩
      have hw := h.without hy
      refine hw.snoc id at' (fun z hz he => ?_) ?_
      · rw [← without_idx h.2.1 hy] at hz
        have hz2 := List.mem_filter.1 hz
        have := nodup_inj h.2.1 hz2.1 hym (he.trans hyi.symm)
        exact absurd this (by simpa using hz2.2)
      · rw [List.length_eraseIdx, if_pos hkl]
        have := h.2.2
        omega
  · unfold setQ rsetQ
    rw [if_neg ho, if_neg ho]
    exact ⟨rfl, h⟩
end Go.Proofs.Ytdlnmhobhafobaa
