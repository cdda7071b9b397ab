/-
  The law's awake: what its calls keep.
-/
import Derived.Test.YtdlnmhobhafobaaTmDueW
namespace Go.Proofs.Ytdlnmhobhafobaa
open Go.RowKit Go.Shelf
set_option maxRecDepth 100000
set_option maxHeartbeats 2000000
set_option linter.unusedSimpArgs false
set_option linter.unusedVariables false

structure Aw (w0 W : World) (g : Nat) (xs : List T2) (v : Value) : Prop where
  qs : Qs W w0.heap.size g xs v
  ge : w0.heap.size ≤ g
  bel : Below w0.heap.size w0 W
theorem Aw.next {w0 W W' : World} {g : Nat} {xs ys : List T2} {v v' : Value} (h : Aw w0 W g xs v) (hq : Qs W' w0.heap.size g ys v') (hf : TmF g v v' W W') : Aw w0 W' g ys v' :=
  ⟨hq, h.ge, h.bel.trans (hf.below h.bel.size h.ge (fun k e => (h.qs.own.block k e).1))⟩
structure Kp (W : World) (V : Value) (l : List Int) (g : Nat) (v : Value) : Prop where
  own : OwnI W 0 V l
  g : V.ownBlock ≠ some g
  v : V.ownBlock = none ∨ V.ownBlock ≠ v.ownBlock
theorem Kp.next {W W' : World} {V : Value} {l : List Int} {g : Nat} {v v' : Value} (h : Kp W V l g v) (hf : TmF g v v' W W') : Kp W' V l g v' := by
  have hb := h.own.form.2
  refine ⟨?_, h.g, ?_⟩
  · rcases h.own.2 with ⟨e, e2⟩ | ⟨r, cap, cur, e, h1, h2, h3⟩
    · exact ⟨h.own.1, .inl ⟨e, e2⟩⟩
    · have hV : V.ownBlock = some r := by rw [e]; rfl
      have hr := (hb r hV).2
      refine ⟨h.own.1, .inr ⟨r, cap, cur, e, h1, ?_, h3⟩⟩
      rw [hf.block r hr (fun e => h.g (by rw [hV, e])) (fun e => by
        rcases h.v with x | x
        · rw [hV] at x; cases x
        · exact x (by rw [hV, e]))]
      exact h2
  · cases e : V.ownBlock with
    | none => exact .inl rfl
    | some r =>
      refine .inr ?_
      have hr := (hb r e).2
      rcases hf.own with x | x | ⟨k, x, hk⟩
      · rw [x]
        rcases h.v with y | y
        · rw [e] at y; cases y
        · rw [← e]; exact y
      · rw [x]; intro y; cases y
      · rw [x]; intro y; injection y with y; omega
theorem Kp.form {W : World} {V : Value} {z : Int} {l : List Int} {g : Nat} {v : Value} (h : Kp W V (z :: l) g v) : ∃ r c, V = .slice (some ⟨r, 0, none⟩) (l.length + 1) c := by
  rcases h.own.2 with ⟨e, e2⟩ | ⟨r, cap, cur, e, h1, h2, h3⟩
  · simp at e2
  · exact ⟨r, cap, e⟩
theorem Kp.cell {W : World} {r n c : Nat} {l : List Int} {g : Nat} {v : Value} (h : Kp W (.slice (some ⟨r, 0, none⟩) n c) l g v) (j : Nat) (z : Int) (hz : l[j]? = some z) : W.cell? ⟨r, j, none⟩ = some (.int .i64 z) := by
  rcases h.own.2 with ⟨e, e2⟩ | ⟨r', cap, cur, e, h1, h2, h3, h4, h5, h6⟩
  · cases e
  · injection e with e1 e2 e3
    injection e1 with e1
    injection e1 with e1
    subst e1
    rw [cell_of_row W r j cur _ _ h2]
    have hj : (l.map fun z => Value.int .i64 z)[j]? = some (.int .i64 z) := by rw [List.getElem?_map, hz]; rfl
    rw [← h6, List.getElem?_take] at hj
    split at hj
    · simpa using hj
    · cases hj
theorem aw_put {w0 W : World} {g : Nat} {xs : List T2} {v : Value} (h : Aw w0 W g xs v) (id at' : Int) (ys : List T2) (hm : xs.length < 64) (h1 : 0 ≤ id) (h2 : id ≤ 65535) (h3 : 0 ≤ at') (h4 : at' ≤ 1099511627776) (hf : fnd id xs = none) (hy : ins (cnt at' xs) (id, at') xs = ys) :
    Calls Try.prog 53 #[.pointer (some ⟨g, 0, none⟩), .int .i64 id, .int .i64 at'] W fun e w' => e = .returned (.int .i64 0) ∧ ∃ v', Aw w0 w' g ys v' ∧ TmF g v v' W w' := by
  refine (set_put _ g xs v id at' W h.qs h.bel.size hm h1 h2 h3 h4 hf).mono ?_
  rintro e w' ⟨rfl, v', hq, hT⟩
  rw [hy] at hq
  exact ⟨rfl, v', h.next hq hT, hT⟩
theorem aw_again {w0 W : World} {g : Nat} {xs : List T2} {v : Value} (h : Aw w0 W g xs v) (id at' : Int) (t : T2) (ys : List T2) (hm : xs.length ≤ 64) (h1 : 0 ≤ id) (h2 : id ≤ 65535) (h3 : 0 ≤ at') (h4 : at' ≤ 1099511627776) (hf : fnd id xs = some t) (hy : ins (cnt at' (without t xs)) (id, at') (without t xs) = ys) :
    Calls Try.prog 53 #[.pointer (some ⟨g, 0, none⟩), .int .i64 id, .int .i64 at'] W fun e w' => e = .returned (.int .i64 0) ∧ ∃ v', Aw w0 w' g ys v' ∧ TmF g v v' W w' := by
  refine (set_again _ g xs v id at' t W h.qs h.bel.size hm h1 h2 h3 h4 hf).mono ?_
  rintro e w' ⟨rfl, v', hq, hT⟩
  rw [hy] at hq
  exact ⟨rfl, v', h.next hq hT, hT⟩
theorem aw_due {w0 W : World} {g : Nat} {xs : List T2} {v : Value} (h : Aw w0 W g xs v) (now : Int) (ys : List T2) (z : Int) (l : List Int) (hm : xs.length ≤ 64) (hl : (xs.take (cnt now xs)).map Prod.fst = z :: l) (hy : xs.drop (cnt now xs) = ys) :
    Calls Try.prog 59 #[.pointer (some ⟨g, 0, none⟩), .int .i64 now] W fun e w' => ∃ r c v', e = .returned (.slice (some ⟨r, 0, none⟩) (l.length + 1) c) ∧ Aw w0 w' g ys v' ∧ TmF g v v' W w' ∧ Kp w' (.slice (some ⟨r, 0, none⟩) (l.length + 1) c) (z :: l) g v' := by
  have hgl := Blk.lt h.qs.blk
  refine (due_any _ g xs v now W h.qs h.bel.size hm).mono ?_
  rintro e w' ⟨V, v', rfl, hV, hq, hT, hv⟩
  rw [hl] at hV
  rw [hy] at hq
  have hb := hV.form.2
  have hK : Kp w' V (z :: l) g v' := by
    refine ⟨?_, fun e => ?_, ?_⟩
    · rcases hV.2 with ⟨e, e2⟩ | ⟨r, cap, cur, e, h1, h2, h3⟩
      · exact ⟨hV.1, .inl ⟨e, e2⟩⟩
      · exact ⟨hV.1, .inr ⟨r, cap, cur, e, Nat.zero_le _, h2, h3⟩⟩
    · have := (hb g e).1
      omega
    · cases e : V.ownBlock with
      | none => exact .inl rfl
      | some r =>
        refine .inr fun e2 => ?_
        have h1 := (hb r e).1
        rw [hv] at e2
        have h2 := (h.qs.own.block r e2.symm).2
        omega
  obtain ⟨r, c, hVe⟩ := hK.form
  subst hVe
  exact ⟨r, c, v', rfl, h.next hq hT, hT, hK⟩
theorem aw_new (w : World) : Calls Try.prog 10 #[] w fun e w' => e = .returned (.pointer (some ⟨w.heap.size, 0, none⟩)) ∧ Aw w w' w.heap.size [] (.slice none 0 0) := by
  have hz : ∀ W, (zeroValue 92).run Try.prog W = .ok (.agg #[.slice none 0 0]) W := fun W => by kernel_rfl
  have HA : Hid (Aw w (w.alloc (.cells #[.slice none 0 0] 92)) w.heap.size [] (.slice none 0 0)) :=
    ⟨⟨blk_new w _ [.slice none 0 0], OwnT.nil _ _, by simp [Value.ownBlock]⟩, Nat.le_refl _, (Below.refl _ _).alloc (Nat.le_refl _) _⟩
  go_enter Try.func10, Try.ntmps10
  go_wp2
  go_ret
  exact ⟨rfl, HA.out⟩
end Go.Proofs.Ytdlnmhobhafobaa
