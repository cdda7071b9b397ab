/-
  What a queue keeps; Insert of one timer, at any place; the method drop.
-/
import Derived.Test.YtdlnmhobhafobaaTmInsS
import Derived.Test.YtdlnmhobhafobaaTmDrop
import Derived.RangeFuncBox
namespace Go.Proofs.Ytdlnmhobhafobaa
open Go.RowKit Go.Shelf
set_option maxRecDepth 100000
set_option maxHeartbeats 2000000
set_option linter.unusedSimpArgs false
set_option linter.unusedVariables false

/-- all but block g and the row of timers is as it was -/
structure TmF (g : Nat) (v v' : Value) (w w' : World) : Prop where
  os : w'.os = w.os
  tape : w'.tape = w.tape
  output : w'.output = w.output
  size : w.heap.size ≤ w'.heap.size
  block : ∀ i, i < w.heap.size → i ≠ g → v.ownBlock ≠ some i → w'.heap[i]? = w.heap[i]?
  own : v'.ownBlock = v.ownBlock ∨ v'.ownBlock = none ∨ ∃ k, v'.ownBlock = some k ∧ w.heap.size ≤ k
theorem TmF.refl (g : Nat) (v : Value) (w : World) : TmF g v v w w := ⟨rfl, rfl, rfl, Nat.le_refl _, fun _ _ _ _ => rfl, .inl rfl⟩
theorem TmF.trans {g : Nat} {v v' v'' : Value} {a b c : World} (h : TmF g v v' a b) (k : TmF g v' v'' b c) : TmF g v v'' a c := by
  refine ⟨k.os.trans h.os, k.tape.trans h.tape, k.output.trans h.output, Nat.le_trans h.size k.size, fun i hi hg hv => ?_, ?_⟩
  · rw [k.block i (Nat.lt_of_lt_of_le hi h.size) hg ?_, h.block i hi hg hv]
    intro e
    rcases h.own with e' | e' | ⟨j, e', hj⟩
    · exact hv (e'.symm.trans e)
    · rw [e'] at e
      cases e
    · rw [e'] at e
      injection e with e
      omega
  · rcases k.own with e | e | ⟨j, e, hj⟩
    · rcases h.own with e' | e' | ⟨j, e', hj⟩
      · exact .inl (e.trans e')
      · exact .inr (.inl (e.trans e'))
      · exact .inr (.inr ⟨j, e.trans e', hj⟩)
    · exact .inr (.inl e)
    · exact .inr (.inr ⟨j, e, Nat.le_trans h.size hj⟩)
theorem TmF.later {g : Nat} {v v' : Value} {a b c : World} (h : TmF g v v' a b) (k : Below b.heap.size b c) : TmF g v v' a c :=
  h.trans ⟨k.os, k.tape, k.output, k.size, fun i hi _ _ => k.block i hi, .inl rfl⟩
theorem TmF.grownG {g : Nat} {v v' v'' : Value} {a b c : World} (h : TmF g v v' a b) (k : b.grownBy c (some g)) (e : v''.ownBlock = v'.ownBlock ∨ v''.ownBlock = none ∨ ∃ j, v''.ownBlock = some j ∧ b.heap.size ≤ j) : TmF g v v'' a c :=
  h.trans ⟨k.os, k.tape, k.output, k.size, fun i hi hg _ => k.block i hi (by intro e; injection e with e; exact hg e), e⟩
theorem TmF.grownV {g : Nat} {v v' v'' : Value} {a b c : World} (h : TmF g v v' a b) (k : b.grownBy c v'.ownBlock) (e : v''.ownBlock = v'.ownBlock ∨ v''.ownBlock = none ∨ ∃ j, v''.ownBlock = some j ∧ b.heap.size ≤ j) : TmF g v v'' a c :=
  h.trans ⟨k.os, k.tape, k.output, k.size, fun i hi _ hv => k.block i hi (fun e => hv e.symm), e⟩
theorem TmF.below {g B : Nat} {v v' : Value} {a b : World} (h : TmF g v v' a b) (hB : B ≤ a.heap.size) (hg : B ≤ g) (hv : ∀ k, v.ownBlock = some k → B ≤ k) : Below B a b :=
  ⟨h.os, h.tape, h.output, h.size, fun i hi => h.block i (by omega) (by omega) (fun e => by have := hv i e; omega)⟩
theorem insert_any (base vb i : Nat) (v : Value) (x : T2) (xs : List T2) (w : World) (ho : OwnT w base v xs) (hb : base ≤ w.heap.size) (hi : i ≤ xs.length) (hx : Blk w vb 95 (cellsT x)) (hv : v.ownBlock ≠ some vb) (hsm : xs.length ≤ 100) :
    Calls Try.prog 94 #[v, .int .i64 i, .slice (some ⟨vb, 0, none⟩) 1 1] w fun e w' =>
      ∃ v', e = .returned v' ∧ OwnT w' base v' (ins i x xs) ∧ w.grownBy w' v.ownBlock ∧ (v'.ownBlock = v.ownBlock ∨ ∃ k, v'.ownBlock = some k ∧ w.heap.size ≤ k) := by
  by_cases he : i = xs.length
  · subst he
    refine (insert_end base vb v x xs w ho hb hx hsm).mono ?_
    rintro e w' ⟨v', rfl, h1, h2, h3⟩
    refine ⟨v', rfl, h1, h2, ?_⟩
    rcases h3 with h3 | h3
    · exact .inl h3
    · exact .inr ⟨_, h3, Nat.le_refl _⟩
  · rcases ho.form with ⟨rfl, rfl⟩ | ⟨g, cap, rfl, hbg, hgl, hlc, hcm⟩
    · simp at he hi
      omega
    · by_cases hr : xs.length + 1 ≤ cap
      · refine (insert_shift base vb g xs.length cap i x xs w ho hb (by omega) hr hx (fun e => hv (by rw [e]; rfl)) hsm).mono ?_
        rintro e w' ⟨rfl, h1, h2⟩
        exact ⟨_, rfl, h1, h2, .inl rfl⟩
      · refine (insert_grow base vb g xs.length cap i x xs w ho hb (by omega) (by omega) hx hsm).mono ?_
        rintro e w' ⟨c', rfl, h1, h2⟩
        exact ⟨_, rfl, h1.wide hb, ⟨h2.os, h2.tape, h2.output, h2.size, fun k hk _ => h2.block k hk⟩, .inr ⟨_, rfl, Nat.le_refl _⟩⟩
theorem drop_any (base g : Nat) (xs : List T2) (v : Value) (t : T2) (w : World) (h : Qs w base g xs v) (hm : xs.length ≤ 1152921504606846976) :
    Calls Try.prog 93 #[.pointer (some ⟨g, 0, none⟩), .agg #[.int .i64 t.1, .int .i64 t.2]] w fun e w' =>
      e = .returned (.tuple #[]) ∧ ∃ v', Qs w' base g (without t xs) v' ∧ TmF g v v' w w' := by
  have hgl := Blk.lt h.blk
  have hB1 : Below w.heap.size w (w.alloc (.cells (cellsT t).toArray 95)) := (Below.refl _ _).alloc (Nat.le_refl _) _
  have hq1 := h.later hB1
  have hne : v.ownBlock ≠ some w.heap.size := fun e => by
    have := (h.own.block _ e).2
    omega
  have DF := Lib.hid (deleteF_any base w.heap.size v t xs (w.alloc (.cells (cellsT t).toArray 95)) hq1.own (blk_new w 95 (cellsT t)) hne hm)
  have hc1 : (w.alloc (.cells (cellsT t).toArray 95)).cell? ⟨g, 0, none⟩ = some v := hq1.blk.cell 0
  have POST : ∀ w' v', OwnT w' base v' (without t xs) → (w.alloc (.cells (cellsT t).toArray 95)).grownBy w' v.ownBlock → v'.ownBlock = v.ownBlock →
      Hid (w'.cell? ⟨g, 0, none⟩ = some v ∧ w'.frozen? ⟨g, 0, none⟩ = false ∧ Qs (w'.setCell ⟨g, 0, none⟩ v') base g (without t xs) v' ∧ TmF g v v' w (w'.setCell ⟨g, 0, none⟩ v')) := by
    intro w' v' ho' hg' hv'
    have hbk : Blk w' g 92 [v] := (hg'.block g (Blk.lt hq1.blk) (fun e => hq1.ne e.symm)).trans hq1.blk
    have hgs : w'.grownBy (w'.setCell ⟨g, 0, none⟩ v') (some g) := grownBy_setCell' w' g v'
    refine ⟨hbk.cell 0, hbk.frozen 0, ⟨Blk.set_ hbk 0 v', ho'.grown hgs (.inr (by rw [hv']; exact h.ne)), by rw [hv']; exact h.ne⟩, ?_⟩
    exact ((((TmF.refl g v w).later hB1).grownV hg' (.inl hv')).grownG hgs (.inl rfl))
  obtain ⟨w1, hw1⟩ : ∃ w1, w1 = w.alloc (.cells (cellsT t).toArray 95) := ⟨_, rfl⟩
  have ha : w.alloc (.cells #[.int .i64 t.1, .int .i64 t.2] 95) = w1 := hw1.symm
  rw [← hw1] at DF hc1 POST
  have HP := Lib.hid POST
  clear h hB1 hq1 hne hw1 POST
  go_enter Try.func93, Try.ntmps93
  go_wp2_with (first
    | rw [ha]
    | (go_at_call 109; refine DF.out.mono ?_; rintro e w' ⟨v', rfl, ho', hg', hv'⟩; obtain ⟨A', c', hsl, _⟩ := ho'.slice; subst hsl; obtain ⟨hc2, hf2, hP⟩ := (HP.out w' _ ho' hg' hv').out; have HQ := Lib.hid hP; clear hP ho' hg' hv'))
  go_end0
  exact ⟨rfl, _, HQ.out⟩
end Go.Proofs.Ytdlnmhobhafobaa
