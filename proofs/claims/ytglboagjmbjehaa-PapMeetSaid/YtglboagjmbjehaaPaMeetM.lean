/-
  PapMeet: what both ends do in a round.
-/
import Derived.Test.YtglboagjmbjehaaPaAsksM
import Derived.Test.YtglboagjmbjehaaSeRFind
namespace Go.Proofs.Ytglboagjmbjehaa
open Go.RowKit Go.Shelf
set_option maxRecDepth 100000
set_option maxHeartbeats 4000000
set_option linter.unusedSimpArgs false
set_option linter.unusedVariables false

/-- an authenticator stays as it was where another one's block is written -/
theorem SvJ.off {W W' : World} {g tb gp t : Nat} {name : ByteArray} {ss : List Sec} {v : Option (Bool × ByteArray)} {cs : List Value} (h : SvJ W g tb name ss v) (hg : g < gp) (hb : Blk W gp t cs) (hl : cs.length = 7) (k : W.grownBy W' (some gp)) : SvJ W' g tb name ss v := by
  have key : ∀ {st : Int} {who : ByteArray} {ans : Value}, SvAt W g tb name ss st who ans → SvAt W' g tb name ss st who ans := fun h =>
    ⟨blk_off h.blk k (by omega), h.tab.same fun i hi => k.block i (Nat.lt_trans hi (Blk.lt h.blk)) (by intro e; injection e with e; omega)⟩
  have ne : ∀ {x t' : Nat} {u : Value}, Blk W x t' [u] → x ≠ gp := fun hx e => by
    subst e
    unfold Blk at hx hb
    rw [hb] at hx
    injection hx with hx
    injection hx with hx
    have := congrArg Array.size hx
    simp [hl] at this
  match v, h with
  | none, h => exact key h
  | some (ok, who), ⟨x, y, h, hx, hy⟩ => exact ⟨x, y, key h, blk_off hx k (ne hx), blk_off hy k (ne hy)⟩
noncomputable def whoR (r : Bool) (name : ByteArray) : ByteArray := if r then name else ⟨#[]⟩
/-- both ends, in a round -/
structure MeetJ (w W : World) (g tb gp : Nat) (server : ByteArray) (ss : List Sec) (name word : ByteArray) (r : Bool) (i : Nat) (v : Option (Bool × ByteArray)) : Prop where
  bel : Below w.heap.size w W
  lo : w.heap.size ≤ tb ∧ tb < g ∧ g < gp
  sv : SvJ W g tb server ss v
  pr : Blk W gp 81 (Pr.cells ⟨name, word, 10, i, i, 0, ⟨#[]⟩⟩)
  vs : v = none ∨ v = some (r, whoR r name)
  hr : judgeB server ss name word = r
  hn : name.size ≤ 64
  hw : word.size ≤ 64
  hs : server.size ≤ maxLen
structure EndJ (w W : World) (g tb : Nat) (server : ByteArray) (ss : List Sec) (name : ByteArray) (r : Bool) : Prop where
  bel : Below w.heap.size w W
  sv : SvJ W g tb server ss (some (r, whoR r name))
theorem MeetJ.later {w W W' : World} {g tb gp : Nat} {server : ByteArray} {ss : List Sec} {name word : ByteArray} {r : Bool} {i : Nat} {v : Option (Bool × ByteArray)} (j : MeetJ w W g tb gp server ss name word r i v) (hB : Below W.heap.size W W') : MeetJ w W' g tb gp server ss name word r i v :=
  ⟨j.bel.trans (hB.mono j.bel.size), j.lo, j.sv.later hB, (hB.block _ (Blk.lt j.pr)).trans j.pr, j.vs, j.hr, j.hn, j.hw, j.hs⟩
theorem EndJ.later {w W W' : World} {g tb : Nat} {server : ByteArray} {ss : List Sec} {name : ByteArray} {r : Bool} (j : EndJ w W g tb server ss name r) (hB : Below W.heap.size W W') : EndJ w W' g tb server ss name r :=
  ⟨j.bel.trans (hB.mono j.bel.size), j.sv.later hB⟩
theorem meet_state {W : World} {g tb : Nat} {server : ByteArray} {ss : List Sec} {name : ByteArray} {r : Bool} (h : SvJ W g tb server ss (some (r, whoR r name))) :
    Calls Try.prog 17 #[.pointer (some ⟨g, 0, none⟩)] W fun e w' => e = .returned (.int .i64 (if r then 1 else 2)) ∧ W = w' := by
  obtain ⟨x, y, h, _⟩ := h
  exact serverState_any g tb server ss _ _ _ W h
theorem meet_who {W : World} {g tb : Nat} {server : ByteArray} {ss : List Sec} {name : ByteArray} {r : Bool} (h : SvJ W g tb server ss (some (r, whoR r name))) :
    Calls Try.prog 18 #[.pointer (some ⟨g, 0, none⟩)] W fun e w' => e = .returned (.string (whoR r name)) ∧ W = w' := by
  obtain ⟨x, y, h, _⟩ := h
  exact who_any g tb server ss _ _ _ W h
def LastC (w W : World) (g tb gp : Nat) (server : ByteArray) (ss : List Sec) (name : ByteArray) (r : Bool) (C I : Int) (D : Option Addr) (k d : Nat) : Prop :=
  Calls Try.prog 23 #[.pointer (some ⟨gp, 0, none⟩), .agg #[.int .i64 C, .int .i64 I, .slice D k d]] W fun e W3 => e = .returned (.tuple #[.bool r, .int .i64 0]) ∧
    Calls Try.prog 27 #[.pointer (some ⟨gp, 0, none⟩)] W3 (fun e w' => e = .returned (.int .i64 (if r then 1 else 2)) ∧ W3 = w') ∧ EndJ w W3 g tb server ss name r
def TakC (w W : World) (g tb gp : Nat) (server : ByteArray) (ss : List Sec) (name word : ByteArray) (r : Bool) (i : Nat) (D : Option Addr) (k d : Nat) : Prop :=
  Calls Try.prog 13 #[.pointer (some ⟨g, 0, none⟩), .agg #[.int .i64 1, .int .i64 (i + 1 : Nat), .slice D k d]] W fun e W2 => ∃ D' k' d', e = .returned (.tuple #[.agg #[.int .i64 (if r then 2 else 3), .int .i64 (i + 1 : Nat), .slice D' k' d'], .bool true, .int .i64 0]) ∧
    ∃ V, W2.alloc (.cells #[.int .i64 (if r then 2 else 3), .int .i64 (i + 1 : Nat), .slice D' k' d'] 38) = V ∧ Blk V W2.heap.size 38 [.int .i64 (if r then 2 else 3), .int .i64 (i + 1 : Nat), .slice D' k' d'] ∧
      MeetJ w V g tb gp server ss name word r (i + 1) (some (r, whoR r name)) ∧ LastC w V g tb gp server ss name r (if r then 2 else 3) (i + 1 : Nat) D' k' d'
def MSendC (w W : World) (g tb gp : Nat) (server : ByteArray) (ss : List Sec) (name word : ByteArray) (r : Bool) (i : Nat) (v : Option (Bool × ByteArray)) : Prop :=
  Calls Try.prog 21 #[.pointer (some ⟨gp, 0, none⟩)] W fun e W1 => ∃ D k d, e = .returned (.tuple #[.agg #[.int .i64 1, .int .i64 (i + 1 : Nat), .slice D k d], .bool true, .int .i64 0]) ∧
    ∃ V, W1.alloc (.cells #[.int .i64 1, .int .i64 (i + 1 : Nat), .slice D k d] 38) = V ∧ Blk V W1.heap.size 38 [.int .i64 1, .int .i64 (i + 1 : Nat), .slice D k d] ∧
      MeetJ w V g tb gp server ss name word r (i + 1) v ∧ TakC w V g tb gp server ss name word r i D k d
theorem last_any {w W : World} {g tb gp : Nat} {server : ByteArray} {ss : List Sec} {name word : ByteArray} {r : Bool} {i base : Nat} {D : Option Addr} {k d : Nat} (j : MeetJ w W g tb gp server ss name word r (i + 1) (some (r, whoR r name))) (hi : i < 9)
    (hO : Own W base (.slice D k d) (jnL [saidB r])) : LastC w W g tb gp server ss name r (if r then 2 else 3) (i + 1 : Nat) D k d := by
  have hA : ansE (i + 1 : Nat) (saidB r) = 0 := by
    have h1 := said_fits r
    have h2 : idB ((i + 1 : Nat) : Int) = true := by simp [idB]; omega
    unfold ansE
    rw [h2, if_neg (by simp), if_neg (by omega), h1.2, if_neg (by simp)]
  obtain ⟨a1, a2, a3⟩ := ans_back r hA
  obtain ⟨o1, o2, o3⟩ := own_rd hO
  have hk : k ≤ maxLen := by
    have h1 := o1.1
    have h2 : (jnL [saidB r]).length ≤ 300 := by cases r <;> decide
    unfold maxLen
    omega
  refine (ppeerTake_any gp _ _ _ D k d _ _ W j.pr o1 (Nat.le_refl _) o2 o3 hk).mono ?_
  rintro e W3 ⟨g3, b3, rfl⟩
  have ht : (Pr.take ⟨name, word, 10, (i + 1 : Nat), (i + 1 : Nat), 0, ⟨#[]⟩⟩ (if r then 2 else 3) (i + 1 : Nat) (jnL [saidB r])) = (⟨name, word, 10, (i + 1 : Nat), (i + 1 : Nat), if r then 1 else 2, saidB r⟩, r, 0) := by
    unfold Pr.take
    rw [a1, a2, a3, if_neg (by simp), if_neg (by rintro (h | h); exact h rfl; simp at h; omega), if_neg (by simp)]
  rw [ht] at b3 ⊢
  refine ⟨rfl, peerState_any gp _ W3 b3, below_row j.bel g3 (by have := j.lo; omega), j.sv.off j.lo.2.2 j.pr rfl g3⟩
theorem tak_any {w W : World} {g tb gp : Nat} {server : ByteArray} {ss : List Sec} {name word : ByteArray} {r : Bool} {i base : Nat} {v : Option (Bool × ByteArray)} {D : Option Addr} {k d : Nat} (j : MeetJ w W g tb gp server ss name word r (i + 1) v) (hi : i < 9)
    (hO : Own W base (.slice D k d) (jnL [name, word])) : TakC w W g tb gp server ss name word r i D k d := by
  have hA : reqE (i + 1 : Nat) name word = 0 := by
    have h2 : idB ((i + 1 : Nat) : Int) = true := by simp [idB]; omega
    have := j.hn
    have := j.hw
    unfold reqE
    rw [h2, if_neg (by simp), if_neg (by omega)]
  obtain ⟨a1, a2, a3⟩ := req_back hA
  obtain ⟨o1, o2, o3⟩ := own_rd hO
  refine (take_any g tb server ss v 1 (i + 1 : Nat) D k d _ _ W j.sv j.lo.2.1 j.hs o1 (Nat.le_refl _) o2 o3).mono ?_
  rintro e W2 ⟨g2, s2, hr2⟩
  have hv : takeV server ss v 1 (i + 1 : Nat) (jnL [name, word]) = some (r, whoR r name) := by
    unfold takeV
    rw [if_pos a1, a2, a3]
    rcases j.vs with e | e
    · subst e
      show some (judgeB server ss name word, _) = _
      rw [j.hr]
      rfl
    · subst e
      rfl
  rw [hv] at s2 hr2
  obtain ⟨-, ok, who, D', k', d', e1, rfl, hO2⟩ := hr2.resolve_left (fun ⟨h, _⟩ => h a1)
  injection e1 with e1
  injection e1 with e1 e2
  subst e1
  have j2 : MeetJ w W2 g tb gp server ss name word r (i + 1) (some (r, whoR r name)) := ⟨below_row j.bel g2 (by have := j.lo; omega), j.lo, s2, blk_off j.pr g2 (by have := j.lo; omega), .inr rfl, j.hr, j.hn, j.hw, j.hs⟩
  refine ⟨D', k', d', rfl, _, rfl, heap_alloc_new W2 _, j2.later ((Below.refl _ _).alloc (Nat.le_refl _) _), ?_⟩
  exact last_any (j2.later ((Below.refl _ _).alloc (Nat.le_refl _) _)) hi (hO2.alloc _)
theorem msend_any {w W : World} {g tb gp : Nat} {server : ByteArray} {ss : List Sec} {name word : ByteArray} {r : Bool} {i : Nat} {v : Option (Bool × ByteArray)} (j : MeetJ w W g tb gp server ss name word r i v) (hi : i < 9) : MSendC w W g tb gp server ss name word r i v := by
  have ok : PrOk ⟨name, word, 10, i, i, 0, ⟨#[]⟩⟩ := ⟨by have := j.hn; show name.size ≤ 255; omega, by have := j.hw; show word.size ≤ 255; omega, by show (10 : Int) ≤ 255; omega, by show (0 : Int) ≤ (i : Int); omega, by show (i : Int) ≤ 255; omega, by show (0 : Int) ≤ (i : Int); omega, by show (i : Int) ≤ 255; omega⟩
  have hs : Pr.sends ⟨name, word, 10, i, i, 0, ⟨#[]⟩⟩ = (⟨name, word, 10, (i + 1 : Nat), (i + 1 : Nat), 0, ⟨#[]⟩⟩, true, 0) := by
    unfold Pr.sends
    rw [if_neg (by simp), if_neg (by show ¬ (10 : Int) ≤ (i : Int); omega)]
    have e1 : (((i + 1 : Nat) : Int)) % 256 = ((i + 1 : Nat) : Int) := by omega
    have e2 : ((i : Int) + 1) = ((i + 1 : Nat) : Int) := by omega
    simp only [e2, e1]
  refine (ppeerSend_any gp _ W j.pr ok).mono ?_
  rintro e W1 ⟨g1, b1, hr1⟩
  rw [hs] at b1 hr1
  obtain ⟨-, D, k, d, rfl, hO⟩ := hr1.resolve_left (fun ⟨h, _⟩ => by cases h)
  have j1 : MeetJ w W1 g tb gp server ss name word r (i + 1) v := ⟨below_row j.bel g1 (by have := j.lo; omega), j.lo, j.sv.off j.lo.2.2 j.pr rfl g1, b1, j.vs, j.hr, j.hn, j.hw, j.hs⟩
  refine ⟨D, k, d, rfl, _, rfl, heap_alloc_new W1 _, j1.later ((Below.refl _ _).alloc (Nat.le_refl _) _), ?_⟩
  exact tak_any (j1.later ((Below.refl _ _).alloc (Nat.le_refl _) _)) hi (hO.alloc _)
end Go.Proofs.Ytglboagjmbjehaa
