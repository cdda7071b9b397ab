/-
  The automaton's methods: Do, State, Count, Running, Copy, Timeout; New.
-/
import Derived.Test.YtpkmddagcfjadaaDoorAuReck
namespace Go.Proofs.YtpkmddagcfjadaaDoor
open Go.RowKit
set_option maxRecDepth 100000
set_option maxHeartbeats 2000000
set_option linter.unusedSimpArgs false
set_option linter.unusedVariables false

def outOf (c e : Int) : Bool := (e == 4 && c == 0) || (e == 5 && decide (0 < c))
def doE (s c e : Int) : Int := if nxE s e = 0 then (if outOf c e then 9 else 0) else nxE s e
def doS (s c e : Int) : Int := if doE s c e = 0 then nxS s e else s
def doC (s c mc mt e : Int) : Int := if doE s c e = 0 then rkn mc mt (nxA s e) (nxA s e) c else c
def doA (s c e : Int) : List Int := if doE s c e = 0 then nxA s e else []
theorem do_refused {s c mc mt e x : Int} (h : doE s c e = x) (hx : x ≠ 0) : doS s c e = s ∧ doC s c mc mt e = c ∧ doA s c e = [] := by
  unfold doS doC doA
  rw [h]
  exact ⟨if_neg hx, if_neg hx, if_neg hx⟩
theorem do_done {s c mc mt e : Int} (h : doE s c e = 0) : doS s c e = nxS s e ∧ doC s c mc mt e = rkn mc mt (nxA s e) (nxA s e) c ∧ doA s c e = nxA s e := by
  unfold doS doC doA
  rw [h]
  exact ⟨if_pos rfl, if_pos rfl, if_pos rfl⟩
theorem doC_bounds {s c mc mt e : Int} (h1 : 0 ≤ mc ∧ mc ≤ 255) (h2 : 0 ≤ mt ∧ mt ≤ 255) (h3 : 0 ≤ c ∧ c ≤ 255) : 0 ≤ doC s c mc mt e ∧ doC s c mc mt e ≤ 255 := by
  unfold doC
  split
  · exact rkn_bounds _ h1 h2 _ _ h3
  · exact h3
theorem doA_length (s c e : Int) : (doA s c e).length ≤ 3 := by
  unfold doA
  split
  · exact nxA_length s e
  · simp
theorem grown_then {a b c : World} {row : Option Nat} (h : a.grownBy b none) (k : b.grownBy c row) : a.grownBy c row :=
  ⟨k.os.trans h.os, k.tape.trans h.tape, k.output.trans h.output, Nat.le_trans h.size k.size, fun i hi hne => (k.block i (Nat.lt_of_lt_of_le hi h.size) hne).trans (h.block i hi (by simp))⟩
theorem grown_also {a b c : World} {row : Option Nat} (h : a.grownBy b row) (k : b.grownBy c row) : a.grownBy c row :=
  ⟨k.os.trans h.os, k.tape.trans h.tape, k.output.trans h.output, Nat.le_trans h.size k.size, fun i hi hne => (k.block i (Nat.lt_of_lt_of_le hi h.size) hne).trans (h.block i hi hne)⟩
theorem grown_none {w w' : World} {row : Option Nat} (h : w.grownBy w' none) : w.grownBy w' row := ⟨h.os, h.tape, h.output, h.size, fun i hi _ => h.block i hi (by simp)⟩

theorem do_any (g : Nat) (s c mc mt e : Int) (w : World) (ha : AuB w g s c mc mt) (hT : TabA w) (h1 : 0 ≤ mc ∧ mc ≤ 255) (h2 : 0 ≤ mt ∧ mt ≤ 255) (h3 : 0 ≤ c ∧ c ≤ 255) :
    Calls Tryd.prog 33 #[.pointer (some ⟨g, 0, none⟩), .int .i64 e] w fun r w' => ∃ v, r = .returned (.tuple #[v, .int .i64 (doE s c e)]) ∧ OwnI w' w.heap.size v (doA s c e) ∧ AuB w' g (doS s c e) (doC s c mc mt e) mc mt ∧ w.grownBy w' (some g) := by
  have c0 : w.cell? ⟨g, 0, none⟩ = some (.int .i64 s) := ha.cell 0
  have HN := Lib.hid (next_any s e w hT)
  have hgl := ha.lt
  have HA := Lib.hid ha
  have H1 := Lib.hid h1
  have H2 := Lib.hid h2
  have H3 := Lib.hid h3
  clear ha hT h1 h2
  by_cases hx : nxE s e = 0
  · by_cases ho : outOf c e = true
    · have HD : doE s c e = 9 := by unfold doE; rw [if_pos hx, if_pos ho]
      obtain ⟨r1, r2, r3⟩ := do_refused (mc := mc) (mt := mt) HD (by omega)
      rw [HD, r1, r2, r3]
      rw [hx] at HN
      clear HD r1 r2 r3 hx
      have ho2 : (e = 4 ∧ c = 0) ∨ (e = 5 ∧ 0 < c) := by
        unfold outOf at ho
        simpa [Bool.or_eq_true, Bool.and_eq_true] using ho
      clear ho
      have key : ∀ w1, Below w.heap.size w w1 → w1.cell? ⟨g, 1, none⟩ = some (.int .i64 c) := fun w1 hb => (HA.out.below hb hgl).cell 1
      have KEY := Lib.hid key
      clear key
      rcases ho2 with ⟨rfl, rfl⟩ | ⟨rfl, hc⟩
      all_goals
        go_enter Tryd.func33, Tryd.ntmps33
        go_wp2_with (go_at_call 12; refine HN.out.mono ?_; rintro e w1 ⟨v, rfl, ho, hb⟩; have k1 := KEY.out w1 hb; have BB := Lib.hid hb; clear ho hb HN)
        go_ret2
        exact ⟨_, rfl, OwnI.nil _ _, HA.out.below BB.out hgl, grown_none (grown_of_below BB.out)⟩
    · have HD : doE s c e = 0 := by unfold doE; rw [if_pos hx, if_neg ho]
      obtain ⟨r1, r2, r3⟩ := do_done (mc := mc) (mt := mt) HD
      rw [HD, r1, r2, r3]
      rw [hx] at HN
      have hlen := nxA_length s e
      obtain ⟨ns, hns⟩ : ∃ ns, nxS s e = ns := ⟨_, rfl⟩
      obtain ⟨na, hna⟩ : ∃ na, nxA s e = na := ⟨_, rfl⟩
      rw [hns, hna] at HN ⊢
      rw [hna] at hlen
      clear HD r1 r2 r3 hx hns hna
      have ho2 : ¬ ((e = 4 ∧ c = 0) ∨ (e = 5 ∧ 0 < c)) := by
        intro h
        apply ho
        unfold outOf
        rcases h with ⟨h4, h0⟩ | ⟨h4, h0⟩
        · simp [h4, h0]
        · simp [h4, h0]
      clear ho
      have key : ∀ w1 v, OwnI w1 w.heap.size v na → Below w.heap.size w w1 → ∃ A0 c0, v = .slice A0 na.length c0 ∧ Calls Tryd.prog 46 #[.pointer (some ⟨g, 0, none⟩), .slice A0 na.length c0] w1 fun e w' => e = .returned (.tuple #[]) ∧
          (AuB w' g s (rkn mc mt na na c) mc mt ∧ OwnI w' w.heap.size v na ∧ w.grownBy w' (some g)) := by
        intro w1 v ho hb
        obtain ⟨A0, c0, rfl, _, _⟩ := ho.slice
        refine ⟨A0, c0, rfl, (reckon_any g s c mc mt A0 na.length c0 w1.heap.size na w1 (HA.out.below hb hgl) ho.rd.1 (Nat.le_refl _) (fun b off e => ?_) (by omega) H1.out H2.out H3.out).mono ?_⟩
        · obtain ⟨k1, k2⟩ := ho.form
          have := k2 b (by rw [e]; rfl)
          omega
        · rintro e w2 ⟨rfl, x1, x2⟩
          refine ⟨rfl, x1, ho.grown x2 ?_, grown_then (grown_of_below hb) x2⟩
          rcases h : (Value.slice A0 na.length c0).ownBlock with _ | k
          · exact .inl rfl
          · have := ho.form.2 k h
            exact .inr (fun e => by injection e; omega)
      have KEY := Lib.hid key
      clear key
      have key2 : ∀ w1, Below w.heap.size w w1 → w1.cell? ⟨g, 1, none⟩ = some (.int .i64 c) := fun w1 hb => (HA.out.below hb hgl).cell 1
      have KEY2 := Lib.hid key2
      clear key2
      have walk : Calls Tryd.prog 33 #[.pointer (some ⟨g, 0, none⟩), .int .i64 e] w fun r w' => ∃ v w2, r = .returned (.tuple #[v, .int .i64 0]) ∧ AuB w2 g s (rkn mc mt na na c) mc mt ∧ OwnI w2 w.heap.size v na ∧ w.grownBy w2 (some g) ∧ w' = w2.setCell ⟨g, 0, none⟩ (.int .i64 ns) := by
        by_cases h4 : e = 4
        · subst h4
          have hc0 : (c == 0) = false := by simp; omega
          clear ho2
          go_enter Tryd.func33, Tryd.ntmps33
          go_wp2_with (first
            | (go_at_call 12; refine HN.out.mono ?_; rintro e w1 ⟨v, rfl, ho, hb⟩; have k1 := KEY2.out w1 hb; obtain ⟨A0, c0, rfl, KC⟩ := KEY.out w1 v ho hb; have KC2 := Lib.hid KC; clear ho hb HN KEY KC KEY2)
            | (go_at_call 46; refine KC2.out.mono ?_; rintro e w2 ⟨rfl, x1, x2, x3⟩; have k2 : w2.cell? ⟨g, 0, none⟩ = some (.int .i64 s) := x1.cell 0; have f2 : w2.frozen? ⟨g, 0, none⟩ = false := x1.frozen 0; have X1 := Lib.hid x1; have X2 := Lib.hid x2; have X3 := Lib.hid x3; clear x1 x2 x3 KC2))
          go_ret2
          exact ⟨_, _, rfl, X1.out, X2.out, X3.out, rfl⟩
        · have t4 : (e == 4) = false := by simpa using h4
          by_cases h5 : e = 5
          · subst h5
            have hc0 : ¬ (0 < c) := by omega
            clear ho2
            go_enter Tryd.func33, Tryd.ntmps33
            go_wp2_with (first
              | (go_at_call 12; refine HN.out.mono ?_; rintro e w1 ⟨v, rfl, ho, hb⟩; have k1 := KEY2.out w1 hb; obtain ⟨A0, c0, rfl, KC⟩ := KEY.out w1 v ho hb; have KC2 := Lib.hid KC; clear ho hb HN KEY KC KEY2)
              | (go_at_call 46; refine KC2.out.mono ?_; rintro e w2 ⟨rfl, x1, x2, x3⟩; have k2 : w2.cell? ⟨g, 0, none⟩ = some (.int .i64 s) := x1.cell 0; have f2 : w2.frozen? ⟨g, 0, none⟩ = false := x1.frozen 0; have X1 := Lib.hid x1; have X2 := Lib.hid x2; have X3 := Lib.hid x3; clear x1 x2 x3 KC2))
            go_ret2
            exact ⟨_, _, rfl, X1.out, X2.out, X3.out, rfl⟩
          · have t5 : (e == 5) = false := by simpa using h5
            clear ho2 h4 h5
            go_enter Tryd.func33, Tryd.ntmps33
            go_wp2_with (first
              | (go_at_call 12; refine HN.out.mono ?_; rintro e w1 ⟨v, rfl, ho, hb⟩; have k1 := KEY2.out w1 hb; obtain ⟨A0, c0, rfl, KC⟩ := KEY.out w1 v ho hb; have KC2 := Lib.hid KC; clear ho hb HN KEY KC KEY2)
              | (go_at_call 46; refine KC2.out.mono ?_; rintro e w2 ⟨rfl, x1, x2, x3⟩; have k2 : w2.cell? ⟨g, 0, none⟩ = some (.int .i64 s) := x1.cell 0; have f2 : w2.frozen? ⟨g, 0, none⟩ = false := x1.frozen 0; have X1 := Lib.hid x1; have X2 := Lib.hid x2; have X3 := Lib.hid x3; clear x1 x2 x3 KC2))
            go_ret2
            exact ⟨_, _, rfl, X1.out, X2.out, X3.out, rfl⟩
      refine walk.mono ?_
      rintro r w' ⟨v, w2, rfl, x1, x2, x3, rfl⟩
      refine ⟨_, rfl, x2.grown (only_set _) ?_, x1.set0 _, grown_set x3 _ _⟩
      rcases h : v.ownBlock with _ | k
      · exact .inl rfl
      · have := x2.form.2 k h
        exact .inr (fun e => by injection e with e; have e2 : k = g := e; omega)
  · have HD : doE s c e = nxE s e := by unfold doE; rw [if_neg hx]
    obtain ⟨r1, r2, r3⟩ := do_refused (mc := mc) (mt := mt) HD hx
    rw [HD, r1, r2, r3]
    clear HD r1 r2 r3
    obtain ⟨ns, hns⟩ : ∃ ns, nxS s e = ns := ⟨_, rfl⟩
    obtain ⟨ne, hne⟩ : ∃ ne, nxE s e = ne := ⟨_, rfl⟩
    rw [hns, hne] at HN
    rw [hne] at hx ⊢
    have hx2 : (ne != 0) = true := by simpa using hx
    clear hns hne hx
    go_enter Tryd.func33, Tryd.ntmps33
    go_wp2_with (go_at_call 12; refine HN.out.mono ?_; rintro e w1 ⟨v, rfl, ho, hb⟩; have BB := Lib.hid hb; clear ho hb HN)
    go_ret2
    exact ⟨_, rfl, OwnI.nil _ _, HA.out.below BB.out hgl, grown_none (grown_of_below BB.out)⟩
end Go.Proofs.YtpkmddagcfjadaaDoor
