/-
  The reference's policy in memory, and its calls but Begin, LinkDown and Next.
-/
import Derived.Test.YtdjifjlkpimiaaaPoLaw
import Derived.BigQuiet
namespace Go.Proofs.Ytdjifjlkpimiaaa
open Go.RowKit
set_option maxRecDepth 100000
set_option maxHeartbeats 4000000
set_option linter.unusedSimpArgs false
set_option linter.unusedVariables false

def rpC (cs : List Value) (x : PoS) : List Value := cs ++ [.int .i64 x.st, .bool x.wa, .int .i64 x.fa, .string x.wy, .int .i64 x.now, .int .i64 x.ran, .int .i64 x.us, .int .i64 x.en]
structure RpB (w : World) (g : Nat) (cs : List Value) (x : PoS) : Prop where
  blk : Blk w g 61 (rpC cs x)
  cf : ConfP cs.toArray x.idl x.se x.ho x.mf x.per x.dem
theorem RpB.len {w : World} {g : Nat} {cs : List Value} {x : PoS} (h : RpB w g cs x) : cs.length = 33 := by
  have := h.cf.1
  simpa using this
theorem RpB.hi {w : World} {g : Nat} {cs : List Value} {x : PoS} (h : RpB w g cs x) (i : Nat) : w.cell? ⟨g, 33 + i, none⟩ = [Value.int .i64 x.st, .bool x.wa, .int .i64 x.fa, .string x.wy, .int .i64 x.now, .int .i64 x.ran, .int .i64 x.us, .int .i64 x.en][i]? := by
  rw [h.blk.cell (33 + i)]
  unfold rpC
  rw [List.getElem?_append_right (by rw [h.len]; omega), h.len]
  congr 1
  omega
theorem RpB.lo {w : World} {g : Nat} {cs : List Value} {x : PoS} (h : RpB w g cs x) (i : Nat) (hi : i < 33) : w.cell? ⟨g, i, none⟩ = cs.toArray[i]? := by
  rw [h.blk.cell i]
  unfold rpC
  rw [List.getElem?_append_left (by rw [h.len]; omega)]
  simp
theorem RpB.lt {w : World} {g : Nat} {cs : List Value} {x : PoS} (h : RpB w g cs x) : g < w.heap.size := h.blk.lt
theorem RpB.frozen {w : World} {g : Nat} {cs : List Value} {x : PoS} (h : RpB w g cs x) (i : Nat) : w.frozen? ⟨g, i, none⟩ = false := h.blk.frozen i
theorem RpB.set_ {w : World} {g : Nat} {cs : List Value} {x y : PoS} (h : RpB w g cs x) (i : Nat) (v : Value) (hy : [Value.int .i64 y.st, .bool y.wa, .int .i64 y.fa, .string y.wy, .int .i64 y.now, .int .i64 y.ran, .int .i64 y.us, .int .i64 y.en] = [Value.int .i64 x.st, .bool x.wa, .int .i64 x.fa, .string x.wy, .int .i64 x.now, .int .i64 x.ran, .int .i64 x.us, .int .i64 x.en].set i v)
    (ht : y.idl = x.idl ∧ y.se = x.se ∧ y.ho = x.ho ∧ y.mf = x.mf ∧ y.per = x.per ∧ y.dem = x.dem) : RpB (w.setCell ⟨g, 33 + i, none⟩ v) g cs y := by
  obtain ⟨h1, h2, h3, h4, h5, h6⟩ := ht
  refine ⟨?_, by rw [h1, h2, h3, h4, h5, h6]; exact h.cf⟩
  have hs := h.blk.set_ (33 + i) v
  unfold rpC at hs ⊢
  rw [List.set_append_right _ _ (by rw [h.len]; omega), h.len, show 33 + i - 33 = i by omega, ← hy] at hs
  exact hs
abbrev six (x y : PoS) : Prop := y.idl = x.idl ∧ y.se = x.se ∧ y.ho = x.ho ∧ y.mf = x.mf ∧ y.per = x.per ∧ y.dem = x.dem
theorem RpB.below {w w' : World} {g : Nat} {cs : List Value} {x : PoS} (h : RpB w g cs x) (hb : Below w.heap.size w w') : RpB w' g cs x := ⟨Blk.below h.blk hb h.blk.lt, h.cf⟩
theorem RpB.row {w w' : World} {g g' : Nat} {cs : List Value} {x : PoS} (h : RpB w g cs x) (hb : w.grownBy w' (some g')) (hne : g ≠ g') : RpB w' g cs x := ⟨Blk.grown h.blk hb (fun e => hne (by injection e with e; exact e.symm)), h.cf⟩
theorem RpB.alloc {w : World} {g : Nat} {cs : List Value} {x : PoS} (h : RpB w g cs x) (d : Obj) : RpB (w.alloc d) g cs x := h.below ((Below.refl _ _).alloc (Nat.le_refl _) _)
theorem RpB.drewN {w : World} {g : Nat} {cs : List Value} {x : PoS} (h : RpB w g cs x) (n : Nat) : RpB (w.drewN n) g cs x := ⟨h.blk, h.cf⟩
theorem due_zero {y : PoS} (h : poDue y = 0) : poSet y = y ∧ poSetL y = [] := by
  unfold poSet poSetL
  rw [h]
  exact ⟨rfl, rfl⟩
theorem due_one {y : PoS} (h : poDue y = 1) : poSet y = poHang y wySession ∧ poSetL y = [2] := by
  unfold poSet poSetL
  rw [h]
  exact ⟨rfl, rfl⟩
theorem due_two {y : PoS} (h : poDue y = 2) : poSet y = poHang y wyIdle ∧ poSetL y = [2] := by
  unfold poSet poSetL
  rw [h]
  exact ⟨rfl, rfl⟩
theorem due_three {y : PoS} (h : poDue y = 3) : poSet y = poRel y ∧ poSetL y = poRelL y := by
  unfold poSet poSetL
  rw [h]
  exact ⟨rfl, rfl⟩
theorem rev0_due (x : PoS) : (poSet (poRev0 x) = if x.ho ≤ x.now - x.en then poRel (poRev0 x) else poRev0 x) ∧ (poSetL (poRev0 x) = if x.ho ≤ x.now - x.en then poRelL (poRev0 x) else []) := by
  have d : poDue (poRev0 x) = if x.en + x.ho ≤ x.now then 3 else 0 := by simp [poDue, poRev0]
  by_cases hc : x.en + x.ho ≤ x.now
  · have hc2 : x.ho ≤ x.now - x.en := by omega
    rw [if_pos hc2, if_pos hc2]
    exact due_three (d.trans (if_pos hc))
  · have hc2 : ¬ x.ho ≤ x.now - x.en := by omega
    rw [if_neg hc2, if_neg hc2]
    exact due_zero (d.trans (if_neg hc))
/-- what a deed of the reference leaves -/
def RpR (w : World) (g : Nat) (cs : List Value) (y : PoS) (l : List Int) (e : Ending) (w' : World) : Prop := ∃ v, e = .returned v ∧ OwnI w' w.heap.size v l ∧ RpB w' g cs y ∧ w.grownBy w' (some g)
theorem rpr_one {w W : World} {g k : Nat} {cs : List Value} {y : PoS} (z : Int) (hk : k = W.heap.size) (hy : RpB W g cs y) (hg : w.grownBy W (some g)) :
    RpR w g cs y [z] (.returned (.slice (some ⟨k, 0, none⟩) 1 1)) (W.alloc (.cells #[.int .i64 z] 3)) := by
  subst hk
  exact ⟨_, rfl, ownI_one z hg.size, hy.alloc _, galloc' hg _⟩
theorem rpr_none {w W : World} {g : Nat} {cs : List Value} {y : PoS} (hy : RpB W g cs y) (hg : w.grownBy W (some g)) : RpR w g cs y [] (.returned (.slice none 0 0)) W :=
  ⟨_, rfl, OwnI.nil _ _, hy, hg⟩
theorem RpR.from {w W w' : World} {g : Nat} {cs : List Value} {y : PoS} {l : List Int} {e : Ending} (h : RpR W g cs y l e w') (hg : w.grownBy W (some g)) : RpR w g cs y l e w' := by
  obtain ⟨v, he, ho, hy, hk⟩ := h
  exact ⟨v, he, ho.wide hg.size, hy, gtrans' hg hk⟩
theorem rdial_any (g : Nat) (cs : List Value) (x : PoS) (w : World) (hx : RpB w g cs x) :
    Calls Try.prog 48 #[.pointer (some ⟨g, 0, none⟩)] w (RpR w g cs ({ x with st := 2 }) ([1])) := by
  have c33 : w.cell? ⟨g, 33, none⟩ = some (.int .i64 x.st) := hx.hi 0
  have f33 : w.frozen? ⟨g, 33, none⟩ = false := hx.frozen 33
  have HX := Lib.hid hx
  clear hx
  go_enter Try.func48, Try.ntmps48
  go_wp2
  go_ret
  refine rpr_one 1 (by simp [World.setCell]) ?_ ?_
  · exact RpB.set_ (y := { x with st := 2 }) (HX.out) 0 (.int .i64 2) rfl ⟨rfl, rfl, rfl, rfl, rfl, rfl⟩
  · exact gset' _ _ _ _
theorem rhang_any (g : Nat) (cs : List Value) (x : PoS) (y : ByteArray) (w : World) (hx : RpB w g cs x) :
    Calls Try.prog 46 #[.pointer (some ⟨g, 0, none⟩), .string y] w (RpR w g cs (poHang x y) ([2])) := by
  have c33 : w.cell? ⟨g, 33, none⟩ = some (.int .i64 x.st) := hx.hi 0
  have c34 : w.cell? ⟨g, 34, none⟩ = some (.bool x.wa) := hx.hi 1
  have c36 : w.cell? ⟨g, 36, none⟩ = some (.string x.wy) := hx.hi 3
  have f33 : w.frozen? ⟨g, 33, none⟩ = false := hx.frozen 33
  have f34 : w.frozen? ⟨g, 34, none⟩ = false := hx.frozen 34
  have f36 : w.frozen? ⟨g, 36, none⟩ = false := hx.frozen 36
  have HX := Lib.hid hx
  clear hx
  go_enter Try.func46, Try.ntmps46
  go_wp2
  go_ret
  refine rpr_one 2 (by simp [World.setCell]) ?_ ?_
  · exact RpB.set_ (y := poHang x y) (RpB.set_ (y := { x with st := 4, wa := false }) (RpB.set_ (y := { x with st := 4 }) (HX.out) 0 (.int .i64 4) rfl ⟨rfl, rfl, rfl, rfl, rfl, rfl⟩) 1 (.bool false) rfl ⟨rfl, rfl, rfl, rfl, rfl, rfl⟩) 3 (.string y) rfl ⟨rfl, rfl, rfl, rfl, rfl, rfl⟩
  · exact gtrans' (gtrans' (gset' _ _ _ _) (gset' _ _ _ _)) (gset' _ _ _ _)
theorem rheld_any (g : Nat) (cs : List Value) (x : PoS) (w : World) (hx : RpB w g cs x) :
    Calls Try.prog 47 #[.pointer (some ⟨g, 0, none⟩)] w (RpR w g cs (poRel x) (poRelL x)) := by
  have c33 : w.cell? ⟨g, 33, none⟩ = some (.int .i64 x.st) := hx.hi 0
  have c34 : w.cell? ⟨g, 34, none⟩ = some (.bool x.wa) := hx.hi 1
  have f33 : w.frozen? ⟨g, 33, none⟩ = false := hx.frozen 33
  have HX := Lib.hid hx
  cases ha : x.wa with
  | true =>
    have e1 : poRel x = { x with st := 2 } := by
      unfold poRel poDial
      rw [ha, if_pos rfl]
    have e2 : poRelL x = [1] := by simp [poRelL, ha]
    rw [e1, e2]
    rw [ha] at c34
    have HD := Lib.hid (rdial_any g cs x w hx)
    clear hx ha e1 e2
    go_enter Try.func47, Try.ntmps47
    go_wp2_with (go_at_call 48; refine HD.out.mono ?_; rintro e w1 ⟨v, rfl, h3⟩; have H3 := Lib.hid h3; clear h3)
    go_ret
    exact ⟨v, rfl, H3.out⟩
  | false =>
    have e1 : poRel x = { x with st := 0 } := by simp [poRel, ha]
    have e2 : poRelL x = [] := by simp [poRelL, ha]
    rw [e1, e2]
    rw [ha] at c34
    clear hx ha e1 e2
    go_enter Try.func47, Try.ntmps47
    go_wp2
    go_ret
    refine rpr_none ?_ ?_
    · exact RpB.set_ (y := { x with st := 0 }) (HX.out) 0 (.int .i64 0) rfl ⟨rfl, rfl, rfl, rfl, rfl, rfl⟩
    · exact gset' _ _ _ _
theorem rstart_any (g : Nat) (cs : List Value) (x : PoS) (w : World) (hx : RpB w g cs x) :
    Calls Try.prog 30 #[.pointer (some ⟨g, 0, none⟩)] w (RpR w g cs (poDo 0 x) (poDoL 0 x)) := by
  have c33 : w.cell? ⟨g, 33, none⟩ = some (.int .i64 x.st) := hx.hi 0
  have c34 : w.cell? ⟨g, 34, none⟩ = some (.bool x.wa) := hx.hi 1
  have c29 : w.cell? ⟨g, 29, none⟩ = some (.bool x.dem) := (hx.lo 29 (by omega)).trans hx.cf.2.2.2.2.2.1
  have f34 : w.frozen? ⟨g, 34, none⟩ = false := hx.frozen 34
  have HX := Lib.hid hx
  by_cases hq : x.st = 0 ∧ x.dem = false
  · have e1 : poDo 0 x = poDial x := by simp [poDo, hq]
    have e2 : poDoL 0 x = [1] := by simp [poDoL, hq]
    rw [e1, e2]
    rw [hq.1] at c33
    rw [hq.2] at c29
    have HD : Hid (Calls Try.prog 48 #[.pointer (some ⟨g, 0, none⟩)] (w.setCell ⟨g, 34, none⟩ (.bool true)) (RpR w g cs (poDial x) [1])) := (rdial_any g cs (poWant x) _ (RpB.set_ (y := poWant x) (hx) 1 (.bool true) rfl ⟨rfl, rfl, rfl, rfl, rfl, rfl⟩)).mono fun e w2 h2 => h2.from (gset' _ _ _ _)
    clear hx hq e1 e2
    go_enter Try.func30, Try.ntmps30
    go_wp2_with (go_at_call 48; ((with_reducible refine HD.out.mono ?_); rintro e w1 ⟨v, rfl, h3⟩; have H3 := Lib.hid h3; clear h3))
    go_ret
    exact ⟨v, rfl, H3.out⟩
  · have e1 : poDo 0 x = x := by simp [poDo, hq]
    have e2 : poDoL 0 x = [] := by simp [poDoL, hq]
    rw [e1, e2]
    have HF : Hid (RpR w g cs x [] (.returned (.slice none 0 0)) w) := rpr_none hx (World.grownBy.refl _ _)
    by_cases h0 : x.st = 0
    · have hd : x.dem = true := by
        cases hd : x.dem with
        | true => rfl
        | false => exact absurd ⟨h0, hd⟩ hq
      rw [h0] at c33
      rw [hd] at c29
      clear hx hq e1 e2 h0 hd
      go_enter Try.func30, Try.ntmps30
      go_wp2
      go_ret
      exact HF.out
    · have t0 : (x.st == 0) = false := by simpa using h0
      clear hx hq e1 e2 h0
      go_enter Try.func30, Try.ntmps30
      go_wp2
      go_ret
      exact HF.out
theorem rpacket_no (g : Nat) (cs : List Value) (x : PoS) (w : World) (hx : RpB w g cs x) :
    Calls Try.prog 31 #[.pointer (some ⟨g, 0, none⟩), .bool false] w (RpR w g cs x []) := by
  have HF : Hid (RpR w g cs x [] (.returned (.slice none 0 0)) w) := rpr_none hx (World.grownBy.refl _ _)
  clear hx
  go_enter Try.func31, Try.ntmps31
  go_wp2
  go_ret
  exact HF.out
theorem rpacket_yes (g : Nat) (cs : List Value) (x : PoS) (w : World) (hx : RpB w g cs x) (ho : PoOk x) :
    Calls Try.prog 31 #[.pointer (some ⟨g, 0, none⟩), .bool true] w (RpR w g cs (poDo 1 x) (poDoL 1 x)) := by
  have c33 : w.cell? ⟨g, 33, none⟩ = some (.int .i64 x.st) := hx.hi 0
  have c34 : w.cell? ⟨g, 34, none⟩ = some (.bool x.wa) := hx.hi 1
  have c29 : w.cell? ⟨g, 29, none⟩ = some (.bool x.dem) := (hx.lo 29 (by omega)).trans hx.cf.2.2.2.2.2.1
  have c37 : w.cell? ⟨g, 37, none⟩ = some (.int .i64 x.now) := hx.hi 4
  have c39 : w.cell? ⟨g, 39, none⟩ = some (.int .i64 x.us) := hx.hi 6
  have f34 : w.frozen? ⟨g, 34, none⟩ = false := hx.frozen 34
  have f39 : w.frozen? ⟨g, 39, none⟩ = false := hx.frozen 39
  have hst := ho.st
  have hs : x.st = 0 ∨ x.st = 1 ∨ x.st = 2 ∨ x.st = 3 ∨ x.st = 4 ∨ x.st = 5 := by omega
  have HX := Lib.hid hx
  have HF : Hid (RpR w g cs x [] (.returned (.slice none 0 0)) w) := rpr_none hx (World.grownBy.refl _ _)
  have HW : Hid (RpR w g cs (poWant x) [] (.returned (.slice none 0 0)) (w.setCell ⟨g, 34, none⟩ (.bool true))) := rpr_none (RpB.set_ (y := poWant x) (hx) 1 (.bool true) rfl ⟨rfl, rfl, rfl, rfl, rfl, rfl⟩) (gset' _ _ _ _)
  have HU : Hid (RpR w g cs (poUse x) [] (.returned (.slice none 0 0)) (w.setCell ⟨g, 39, none⟩ (.int .i64 x.now))) := rpr_none (RpB.set_ (y := poUse x) (hx) 6 (.int .i64 x.now) rfl ⟨rfl, rfl, rfl, rfl, rfl, rfl⟩) (gset' _ _ _ _)
  have HD : Hid (Calls Try.prog 48 #[.pointer (some ⟨g, 0, none⟩)] (w.setCell ⟨g, 34, none⟩ (.bool true)) (RpR w g cs (poDial x) [1])) := (rdial_any g cs (poWant x) _ (RpB.set_ (y := poWant x) (hx) 1 (.bool true) rfl ⟨rfl, rfl, rfl, rfl, rfl, rfl⟩)).mono fun e w2 h2 => h2.from (gset' _ _ _ _)
  unfold poDo poDoL
  clear hx ho hst
  rcases hs with h | h | h | h | h | h <;> cases hd : x.dem <;> rw [h] at c33 <;> rw [hd] at c29 <;> simp only [h, reduceIte, Int.reduceEq, Bool.false_eq_true, and_false, and_true, false_and, true_and, or_false, false_or, or_true, true_or] <;> clear h hd
  all_goals
    go_enter Try.func31, Try.ntmps31
    go_wp2_with (go_at_call 48; ((with_reducible refine HD.out.mono ?_); rintro e w1 ⟨v, rfl, h3⟩; have H3 := Lib.hid h3; clear h3))
    go_ret
    first | exact HF.out | exact HW.out | exact HU.out | exact ⟨v, rfl, H3.out⟩
theorem rup_any (g : Nat) (cs : List Value) (x : PoS) (w : World) (hx : RpB w g cs x) (ho : PoOk x) :
    Calls Try.prog 32 #[.pointer (some ⟨g, 0, none⟩)] w (RpR w g cs (poDo 2 x) (poDoL 2 x)) := by
  have c33 : w.cell? ⟨g, 33, none⟩ = some (.int .i64 x.st) := hx.hi 0
  have c34 : w.cell? ⟨g, 34, none⟩ = some (.bool x.wa) := hx.hi 1
  have c35 : w.cell? ⟨g, 35, none⟩ = some (.int .i64 x.fa) := hx.hi 2
  have c37 : w.cell? ⟨g, 37, none⟩ = some (.int .i64 x.now) := hx.hi 4
  have c40 : w.cell? ⟨g, 40, none⟩ = some (.int .i64 x.en) := hx.hi 7
  have c27 : w.cell? ⟨g, 27, none⟩ = some (.int .i64 x.ho) := (hx.lo 27 (by omega)).trans hx.cf.2.2.2.1
  have f33 : w.frozen? ⟨g, 33, none⟩ = false := hx.frozen 33
  have f34 : w.frozen? ⟨g, 34, none⟩ = false := hx.frozen 34
  have f35 : w.frozen? ⟨g, 35, none⟩ = false := hx.frozen 35
  have hst := ho.st
  have hs : x.st = 0 ∨ x.st = 1 ∨ x.st = 4 ∨ (x.st ≠ 0 ∧ x.st ≠ 1 ∧ x.st ≠ 4 ∧ x.st ≠ 5) ∨ x.st = 5 := by omega
  have HF : Hid (RpR w g cs x [] (.returned (.slice none 0 0)) w) := rpr_none hx (World.grownBy.refl _ _)
  have HU : Hid (RpR w g cs (poUrge x) [] (.returned (.slice none 0 0)) ((w.setCell ⟨g, 34, none⟩ (.bool true)).setCell ⟨g, 35, none⟩ (.int .i64 0))) := rpr_none (RpB.set_ (y := poUrge x) (RpB.set_ (y := poWant x) (hx) 1 (.bool true) rfl ⟨rfl, rfl, rfl, rfl, rfl, rfl⟩) 2 (.int .i64 0) rfl ⟨rfl, rfl, rfl, rfl, rfl, rfl⟩) (gtrans' (gset' _ _ _ _) (gset' _ _ _ _))
  have HD : Hid (Calls Try.prog 48 #[.pointer (some ⟨g, 0, none⟩)] ((w.setCell ⟨g, 34, none⟩ (.bool true)).setCell ⟨g, 35, none⟩ (.int .i64 0)) (RpR w g cs (poDial (poUrge x)) [1])) := (rdial_any g cs (poUrge x) _ (RpB.set_ (y := poUrge x) (RpB.set_ (y := poWant x) (hx) 1 (.bool true) rfl ⟨rfl, rfl, rfl, rfl, rfl, rfl⟩) 2 (.int .i64 0) rfl ⟨rfl, rfl, rfl, rfl, rfl, rfl⟩)).mono fun e w2 h2 => h2.from (gtrans' (gset' _ _ _ _) (gset' _ _ _ _))
  have hb1 := ho.en
  have hb2 := ho.now
  have hb3 := ho.ho
  have e2 : poDo 2 x = if x.st = 0 then poDial (poUrge x) else if x.st = 1 ∨ x.st = 4 then poUrge x else if x.st = 5 then poSet (poRev0 x) else x := rfl
  have l2 : poDoL 2 x = if x.st = 0 then [1] else if x.st = 5 then poSetL (poRev0 x) else [] := rfl
  rw [e2, l2]
  clear e2 l2
  rcases hs with h | h | h | ⟨h0, h1, h4, h5⟩ | h
  · rw [h] at c33
    simp only [h, reduceIte, Int.reduceEq, or_true, true_or, or_false, false_or]
    clear hx ho hst h hb1 hb2 hb3
    go_enter Try.func32, Try.ntmps32
    go_wp2_with (go_at_call 48; ((with_reducible refine HD.out.mono ?_); rintro e w1 ⟨v, rfl, h3⟩; have H3 := Lib.hid h3; clear h3))
    go_ret
    first | exact HU.out | exact ⟨v, rfl, H3.out⟩
  · rw [h] at c33
    simp only [h, reduceIte, Int.reduceEq, or_true, true_or, or_false, false_or]
    clear hx ho hst h hb1 hb2 hb3
    go_enter Try.func32, Try.ntmps32
    go_wp2_with (go_at_call 48; ((with_reducible refine HD.out.mono ?_); rintro e w1 ⟨v, rfl, h3⟩; have H3 := Lib.hid h3; clear h3))
    go_ret
    first | exact HU.out | exact ⟨v, rfl, H3.out⟩
  · rw [h] at c33
    simp only [h, reduceIte, Int.reduceEq, or_true, true_or, or_false, false_or]
    clear hx ho hst h hb1 hb2 hb3
    go_enter Try.func32, Try.ntmps32
    go_wp2_with (go_at_call 48; ((with_reducible refine HD.out.mono ?_); rintro e w1 ⟨v, rfl, h3⟩; have H3 := Lib.hid h3; clear h3))
    go_ret
    first | exact HU.out | exact ⟨v, rfl, H3.out⟩
  · have t0 : (x.st == 0) = false := by simpa using h0
    have t1 : (x.st == 1) = false := by simpa using h1
    have t4 : (x.st == 4) = false := by simpa using h4
    have t5 : (x.st == 5) = false := by simpa using h5
    rw [if_neg h0, if_neg (fun h => h.elim h1 h4), if_neg h5, if_neg h0, if_neg h5]
    clear hx ho hst h0 h1 h4 h5 hb1 hb2 hb3
    go_enter Try.func32, Try.ntmps32
    go_wp2
    go_ret
    exact HF.out
  · rw [h] at c33
    have hv : RpB (((w.setCell ⟨g, 34, none⟩ (.bool true)).setCell ⟨g, 35, none⟩ (.int .i64 0)).setCell ⟨g, 33, none⟩ (.int .i64 1)) g cs (poRev0 x) := RpB.set_ (y := poRev0 x) (RpB.set_ (y := poUrge x) (RpB.set_ (y := poWant x) (hx) 1 (.bool true) rfl ⟨rfl, rfl, rfl, rfl, rfl, rfl⟩) 2 (.int .i64 0) rfl ⟨rfl, rfl, rfl, rfl, rfl, rfl⟩) 0 (.int .i64 1) rfl ⟨rfl, rfl, rfl, rfl, rfl, rfl⟩
    have hvg : w.grownBy (((w.setCell ⟨g, 34, none⟩ (.bool true)).setCell ⟨g, 35, none⟩ (.int .i64 0)).setCell ⟨g, 33, none⟩ (.int .i64 1)) (some g) := gtrans' (gtrans' (gset' _ _ _ _) (gset' _ _ _ _)) (gset' _ _ _ _)
    obtain ⟨W1, hW1⟩ : ∃ W1, ((w.setCell ⟨g, 34, none⟩ (.bool true)).setCell ⟨g, 35, none⟩ (.int .i64 0)).setCell ⟨g, 33, none⟩ (.int .i64 1) = W1 := ⟨_, rfl⟩
    rw [hW1] at hv hvg
    have d37 : W1.cell? ⟨g, 37, none⟩ = some (.int .i64 x.now) := hv.hi 4
    have d40 : W1.cell? ⟨g, 40, none⟩ = some (.int .i64 x.en) := hv.hi 7
    have d27 : W1.cell? ⟨g, 27, none⟩ = some (.int .i64 x.ho) := (hv.lo 27 (by omega)).trans hv.cf.2.2.2.1
    have HH : Hid (∀ q, Calls Try.prog 47 #[.pointer (some ⟨g, 0, none⟩)] (W1.drewN q) (RpR w g cs (poRel (poRev0 x)) (poRelL (poRev0 x)))) := fun q => (rheld_any g cs (poRev0 x) _ (hv.drewN q)).mono fun e w2 h2 => h2.from (gdrewN hvg q)
    have HN : Hid (∀ q, RpR w g cs (poRev0 x) [] (.returned (.slice none 0 0)) (W1.drewN q)) := fun q => rpr_none (hv.drewN q) (gdrewN hvg q)
    have HW := Lib.hid hW1
    have hwr : IntKind.i64.wrap (x.now - x.en) = x.now - x.en := IntWalk.i64_in _ (by omega)
    have hdue := rev0_due x
    have x0 : ¬ (5 : Int) = 0 := by omega
    have x1 : ¬ ((5 : Int) = 1 ∨ (5 : Int) = 4) := by omega
    rw [h, if_neg x0, if_neg x1, if_pos rfl, if_neg x0, if_pos rfl, hdue.1, hdue.2]
    clear hx ho hst h hv hvg hW1 hdue x0 x1
    by_cases hc : x.ho ≤ x.now - x.en
    · rw [if_pos hc, if_pos hc]
      have tc : decide (x.ho ≤ x.now - x.en) = true := decide_eq_true hc
      generalize x.now = nw at *
      generalize x.en = en at *
      generalize x.ho = ho at *
      go_enter Try.func32, Try.ntmps32
      go_upto_region 10 with (fail)
      rw [HW.out]
      go_quiet (fail)
      go_wp2_with (go_at_call 47; refine (HH.out _).mono ?_; rintro e w1 ⟨v, rfl, h3⟩; have H3 := Lib.hid h3; clear h3)
      go_ret
      exact ⟨v, rfl, H3.out⟩
    · rw [if_neg hc, if_neg hc]
      have tc : decide (x.ho ≤ x.now - x.en) = false := decide_eq_false hc
      generalize x.now = nw at *
      generalize x.en = en at *
      generalize x.ho = ho at *
      go_enter Try.func32, Try.ntmps32
      go_upto_region 10 with (fail)
      rw [HW.out]
      go_quiet (fail)
      go_wp2
      go_ret
      exact HN.out _
theorem rdown_any (g : Nat) (cs : List Value) (x : PoS) (w : World) (hx : RpB w g cs x) :
    Calls Try.prog 33 #[.pointer (some ⟨g, 0, none⟩)] w (RpR w g cs (poDo 3 x) (poDoL 3 x)) := by
  have c33 : w.cell? ⟨g, 33, none⟩ = some (.int .i64 x.st) := hx.hi 0
  have c34 : w.cell? ⟨g, 34, none⟩ = some (.bool x.wa) := hx.hi 1
  have f34 : w.frozen? ⟨g, 34, none⟩ = false := hx.frozen 34
  have HF : Hid (RpR w g cs (poDrop x) [] (.returned (.slice none 0 0)) (w.setCell ⟨g, 34, none⟩ (.bool false))) := rpr_none (RpB.set_ (y := poDrop x) (hx) 1 (.bool false) rfl ⟨rfl, rfl, rfl, rfl, rfl, rfl⟩) (gset' _ _ _ _)
  have HH : Hid (Calls Try.prog 46 #[.pointer (some ⟨g, 0, none⟩), .string wyDown] (w.setCell ⟨g, 34, none⟩ (.bool false)) (RpR w g cs (poHang x wyDown) [2])) := (rhang_any g cs (poDrop x) wyDown _ (RpB.set_ (y := poDrop x) (hx) 1 (.bool false) rfl ⟨rfl, rfl, rfl, rfl, rfl, rfl⟩)).mono fun e w2 h2 => h2.from (gset' _ _ _ _)
  have e2 : poDo 3 x = if x.st = 2 ∨ x.st = 3 then poHang x wyDown else poDrop x := rfl
  have l2 : poDoL 3 x = if x.st = 2 ∨ x.st = 3 then [2] else [] := rfl
  rw [e2, l2]
  have c34' : (w.setCell ⟨g, 34, none⟩ (.bool false)).cell? ⟨g, 33, none⟩ = some (.int .i64 x.st) := (RpB.set_ (y := poDrop x) (hx) 1 (.bool false) rfl ⟨rfl, rfl, rfl, rfl, rfl, rfl⟩).hi 0
  clear e2 l2 hx
  by_cases hq : x.st = 2 ∨ x.st = 3
  · rw [if_pos hq, if_pos hq]
    rcases hq with h | h
    all_goals
      rw [h] at c33
      clear h c34'
      go_enter Try.func33, Try.ntmps33
      go_wp2_with (go_at_call 46; refine HH.out.mono ?_; rintro e w1 ⟨v, rfl, h3⟩; have H3 := Lib.hid h3; clear h3)
      go_ret
      exact ⟨v, rfl, H3.out⟩
  · rw [if_neg hq, if_neg hq]
    have t2 : (x.st == 2) = false := by simp; omega
    have t3 : (x.st == 3) = false := by simp; omega
    clear hq c34'
    go_enter Try.func33, Try.ntmps33
    go_wp2
    go_ret
    exact HF.out
theorem rlinkup_any (g : Nat) (cs : List Value) (x : PoS) (w : World) (hx : RpB w g cs x) :
    Calls Try.prog 34 #[.pointer (some ⟨g, 0, none⟩)] w (RpR w g cs (poDo 4 x) (poDoL 4 x)) := by
  have c33 : w.cell? ⟨g, 33, none⟩ = some (.int .i64 x.st) := hx.hi 0
  have c35 : w.cell? ⟨g, 35, none⟩ = some (.int .i64 x.fa) := hx.hi 2
  have c36 : w.cell? ⟨g, 36, none⟩ = some (.string x.wy) := hx.hi 3
  have c37 : w.cell? ⟨g, 37, none⟩ = some (.int .i64 x.now) := hx.hi 4
  have c38 : w.cell? ⟨g, 38, none⟩ = some (.int .i64 x.ran) := hx.hi 5
  have c39 : w.cell? ⟨g, 39, none⟩ = some (.int .i64 x.us) := hx.hi 6
  have f33 : w.frozen? ⟨g, 33, none⟩ = false := hx.frozen 33
  have f35 : w.frozen? ⟨g, 35, none⟩ = false := hx.frozen 35
  have f36 : w.frozen? ⟨g, 36, none⟩ = false := hx.frozen 36
  have f38 : w.frozen? ⟨g, 38, none⟩ = false := hx.frozen 38
  have f39 : w.frozen? ⟨g, 39, none⟩ = false := hx.frozen 39
  have HX := Lib.hid hx
  have e2 : poDo 4 x = if x.st = 2 then poRun x else x := rfl
  have l2 : poDoL 4 x = [] := rfl
  rw [e2, l2]
  have HF : Hid (RpR w g cs x [] (.returned (.slice none 0 0)) w) := rpr_none hx (World.grownBy.refl _ _)
  clear e2 l2 hx
  by_cases h : x.st = 2
  · rw [if_pos h]
    rw [h] at c33
    clear h
    go_enter Try.func34, Try.ntmps34
    go_wp2
    go_ret
    refine rpr_none ?_ ?_
    · exact RpB.set_ (y := poRun x) (RpB.set_ (y := { x with st := 3, fa := 0, wy := wyNone, ran := x.now }) (RpB.set_ (y := { x with st := 3, fa := 0, wy := wyNone }) (RpB.set_ (y := { x with st := 3, fa := 0 }) (RpB.set_ (y := { x with st := 3 }) (HX.out) 0 (.int .i64 3) rfl ⟨rfl, rfl, rfl, rfl, rfl, rfl⟩) 2 (.int .i64 0) rfl ⟨rfl, rfl, rfl, rfl, rfl, rfl⟩) 3 (.string wyNone) rfl ⟨rfl, rfl, rfl, rfl, rfl, rfl⟩) 5 (.int .i64 x.now) rfl ⟨rfl, rfl, rfl, rfl, rfl, rfl⟩) 6 (.int .i64 x.now) rfl ⟨rfl, rfl, rfl, rfl, rfl, rfl⟩
    · exact gtrans' (gtrans' (gtrans' (gtrans' (gset' _ _ _ _) (gset' _ _ _ _)) (gset' _ _ _ _)) (gset' _ _ _ _)) (gset' _ _ _ _)
  · rw [if_neg h]
    have t2 : (x.st == 2) = false := by simpa using h
    clear h
    go_enter Try.func34, Try.ntmps34
    go_wp2
    go_ret
    exact HF.out
end Go.Proofs.Ytdjifjlkpimiaaa
