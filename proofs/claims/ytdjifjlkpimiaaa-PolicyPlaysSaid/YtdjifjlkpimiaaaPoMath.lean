/-
  policy in numbers: what it holds, what is due, what each call makes of it.
-/
import Derived.Test.YtdjifjlkpimiaaaAuWords
namespace Go.Proofs.Ytdjifjlkpimiaaa
open Go.RowKit
set_option linter.unusedSimpArgs false
set_option linter.unusedVariables false

/-- a policy: what is wanted, failures, why; demand, persist, hold-off, idle, session, maxfail; state, the last time, LinkUp, used, ended -/
structure PoS where
  wa : Bool
  fa : Int
  wy : ByteArray
  dem : Bool
  per : Bool
  ho : Int
  idl : Int
  se : Int
  mf : Int
  st : Int
  now : Int
  ran : Int
  us : Int
  en : Int
def poC (x : PoS) : List Value := [.bool x.wa, .int .i64 x.fa, .string x.wy, .bool x.dem, .bool x.per, .int .i64 x.ho, .int .i64 x.idl, .int .i64 x.se, .int .i64 x.mf, .int .i64 x.st, .int .i64 x.now, .int .i64 x.ran, .int .i64 x.us, .int .i64 x.en]
abbrev wyNone : ByteArray := ⟨#[]⟩
abbrev wySession : ByteArray := ⟨#[115, 101, 115, 115, 105, 111, 110]⟩
abbrev wyIdle : ByteArray := ⟨#[105, 100, 108, 101]⟩
abbrev wyFailed : ByteArray := ⟨#[102, 97, 105, 108, 101, 100]⟩
abbrev wyLost : ByteArray := ⟨#[108, 111, 115, 116]⟩
abbrev wyDown : ByteArray := ⟨#[100, 111, 119, 110]⟩
/-- within what numbers may be: terms, a state, times up to now -/
structure PoOk (x : PoS) : Prop where
  ho : 0 ≤ x.ho ∧ x.ho ≤ 1099511627776
  idl : 0 ≤ x.idl ∧ x.idl ≤ 1099511627776
  se : 0 ≤ x.se ∧ x.se ≤ 1099511627776
  mf : 0 ≤ x.mf ∧ x.mf ≤ 65535
  st : 0 ≤ x.st ∧ x.st ≤ 5
  fa : 0 ≤ x.fa ∧ x.fa ≤ 2147483647
  now : 0 ≤ x.now ∧ x.now ≤ 1099511627776
  ran : 0 ≤ x.ran ∧ x.ran ≤ x.now
  us : 0 ≤ x.us ∧ x.us ≤ x.now
  en : 0 ≤ x.en ∧ x.en ≤ x.now
def poAt (x : PoS) (t : Int) : PoS := { x with now := t }
def poDial (x : PoS) : PoS := { x with wa := true, st := 2 }
def poHang (x : PoS) (y : ByteArray) : PoS := { x with wa := false, st := 4, wy := y }
def poRel (x : PoS) : PoS := if x.wa then poDial x else { x with st := 0 }
def poRelL (x : PoS) : List Int := if x.wa then [1] else []
/-- what is due: 1 the session, 2 idle, 3 the hold-off, 0 nothing -/
def poDue (x : PoS) : Nat :=
  if x.st = 3 then (if x.se ≠ 0 ∧ x.ran + x.se ≤ x.now then 1 else if x.idl ≠ 0 ∧ x.us + x.idl ≤ x.now then 2 else 0)
  else if x.st = 1 ∧ x.en + x.ho ≤ x.now then 3 else 0
def poSet (x : PoS) : PoS := if poDue x = 1 then poHang x wySession else if poDue x = 2 then poHang x wyIdle else if poDue x = 3 then poRel x else x
def poSetL (x : PoS) : List Int := if poDue x = 1 then [2] else if poDue x = 2 then [2] else if poDue x = 3 then poRelL x else []
def poHeld (x : PoS) : PoS := { x with st := 1, en := x.now }
def poFail (x : PoS) : PoS := { x with fa := if x.fa + 1 < 2147483647 then x.fa + 1 else 2147483647, wy := wyFailed }
def poOver (x : PoS) : PoS := { x with wa := false, st := 5, en := x.now }
def poGive (x : PoS) : Bool := decide (x.mf ≠ 0 ∧ x.mf ≤ (poFail x).fa)
def poMiss (x : PoS) : PoS := if poGive x then poOver (poFail x) else poSet (poHeld (poFail x))
def poMissL (x : PoS) : List Int := if poGive x then [] else poSetL (poHeld (poFail x))
def poLose0 (x : PoS) : PoS := { x with wa := x.per, wy := wyLost }
def poLose (x : PoS) : PoS := poSet (poHeld (poLose0 x))
def poLoseL (x : PoS) : List Int := poSetL (poHeld (poLose0 x))
def isDown (y : ByteArray) : Bool := y.toList == [100, 111, 119, 110]
def poEnd0 (x : PoS) : PoS := { x with wa := x.wa || (x.per && !isDown x.wy) }
def poEnd (x : PoS) : PoS := poSet (poHeld (poEnd0 x))
def poEndL (x : PoS) : List Int := poSetL (poHeld (poEnd0 x))
def poUrge (x : PoS) : PoS := { x with wa := true, fa := 0 }
def poWant (x : PoS) : PoS := { x with wa := true }
def poDrop (x : PoS) : PoS := { x with wa := false }
def poRev0 (x : PoS) : PoS := { x with wa := true, fa := 0, st := 1 }
def poRun (x : PoS) : PoS := { x with fa := 0, wy := wyNone, st := 3, ran := x.now, us := x.now }
def poUse (x : PoS) : PoS := { x with us := x.now }

/-- what a call does behind what is due: 0 Start, 1 Packet that matches, 2 Up, 3 Down, 4 LinkUp, 5 LinkDown; any other one nothing -/
def poDo (k : Int) (x : PoS) : PoS :=
  if k = 0 then (if x.st = 0 ∧ x.dem = false then poDial x else x)
  else if k = 1 then (if x.st = 0 ∧ x.dem = true then poDial x else if (x.st = 1 ∨ x.st = 4) ∧ x.dem = true then poWant x else if x.st = 3 then poUse x else x)
  else if k = 2 then (if x.st = 0 then poDial (poUrge x) else if x.st = 1 ∨ x.st = 4 then poUrge x else if x.st = 5 then poSet (poRev0 x) else x)
  else if k = 3 then (if x.st = 2 ∨ x.st = 3 then poHang x wyDown else poDrop x)
  else if k = 4 then (if x.st = 2 then poRun x else x)
  else if k = 5 then (if x.st = 2 then poMiss x else if x.st = 3 then poLose x else if x.st = 4 then poEnd x else x)
  else x
def poDoL (k : Int) (x : PoS) : List Int :=
  if k = 0 then (if x.st = 0 ∧ x.dem = false then [1] else [])
  else if k = 1 then (if x.st = 0 ∧ x.dem = true then [1] else [])
  else if k = 2 then (if x.st = 0 then [1] else if x.st = 5 then poSetL (poRev0 x) else [])
  else if k = 3 then (if x.st = 2 ∨ x.st = 3 then [2] else [])
  else if k = 4 then []
  else if k = 5 then (if x.st = 2 then poMissL x else if x.st = 3 then poLoseL x else if x.st = 4 then poEndL x else [])
  else []
/-- a call at a time that may be -/
def poStep (k t : Int) (x : PoS) : PoS := poDo k (poSet (poAt x t))
def poStepL (k t : Int) (x : PoS) : List Int := poSetL (poAt x t) ++ poDoL k (poSet (poAt x t))
def poBad (t : Int) (x : PoS) : Bool := decide (t < x.now ∨ 1099511627776 < t)
/-- when something is due -/
def poAny (x : PoS) : Bool := decide ((x.st = 3 ∧ (x.se ≠ 0 ∨ x.idl ≠ 0)) ∨ x.st = 1)
def least (a b : Int) : Int := if b < a then b else a
def poNext (x : PoS) : Int :=
  if x.st = 3 then least (if x.se ≠ 0 then least 1099511627776 (x.ran + x.se) else 1099511627776) (if x.idl ≠ 0 then x.us + x.idl else 1099511627776)
  else least 1099511627776 (x.en + x.ho)

theorem poHang_ok {x : PoS} (h : PoOk x) (y : ByteArray) : PoOk (poHang x y) := ⟨h.ho, h.idl, h.se, h.mf, by simp [poHang], h.fa, h.now, h.ran, h.us, h.en⟩
theorem poDial_ok {x : PoS} (h : PoOk x) : PoOk (poDial x) := ⟨h.ho, h.idl, h.se, h.mf, by simp [poDial], h.fa, h.now, h.ran, h.us, h.en⟩
theorem poRel_ok {x : PoS} (h : PoOk x) : PoOk (poRel x) := by
  unfold poRel
  split
  · exact poDial_ok h
  · exact ⟨h.ho, h.idl, h.se, h.mf, by simp, h.fa, h.now, h.ran, h.us, h.en⟩
theorem poSet_ok {x : PoS} (h : PoOk x) : PoOk (poSet x) := by
  unfold poSet
  split
  · exact poHang_ok h _
  · split
    · exact poHang_ok h _
    · split
      · exact poRel_ok h
      · exact h
theorem poHeld_ok {x : PoS} (h : PoOk x) : PoOk (poHeld x) := ⟨h.ho, h.idl, h.se, h.mf, by simp [poHeld], h.fa, h.now, h.ran, h.us, ⟨h.now.1, Int.le_refl _⟩⟩
theorem poFail_ok {x : PoS} (h : PoOk x) : PoOk (poFail x) := ⟨h.ho, h.idl, h.se, h.mf, h.st, by have := h.fa; simp only [poFail]; split <;> omega, h.now, h.ran, h.us, h.en⟩
theorem poOver_ok {x : PoS} (h : PoOk x) : PoOk (poOver x) := ⟨h.ho, h.idl, h.se, h.mf, by simp [poOver], h.fa, h.now, h.ran, h.us, ⟨h.now.1, Int.le_refl _⟩⟩
theorem poMiss_ok {x : PoS} (h : PoOk x) : PoOk (poMiss x) := by
  unfold poMiss
  split
  · exact poOver_ok (poFail_ok h)
  · exact poSet_ok (poHeld_ok (poFail_ok h))
theorem poLose0_ok {x : PoS} (h : PoOk x) : PoOk (poLose0 x) := ⟨h.ho, h.idl, h.se, h.mf, h.st, h.fa, h.now, h.ran, h.us, h.en⟩
theorem poEnd0_ok {x : PoS} (h : PoOk x) : PoOk (poEnd0 x) := ⟨h.ho, h.idl, h.se, h.mf, h.st, h.fa, h.now, h.ran, h.us, h.en⟩
theorem poLose_ok {x : PoS} (h : PoOk x) : PoOk (poLose x) := poSet_ok (poHeld_ok (poLose0_ok h))
theorem poEnd_ok {x : PoS} (h : PoOk x) : PoOk (poEnd x) := poSet_ok (poHeld_ok (poEnd0_ok h))
theorem poUrge_ok {x : PoS} (h : PoOk x) : PoOk (poUrge x) := ⟨h.ho, h.idl, h.se, h.mf, h.st, by simp [poUrge], h.now, h.ran, h.us, h.en⟩
theorem poWant_ok {x : PoS} (h : PoOk x) : PoOk (poWant x) := ⟨h.ho, h.idl, h.se, h.mf, h.st, h.fa, h.now, h.ran, h.us, h.en⟩
theorem poDrop_ok {x : PoS} (h : PoOk x) : PoOk (poDrop x) := ⟨h.ho, h.idl, h.se, h.mf, h.st, h.fa, h.now, h.ran, h.us, h.en⟩
theorem poRev0_ok {x : PoS} (h : PoOk x) : PoOk (poRev0 x) := ⟨h.ho, h.idl, h.se, h.mf, by simp [poRev0], by simp [poRev0], h.now, h.ran, h.us, h.en⟩
theorem poRun_ok {x : PoS} (h : PoOk x) : PoOk (poRun x) := ⟨h.ho, h.idl, h.se, h.mf, by simp [poRun], by simp [poRun], h.now, ⟨h.now.1, Int.le_refl _⟩, ⟨h.now.1, Int.le_refl _⟩, h.en⟩
theorem poUse_ok {x : PoS} (h : PoOk x) : PoOk (poUse x) := ⟨h.ho, h.idl, h.se, h.mf, h.st, h.fa, h.now, h.ran, ⟨h.now.1, Int.le_refl _⟩, h.en⟩
theorem poAt_ok {x : PoS} {t : Int} (h : PoOk x) (h1 : x.now ≤ t) (h2 : t ≤ 1099511627776) : PoOk (poAt x t) := by
  obtain ⟨a1, a2, a3, a4, a5, a6, a7, a8, a9, a10⟩ := h
  exact ⟨a1, a2, a3, a4, a5, a6, ⟨by simp only [poAt]; omega, h2⟩, ⟨a8.1, by simp only [poAt]; omega⟩, ⟨a9.1, by simp only [poAt]; omega⟩, ⟨a10.1, by simp only [poAt]; omega⟩⟩
theorem poDo_ok {x : PoS} (h : PoOk x) (k : Int) : PoOk (poDo k x) := by
  unfold poDo
  repeat' split
  all_goals first | exact h | exact poDial_ok h | exact poWant_ok h | exact poUse_ok h | exact poDial_ok (poUrge_ok h) | exact poUrge_ok h | exact poSet_ok (poRev0_ok h) | exact poHang_ok h _ | exact poDrop_ok h | exact poRun_ok h | exact poMiss_ok h | exact poLose_ok h | exact poEnd_ok h
theorem poStep_ok {x : PoS} {k t : Int} (h : PoOk x) (hb : poBad t x = false) : PoOk (poStep k t x) := by
  unfold poBad at hb
  simp only [decide_eq_false_iff_not] at hb
  exact poDo_ok (poSet_ok (poAt_ok h (by omega) (by omega))) k
theorem poSetL_len (x : PoS) : (poSetL x).length ≤ 1 := by
  unfold poSetL poRelL
  repeat' split
  all_goals simp
theorem poDoL_len (k : Int) (x : PoS) : (poDoL k x).length ≤ 1 := by
  unfold poDoL poMissL poLoseL poEndL
  repeat' split
  all_goals first | exact poSetL_len _ | simp
/-- what the calls leave alone -/
def PoT (x y : PoS) : Prop := y.dem = x.dem ∧ y.per = x.per ∧ y.ho = x.ho ∧ y.idl = x.idl ∧ y.se = x.se ∧ y.mf = x.mf
end Go.Proofs.Ytdjifjlkpimiaaa
