/-
  The calls of a policy: Start, Packet, Up, Down, LinkUp, LinkDown, Tick; State, Failures, Why; of one that is not there too; New.
-/
import Derived.Test.YtdjifjlkpimiaaaPoDoes
namespace Go.Proofs.Ytdjifjlkpimiaaa
open Go.RowKit
set_option maxRecDepth 100000
set_option maxHeartbeats 4000000
set_option linter.unusedSimpArgs false
set_option linter.unusedVariables false

theorem castR {f g : Nat} {args : Array Value} {W : World} {y y' : PoS} {l l' : List Int} (h : Calls Try.prog f args W (PoR W g y l)) (e1 : y' = y) (e2 : l' = l) : Calls Try.prog f args W (PoR W g y' l') := by
  rw [e1, e2]
  exact h
theorem pickS (k : Nat) (g : Nat) (x : PoS) (ho : PoOk x) (f : Nat) (hf : pick k x = some f) (hk : k ≤ 5) :
    (∀ W, (callFunc f #[.pointer (some ⟨g, 0, none⟩)]).run Try.prog W = .ok (.enter f #[.pointer (some ⟨g, 0, none⟩)]) W) ∧ ∀ W, PoB W g x → Calls Try.prog f #[.pointer (some ⟨g, 0, none⟩)] W (PoR W g (poDo k x) (poDoL k x)) := by
  obtain ⟨b0, b5⟩ := ho.st
  have hs : x.st = 0 ∨ x.st = 1 ∨ x.st = 2 ∨ x.st = 3 ∨ x.st = 4 ∨ x.st = 5 := by omega
  have hkk : k = 0 ∨ k = 1 ∨ k = 2 ∨ k = 3 ∨ k = 4 ∨ k = 5 := by omega
  unfold pick at hf
  rcases hs with h | h | h | h | h | h <;> rw [h] at hf <;> rcases hkk with rfl | rfl | rfl | rfl | rfl | rfl <;> cases hd : x.dem <;> rw [hd] at hf <;> simp at hf <;> (try subst hf)
  all_goals refine ⟨fun W => by kernel_rfl, fun W hx => ?_⟩
  all_goals first
    | exact castR (poDial_any g x W hx) (by simp [poDo, h, hd]) (by simp [poDoL, h, hd])
    | exact castR (poRedial_any g x W hx) (by simp [poDo, h, hd]) (by simp [poDoL, h, hd])
    | exact castR (poDrop_any g x W hx) (by simp [poDo, h, hd]) (by simp [poDoL, h, hd])
    | exact castR (poAwait_any g x W hx) (by simp [poDo, h, hd]) (by simp [poDoL, h, hd])
    | exact castR (poRetry_any g x W hx) (by simp [poDo, h, hd]) (by simp [poDoL, h, hd])
    | exact castR (poHd_any g x W hx) (by simp [poDo, h, hd]) (by simp [poDoL, h, hd])
    | exact castR (poRun_any g x W hx) (by simp [poDo, h, hd]) (by simp [poDoL, h, hd])
    | exact castR (poMissed_any g x W hx ho) (by simp [poDo, h, hd]) (by simp [poDoL, h, hd])
    | exact castR (poUse_any g x W hx) (by simp [poDo, h, hd]) (by simp [poDoL, h, hd])
    | exact castR (poLose_any g x W hx ho) (by simp [poDo, h, hd]) (by simp [poDoL, h, hd])
    | exact castR (poEndD_any g x W hx ho) (by simp [poDo, h, hd]) (by simp [poDoL, h, hd])
    | exact castR (poRevive_any g x W hx ho) (by simp [poDo, h, hd]) (by simp [poDoL, h, hd])
theorem pickN (k : Nat) (x : PoS) (ho : PoOk x) (hf : pick k x = none) (hk : k ≤ 5) : poDo k x = x ∧ poDoL k x = [] := by
  obtain ⟨b0, b5⟩ := ho.st
  have hs : x.st = 0 ∨ x.st = 1 ∨ x.st = 2 ∨ x.st = 3 ∨ x.st = 4 ∨ x.st = 5 := by omega
  have hkk : k = 0 ∨ k = 1 ∨ k = 2 ∨ k = 3 ∨ k = 4 ∨ k = 5 := by omega
  unfold pick at hf
  rcases hs with h | h | h | h | h | h <;> rw [h] at hf <;> rcases hkk with rfl | rfl | rfl | rfl | rfl | rfl <;> cases hd : x.dem <;> rw [hd] at hf <;> simp at hf
  all_goals simp [poDo, poDoL, h, hd]
theorem cl_Start (g : Nat) (x : PoS) (w : World) : Calls Try.prog 43 #[deedsV g x] w fun e w' => e = .returned (fvO g (pick 0 x)) ∧ Below w.heap.size w w' := by
  unfold deedsV
  generalize fvO g (pick 0 x) = a0
  generalize fvO g (pick 1 x) = a1
  generalize fvO g (pick 2 x) = a2
  generalize fvO g (pick 3 x) = a3
  generalize fvO g (pick 4 x) = a4
  generalize fvO g (pick 5 x) = a5
  go_enter Try.func43, Try.ntmps43
  go_wp2
  go_ret
  exact ⟨rfl, (Below.refl _ _).alloc (Nat.le_refl _) _⟩
theorem poMStart_any (g : Nat) (x : PoS) (t : Int) (w : World) (hx : PoB w g x) (ho : PoOk x) (hb : poBad t x = false) :
    Calls Try.prog 26 #[.pointer (some ⟨g, 0, none⟩), .int .i64 t] w (PoC w g (poStep 0 t x) (poStepL 0 t x)) := by
  have hok : PoOk (poSet (poAt x t)) := poSet_ok (poAt_ok ho (by have := of_decide_eq_false hb; omega) (by have := of_decide_eq_false hb; omega))
  have HD := Lib.hid (does_0 g 43 x (poStep 0 t x) (pick 0 (poSet (poAt x t))) (poDoL 0 (poSet (poAt x t))) t w hx ho hb (fun D W => by kernel_rfl) (fun W _ => cl_Start g _ W)
    (fun h => pickN 0 _ hok h (by omega)) (fun f h => pickS 0 g _ hok f h (by omega)) (poDoL_len _ _))
  clear hok hx ho hb
  go_enter Try.func26, Try.ntmps26
  go_wp2_with (go_at_call 38; ((with_reducible refine HD.out.mono ?_); rintro e w1 ⟨v, rfl, h1⟩; have H1 := Lib.hid h1; clear h1))
  go_ret2
  exact ⟨v, rfl, H1.out⟩
theorem cl_Up (g : Nat) (x : PoS) (w : World) : Calls Try.prog 44 #[deedsV g x] w fun e w' => e = .returned (fvO g (pick 2 x)) ∧ Below w.heap.size w w' := by
  unfold deedsV
  generalize fvO g (pick 0 x) = a0
  generalize fvO g (pick 1 x) = a1
  generalize fvO g (pick 2 x) = a2
  generalize fvO g (pick 3 x) = a3
  generalize fvO g (pick 4 x) = a4
  generalize fvO g (pick 5 x) = a5
  go_enter Try.func44, Try.ntmps44
  go_wp2
  go_ret
  exact ⟨rfl, (Below.refl _ _).alloc (Nat.le_refl _) _⟩
theorem poMUp_any (g : Nat) (x : PoS) (t : Int) (w : World) (hx : PoB w g x) (ho : PoOk x) (hb : poBad t x = false) :
    Calls Try.prog 27 #[.pointer (some ⟨g, 0, none⟩), .int .i64 t] w (PoC w g (poStep 2 t x) (poStepL 2 t x)) := by
  have hok : PoOk (poSet (poAt x t)) := poSet_ok (poAt_ok ho (by have := of_decide_eq_false hb; omega) (by have := of_decide_eq_false hb; omega))
  have HD := Lib.hid (does_0 g 44 x (poStep 2 t x) (pick 2 (poSet (poAt x t))) (poDoL 2 (poSet (poAt x t))) t w hx ho hb (fun D W => by kernel_rfl) (fun W _ => cl_Up g _ W)
    (fun h => pickN 2 _ hok h (by omega)) (fun f h => pickS 2 g _ hok f h (by omega)) (poDoL_len _ _))
  clear hok hx ho hb
  go_enter Try.func27, Try.ntmps27
  go_wp2_with (go_at_call 38; ((with_reducible refine HD.out.mono ?_); rintro e w1 ⟨v, rfl, h1⟩; have H1 := Lib.hid h1; clear h1))
  go_ret2
  exact ⟨v, rfl, H1.out⟩
theorem cl_Down (g : Nat) (x : PoS) (w : World) : Calls Try.prog 45 #[deedsV g x] w fun e w' => e = .returned (fvO g (pick 3 x)) ∧ Below w.heap.size w w' := by
  unfold deedsV
  generalize fvO g (pick 0 x) = a0
  generalize fvO g (pick 1 x) = a1
  generalize fvO g (pick 2 x) = a2
  generalize fvO g (pick 3 x) = a3
  generalize fvO g (pick 4 x) = a4
  generalize fvO g (pick 5 x) = a5
  go_enter Try.func45, Try.ntmps45
  go_wp2
  go_ret
  exact ⟨rfl, (Below.refl _ _).alloc (Nat.le_refl _) _⟩
theorem poMDown_any (g : Nat) (x : PoS) (t : Int) (w : World) (hx : PoB w g x) (ho : PoOk x) (hb : poBad t x = false) :
    Calls Try.prog 28 #[.pointer (some ⟨g, 0, none⟩), .int .i64 t] w (PoC w g (poStep 3 t x) (poStepL 3 t x)) := by
  have hok : PoOk (poSet (poAt x t)) := poSet_ok (poAt_ok ho (by have := of_decide_eq_false hb; omega) (by have := of_decide_eq_false hb; omega))
  have HD := Lib.hid (does_0 g 45 x (poStep 3 t x) (pick 3 (poSet (poAt x t))) (poDoL 3 (poSet (poAt x t))) t w hx ho hb (fun D W => by kernel_rfl) (fun W _ => cl_Down g _ W)
    (fun h => pickN 3 _ hok h (by omega)) (fun f h => pickS 3 g _ hok f h (by omega)) (poDoL_len _ _))
  clear hok hx ho hb
  go_enter Try.func28, Try.ntmps28
  go_wp2_with (go_at_call 38; ((with_reducible refine HD.out.mono ?_); rintro e w1 ⟨v, rfl, h1⟩; have H1 := Lib.hid h1; clear h1))
  go_ret2
  exact ⟨v, rfl, H1.out⟩
theorem cl_LinkUp (g : Nat) (x : PoS) (w : World) : Calls Try.prog 41 #[deedsV g x] w fun e w' => e = .returned (fvO g (pick 4 x)) ∧ Below w.heap.size w w' := by
  unfold deedsV
  generalize fvO g (pick 0 x) = a0
  generalize fvO g (pick 1 x) = a1
  generalize fvO g (pick 2 x) = a2
  generalize fvO g (pick 3 x) = a3
  generalize fvO g (pick 4 x) = a4
  generalize fvO g (pick 5 x) = a5
  go_enter Try.func41, Try.ntmps41
  go_wp2
  go_ret
  exact ⟨rfl, (Below.refl _ _).alloc (Nat.le_refl _) _⟩
theorem poMLinkUp_any (g : Nat) (x : PoS) (t : Int) (w : World) (hx : PoB w g x) (ho : PoOk x) (hb : poBad t x = false) :
    Calls Try.prog 24 #[.pointer (some ⟨g, 0, none⟩), .int .i64 t] w (PoC w g (poStep 4 t x) (poStepL 4 t x)) := by
  have hok : PoOk (poSet (poAt x t)) := poSet_ok (poAt_ok ho (by have := of_decide_eq_false hb; omega) (by have := of_decide_eq_false hb; omega))
  have HD := Lib.hid (does_0 g 41 x (poStep 4 t x) (pick 4 (poSet (poAt x t))) (poDoL 4 (poSet (poAt x t))) t w hx ho hb (fun D W => by kernel_rfl) (fun W _ => cl_LinkUp g _ W)
    (fun h => pickN 4 _ hok h (by omega)) (fun f h => pickS 4 g _ hok f h (by omega)) (poDoL_len _ _))
  clear hok hx ho hb
  go_enter Try.func24, Try.ntmps24
  go_wp2_with (go_at_call 38; ((with_reducible refine HD.out.mono ?_); rintro e w1 ⟨v, rfl, h1⟩; have H1 := Lib.hid h1; clear h1))
  go_ret2
  exact ⟨v, rfl, H1.out⟩
theorem cl_LinkDown (g : Nat) (x : PoS) (w : World) : Calls Try.prog 42 #[deedsV g x] w fun e w' => e = .returned (fvO g (pick 5 x)) ∧ Below w.heap.size w w' := by
  unfold deedsV
  generalize fvO g (pick 0 x) = a0
  generalize fvO g (pick 1 x) = a1
  generalize fvO g (pick 2 x) = a2
  generalize fvO g (pick 3 x) = a3
  generalize fvO g (pick 4 x) = a4
  generalize fvO g (pick 5 x) = a5
  go_enter Try.func42, Try.ntmps42
  go_wp2
  go_ret
  exact ⟨rfl, (Below.refl _ _).alloc (Nat.le_refl _) _⟩
theorem poMLinkDown_any (g : Nat) (x : PoS) (t : Int) (w : World) (hx : PoB w g x) (ho : PoOk x) (hb : poBad t x = false) :
    Calls Try.prog 25 #[.pointer (some ⟨g, 0, none⟩), .int .i64 t] w (PoC w g (poStep 5 t x) (poStepL 5 t x)) := by
  have hok : PoOk (poSet (poAt x t)) := poSet_ok (poAt_ok ho (by have := of_decide_eq_false hb; omega) (by have := of_decide_eq_false hb; omega))
  have HD := Lib.hid (does_0 g 42 x (poStep 5 t x) (pick 5 (poSet (poAt x t))) (poDoL 5 (poSet (poAt x t))) t w hx ho hb (fun D W => by kernel_rfl) (fun W _ => cl_LinkDown g _ W)
    (fun h => pickN 5 _ hok h (by omega)) (fun f h => pickS 5 g _ hok f h (by omega)) (poDoL_len _ _))
  clear hok hx ho hb
  go_enter Try.func25, Try.ntmps25
  go_wp2_with (go_at_call 38; ((with_reducible refine HD.out.mono ?_); rintro e w1 ⟨v, rfl, h1⟩; have H1 := Lib.hid h1; clear h1))
  go_ret2
  exact ⟨v, rfl, H1.out⟩
theorem PoC.from {w W w' : World} {g : Nat} {y : PoS} {l : List Int} {e : Ending} (h : PoC W g y l e w') (hg : w.grownBy W (some g)) : PoC w g y l e w' := by
  obtain ⟨v, he, ho, hy, hk⟩ := h
  exact ⟨v, he, ho.wide hg.size, hy, gtrans' hg hk⟩
theorem cl_Packet (g b : Nat) (m : Bool) (x : PoS) (w : World) (hc : w.cell? ⟨b, 0, none⟩ = some (.bool m)) (hb : b < w.heap.size) : Calls Try.prog 40 #[deedsV g x, .pointer (some ⟨b, 0, none⟩)] w fun e w' => e = .returned (fvO g (if m then pick 1 x else none)) ∧ Below w.heap.size w w' := by
  unfold deedsV
  cases m
  · show Calls _ _ _ _ fun e w' => e = .returned Value.nilFunc ∧ Below w.heap.size w w'
    generalize fvO g (pick 0 x) = a0
    generalize fvO g (pick 1 x) = a1
    generalize fvO g (pick 2 x) = a2
    generalize fvO g (pick 3 x) = a3
    generalize fvO g (pick 4 x) = a4
    generalize fvO g (pick 5 x) = a5
    go_enter Try.func40, Try.ntmps40
    go_wp2
    go_ret
    exact ⟨rfl, (Below.refl _ _).alloc (Nat.le_refl _) _⟩
  · show Calls _ _ _ _ fun e w' => e = .returned (fvO g (pick 1 x)) ∧ Below w.heap.size w w'
    generalize fvO g (pick 0 x) = a0
    generalize fvO g (pick 1 x) = a1
    generalize fvO g (pick 2 x) = a2
    generalize fvO g (pick 3 x) = a3
    generalize fvO g (pick 4 x) = a4
    generalize fvO g (pick 5 x) = a5
    go_enter Try.func40, Try.ntmps40
    go_wp2
    go_ret
    exact ⟨rfl, (Below.refl _ _).alloc (Nat.le_refl _) _⟩
/-- a packet's kind: 9 is a call that does nothing -/
def pkK (m : Bool) : Int := if m then 1 else 9
theorem poMPacket_any (g : Nat) (x : PoS) (t : Int) (m : Bool) (w : World) (hx : PoB w g x) (ho : PoOk x) (hb : poBad t x = false) :
    Calls Try.prog 23 #[.pointer (some ⟨g, 0, none⟩), .int .i64 t, .bool m] w (PoC w g (poStep (pkK m) t x) (poStepL (pkK m) t x)) := by
  have hok : PoOk (poSet (poAt x t)) := poSet_ok (poAt_ok ho (by have := of_decide_eq_false hb; omega) (by have := of_decide_eq_false hb; omega))
  have hal : w.grownBy (w.alloc (.cells #[.bool m] 4)) (some g) := galloc' (World.grownBy.refl _ _) _
  have hcell : (w.alloc (.cells #[.bool m] 4)).cell? ⟨w.heap.size, 0, none⟩ = some (.bool m) := (blk_new w 4 [.bool m]).cell 0
  have HD : Hid (Calls Try.prog 38 #[.pointer (some ⟨g, 0, none⟩), .int .i64 t, .func (.func 40) #[] #[.pointer (some ⟨w.heap.size, 0, none⟩)]] (w.alloc (.cells #[.bool m] 4)) (PoC w g (poStep (pkK m) t x) (poStepL (pkK m) t x))) := by
    refine (does_1 g 40 w.heap.size x (poStep (pkK m) t x) (if m then pick 1 (poSet (poAt x t)) else none) (poDoL (pkK m) (poSet (poAt x t))) t _ (hx.alloc _) ho hb (fun D W => by kernel_rfl)
      (fun W hW => cl_Packet g w.heap.size m _ W ?_ ?_) ?_ ?_ (poDoL_len _ _)).mono fun e w' h => h.from hal
    · exact (World.cell?_of_block (hW.block w.heap.size (by simp) (fun e => by have := hx.lt; injection e with e; omega))).trans hcell
    · have := hW.size
      simp at this
      omega
    · intro h
      cases m
      · exact ⟨rfl, rfl⟩
      · exact pickN 1 _ hok h (by omega)
    · intro f h
      cases m
      · simp at h
      · exact pickS 1 g _ hok f h (by omega)
  clear hok hx ho hb hal hcell
  go_enter Try.func23, Try.ntmps23
  go_wp2_with (go_at_call 38; ((with_reducible refine HD.out.mono ?_); rintro e w1 ⟨v, rfl, h1⟩; have H1 := Lib.hid h1; clear h1))
  go_ret2
  exact ⟨v, rfl, H1.out⟩
theorem cl_Tick (V : Value) (g : Nat) (w : World) (h : ∃ a0 a1 a2 a3 a4 a5, V = .agg #[a0, a1, a2, a3, a4, a5]) : Calls Try.prog 39 #[V] w fun e w' => e = .returned (fvO g none) ∧ Below w.heap.size w w' := by
  obtain ⟨a0, a1, a2, a3, a4, a5, rfl⟩ := h
  show Calls _ _ _ _ fun e w' => e = .returned Value.nilFunc ∧ Below w.heap.size w w'
  go_enter Try.func39, Try.ntmps39
  go_wp2
  go_ret
  first | exact ⟨rfl, Below.refl _ _⟩ | exact ⟨rfl, (Below.refl _ _).alloc (Nat.le_refl _) _⟩
theorem poMTick_any (g : Nat) (x : PoS) (t : Int) (w : World) (hx : PoB w g x) (ho : PoOk x) (hb : poBad t x = false) :
    Calls Try.prog 19 #[.pointer (some ⟨g, 0, none⟩), .int .i64 t] w (PoC w g (poStep 9 t x) (poStepL 9 t x)) := by
  have HD := Lib.hid (does_0 g 39 x (poStep 9 t x) none (poDoL 9 (poSet (poAt x t))) t w hx ho hb (fun D W => by kernel_rfl) (fun W _ => cl_Tick _ g W ⟨_, _, _, _, _, _, rfl⟩)
    (fun _ => ⟨rfl, rfl⟩) (fun f h => by cases h) (poDoL_len _ _))
  clear hx ho hb
  go_enter Try.func19, Try.ntmps19
  go_wp2_with (go_at_call 38; ((with_reducible refine HD.out.mono ?_); rintro e w1 ⟨v, rfl, h1⟩; have H1 := Lib.hid h1; clear h1))
  go_ret2
  exact ⟨v, rfl, H1.out⟩
theorem poMState_any (g : Nat) (x : PoS) (w : World) (hx : PoB w g x) : Calls Try.prog 16 #[.pointer (some ⟨g, 0, none⟩)] w fun e w' => e = .returned (.int .i64 x.st) ∧ w = w' := by
  have c0 : w.cell? ⟨g, 9, none⟩ = some (.int .i64 x.st) := hx.cell 9
  clear hx
  go_enter Try.func16, Try.ntmps16
  go_wp2
  go_ret
  exact ⟨rfl, rfl⟩
theorem poMState_nil (w : World) : Calls Try.prog 16 #[.pointer none] w fun e w' => e = .returned (.int .i64 0) ∧ w = w' := by
  go_enter Try.func16, Try.ntmps16
  go_wp2
  go_ret
  exact ⟨rfl, rfl⟩
theorem poMFailures_any (g : Nat) (x : PoS) (w : World) (hx : PoB w g x) : Calls Try.prog 20 #[.pointer (some ⟨g, 0, none⟩)] w fun e w' => e = .returned (.int .i64 x.fa) ∧ w = w' := by
  have c0 : w.cell? ⟨g, 1, none⟩ = some (.int .i64 x.fa) := hx.cell 1
  clear hx
  go_enter Try.func20, Try.ntmps20
  go_wp2
  go_ret
  exact ⟨rfl, rfl⟩
theorem poMFailures_nil (w : World) : Calls Try.prog 20 #[.pointer none] w fun e w' => e = .returned (.int .i64 0) ∧ w = w' := by
  go_enter Try.func20, Try.ntmps20
  go_wp2
  go_ret
  exact ⟨rfl, rfl⟩
theorem poMWhy_any (g : Nat) (x : PoS) (w : World) (hx : PoB w g x) : Calls Try.prog 21 #[.pointer (some ⟨g, 0, none⟩)] w fun e w' => e = .returned (.string x.wy) ∧ w = w' := by
  have c0 : w.cell? ⟨g, 2, none⟩ = some (.string x.wy) := hx.cell 2
  clear hx
  go_enter Try.func21, Try.ntmps21
  go_wp2
  go_ret
  exact ⟨rfl, rfl⟩
theorem poMWhy_nil (w : World) : Calls Try.prog 21 #[.pointer none] w fun e w' => e = .returned (.string wyNone) ∧ w = w' := by
  go_enter Try.func21, Try.ntmps21
  go_wp2
  go_ret
  exact ⟨rfl, rfl⟩
theorem does_nil (t : Int) (cl : Value) (w : World) :
    Calls Try.prog 38 #[.pointer none, .int .i64 t, cl] w fun e w' => e = .returned (.tuple #[.slice none 0 0, .int .i64 2]) ∧ w = w' := by
  go_enter Try.func38, Try.ntmps38
  go_wp2
  go_ret2
  exact ⟨rfl, rfl⟩
theorem poMStart_nil (t : Int) (w : World) : Calls Try.prog 26 #[.pointer none, .int .i64 t] w fun e w' => e = .returned (.tuple #[.slice none 0 0, .int .i64 2]) ∧ w = w' := by
  go_enter Try.func26, Try.ntmps26
  go_wp2_with (go_at_call 38; refine (does_nil _ _ _).mono ?_; rintro e w1 ⟨rfl, rfl⟩)
  go_ret2
  exact ⟨rfl, rfl⟩
theorem poMStart_bad (g : Nat) (x : PoS) (t : Int) (w : World) (hx : PoB w g x) (hb : poBad t x = true) : Calls Try.prog 26 #[.pointer (some ⟨g, 0, none⟩), .int .i64 t] w fun e w' => e = .returned (.tuple #[.slice none 0 0, .int .i64 1]) ∧ w = w' := by
  have HB := Lib.hid (fun cl => does_bad g x t cl w hx hb)
  clear hx hb
  go_enter Try.func26, Try.ntmps26
  go_wp2_with (go_at_call 38; refine (HB.out _).mono ?_; rintro e w1 ⟨rfl, rfl⟩)
  go_ret2
  exact ⟨rfl, rfl⟩
theorem poMUp_nil (t : Int) (w : World) : Calls Try.prog 27 #[.pointer none, .int .i64 t] w fun e w' => e = .returned (.tuple #[.slice none 0 0, .int .i64 2]) ∧ w = w' := by
  go_enter Try.func27, Try.ntmps27
  go_wp2_with (go_at_call 38; refine (does_nil _ _ _).mono ?_; rintro e w1 ⟨rfl, rfl⟩)
  go_ret2
  exact ⟨rfl, rfl⟩
theorem poMUp_bad (g : Nat) (x : PoS) (t : Int) (w : World) (hx : PoB w g x) (hb : poBad t x = true) : Calls Try.prog 27 #[.pointer (some ⟨g, 0, none⟩), .int .i64 t] w fun e w' => e = .returned (.tuple #[.slice none 0 0, .int .i64 1]) ∧ w = w' := by
  have HB := Lib.hid (fun cl => does_bad g x t cl w hx hb)
  clear hx hb
  go_enter Try.func27, Try.ntmps27
  go_wp2_with (go_at_call 38; refine (HB.out _).mono ?_; rintro e w1 ⟨rfl, rfl⟩)
  go_ret2
  exact ⟨rfl, rfl⟩
theorem poMDown_nil (t : Int) (w : World) : Calls Try.prog 28 #[.pointer none, .int .i64 t] w fun e w' => e = .returned (.tuple #[.slice none 0 0, .int .i64 2]) ∧ w = w' := by
  go_enter Try.func28, Try.ntmps28
  go_wp2_with (go_at_call 38; refine (does_nil _ _ _).mono ?_; rintro e w1 ⟨rfl, rfl⟩)
  go_ret2
  exact ⟨rfl, rfl⟩
theorem poMDown_bad (g : Nat) (x : PoS) (t : Int) (w : World) (hx : PoB w g x) (hb : poBad t x = true) : Calls Try.prog 28 #[.pointer (some ⟨g, 0, none⟩), .int .i64 t] w fun e w' => e = .returned (.tuple #[.slice none 0 0, .int .i64 1]) ∧ w = w' := by
  have HB := Lib.hid (fun cl => does_bad g x t cl w hx hb)
  clear hx hb
  go_enter Try.func28, Try.ntmps28
  go_wp2_with (go_at_call 38; refine (HB.out _).mono ?_; rintro e w1 ⟨rfl, rfl⟩)
  go_ret2
  exact ⟨rfl, rfl⟩
theorem poMLinkUp_nil (t : Int) (w : World) : Calls Try.prog 24 #[.pointer none, .int .i64 t] w fun e w' => e = .returned (.tuple #[.slice none 0 0, .int .i64 2]) ∧ w = w' := by
  go_enter Try.func24, Try.ntmps24
  go_wp2_with (go_at_call 38; refine (does_nil _ _ _).mono ?_; rintro e w1 ⟨rfl, rfl⟩)
  go_ret2
  exact ⟨rfl, rfl⟩
theorem poMLinkUp_bad (g : Nat) (x : PoS) (t : Int) (w : World) (hx : PoB w g x) (hb : poBad t x = true) : Calls Try.prog 24 #[.pointer (some ⟨g, 0, none⟩), .int .i64 t] w fun e w' => e = .returned (.tuple #[.slice none 0 0, .int .i64 1]) ∧ w = w' := by
  have HB := Lib.hid (fun cl => does_bad g x t cl w hx hb)
  clear hx hb
  go_enter Try.func24, Try.ntmps24
  go_wp2_with (go_at_call 38; refine (HB.out _).mono ?_; rintro e w1 ⟨rfl, rfl⟩)
  go_ret2
  exact ⟨rfl, rfl⟩
theorem poMLinkDown_nil (t : Int) (w : World) : Calls Try.prog 25 #[.pointer none, .int .i64 t] w fun e w' => e = .returned (.tuple #[.slice none 0 0, .int .i64 2]) ∧ w = w' := by
  go_enter Try.func25, Try.ntmps25
  go_wp2_with (go_at_call 38; refine (does_nil _ _ _).mono ?_; rintro e w1 ⟨rfl, rfl⟩)
  go_ret2
  exact ⟨rfl, rfl⟩
theorem poMLinkDown_bad (g : Nat) (x : PoS) (t : Int) (w : World) (hx : PoB w g x) (hb : poBad t x = true) : Calls Try.prog 25 #[.pointer (some ⟨g, 0, none⟩), .int .i64 t] w fun e w' => e = .returned (.tuple #[.slice none 0 0, .int .i64 1]) ∧ w = w' := by
  have HB := Lib.hid (fun cl => does_bad g x t cl w hx hb)
  clear hx hb
  go_enter Try.func25, Try.ntmps25
  go_wp2_with (go_at_call 38; refine (HB.out _).mono ?_; rintro e w1 ⟨rfl, rfl⟩)
  go_ret2
  exact ⟨rfl, rfl⟩
theorem poMTick_nil (t : Int) (w : World) : Calls Try.prog 19 #[.pointer none, .int .i64 t] w fun e w' => e = .returned (.tuple #[.slice none 0 0, .int .i64 2]) ∧ w = w' := by
  go_enter Try.func19, Try.ntmps19
  go_wp2_with (go_at_call 38; refine (does_nil _ _ _).mono ?_; rintro e w1 ⟨rfl, rfl⟩)
  go_ret2
  exact ⟨rfl, rfl⟩
theorem poMTick_bad (g : Nat) (x : PoS) (t : Int) (w : World) (hx : PoB w g x) (hb : poBad t x = true) : Calls Try.prog 19 #[.pointer (some ⟨g, 0, none⟩), .int .i64 t] w fun e w' => e = .returned (.tuple #[.slice none 0 0, .int .i64 1]) ∧ w = w' := by
  have HB := Lib.hid (fun cl => does_bad g x t cl w hx hb)
  clear hx hb
  go_enter Try.func19, Try.ntmps19
  go_wp2_with (go_at_call 38; refine (HB.out _).mono ?_; rintro e w1 ⟨rfl, rfl⟩)
  go_ret2
  exact ⟨rfl, rfl⟩
theorem poMPacket_nil (t : Int) (m : Bool) (w : World) : Calls Try.prog 23 #[.pointer none, .int .i64 t, .bool m] w fun e w' => e = .returned (.tuple #[.slice none 0 0, .int .i64 2]) ∧ Below w.heap.size w w' := by
  go_enter Try.func23, Try.ntmps23
  go_wp2_with (go_at_call 38; refine (does_nil _ _ _).mono ?_; rintro e w1 ⟨rfl, rfl⟩)
  go_ret2
  exact ⟨rfl, (Below.refl _ _).alloc (Nat.le_refl _) _⟩
theorem poMPacket_bad (g : Nat) (x : PoS) (t : Int) (m : Bool) (w : World) (hx : PoB w g x) (hb : poBad t x = true) : Calls Try.prog 23 #[.pointer (some ⟨g, 0, none⟩), .int .i64 t, .bool m] w fun e w' => e = .returned (.tuple #[.slice none 0 0, .int .i64 1]) ∧ Below w.heap.size w w' := by
  have HB := Lib.hid (fun cl => does_bad g x t cl _ (hx.alloc (.cells #[.bool m] 4)) hb)
  clear hx hb
  go_enter Try.func23, Try.ntmps23
  go_wp2_with (go_at_call 38; refine (HB.out _).mono ?_; rintro e w1 ⟨rfl, rfl⟩)
  go_ret2
  exact ⟨rfl, (Below.refl _ _).alloc (Nat.le_refl _) _⟩
end Go.Proofs.Ytdjifjlkpimiaaa
