/-
  The law AutoSends: the walk.
-/
import Derived.Test.YtpkmddagcfjadaaDoorAuRSnd
namespace Go.Proofs.YtpkmddagcfjadaaDoor
open Go.RowKit
set_option maxRecDepth 100000
set_option maxHeartbeats 1000000
set_option linter.unusedSimpArgs false
set_option linter.unusedVariables false

theorem numbers_two {w w1 : World} {b1 b2 m1 m2 c1 c2 : Nat} {A1 A2 : Option Addr} {l : List Int} (o1 : OwnI w b1 (.slice A1 m1 c1) l) (o2 : OwnI w1 b2 (.slice A2 m2 c2) l) (hb : Below w.heap.size w w1) (hm : l.length ≤ 1152921504606846976) :
    Calls Tryd.prog 14 #[.slice A1 m1 c1, .slice A2 m2 c2] w1 fun e w' => e = .returned (.bool true) ∧ ∃ k, w' = w1.drewN k := by
  have h1 := o1.rd.1
  have h2 := o2.rd.1
  obtain rfl : l.length = m1 := h1.1
  obtain rfl : l.length = m2 := h2.1
  exact numbers_yes _ _ _ _ _ l w1 _ _ (h1.below hb (Nat.le_refl _)) h2 hm
theorem awake_drawn {w w1 w2 w3 : World} (h1 : Below w.heap.size w w1) (h2 : Below w1.heap.size w1 w2) (h3 : Below w2.heap.size w2 w3) (k : Nat) (hT : TabA w) (hN : TabN w) :
    Calls Tryd.prog 21 #[] (w3.drewN k) fun e w' => e = .returned (.bool true) ∧ Below w.heap.size w w' := by
  have hb : Below w.heap.size w (w3.drewN k) := below_drewN ((h1.trans (h2.mono h1.size)).trans (h3.mono (Nat.le_trans h1.size h2.size))) k
  refine (awake_any _ (hT.keptB hb hT.lt) (hN.keptB hb hN.lt)).mono ?_
  rintro e w' ⟨rfl, h⟩
  exact ⟨rfl, hb.trans (h.mono hb.size)⟩
theorem autosends_walk (A : Option Addr) (n c : Nat) (l : List Int) (w : World) (hr : RdI w w.heap.size A n l) (hz : A = none → c = 0) (hm : n ≤ 17592186043904) (hT : TabA w) (hN : TabN w) (hC : TabC w) :
    Calls Tryd.prog 5 #[.slice A n c] w fun e w' => e = .returned (.bool true) ∧ Below w.heap.size w w' := by
  obtain ⟨v1, w1, hrun, o1, g1, e1⟩ := appI_rd (OwnI.nil w w.heap.size) hr hz (by simp; omega) (Nat.le_refl _)
  have B1 : Hid (Below w.heap.size w w1) := (Below.refl _ _).grown g1 (Nat.le_refl _) (fun k e => by simp [Value.ownBlock] at e)
  obtain ⟨A1, m1, c1, rfl⟩ := o1.shape
  obtain rfl : m1 = n := by
    obtain ⟨_, _, e, _⟩ := o1.slice
    injection e with _ e _
    rw [e, List.nil_append, hr.1]
  rw [List.nil_append] at o1
  have RUN := Lib.hid hrun
  have O1 := Lib.hid o1.rd.1
  have L1 := Lib.hid (hr.below B1.out (Nat.le_refl _))
  have HL := Lib.hid hr.1
  have SZ1 := B1.out.size
  have hb : ∃ b, beg l = b := ⟨_, rfl⟩
  obtain ⟨b, hb⟩ := hb
  have HBG := Lib.hid hb
  have HT := Lib.hid hT
  have HN := Lib.hid hN
  have HC := Lib.hid hC
  have tb : (b == b) = true := by simp
  clear hr hrun o1 g1 e1 hb hT hN hC
  go_enter Tryd.func5, Tryd.ntmps5
  go_wp2_with (first
    | (at_builtin; refine wpList_appR 22 22 rfl (.tmp 4) (.tmp 5) rfl _ _ rfl rfl _ _ RUN.out ?_)
    | (go_at_call 22; ((with_reducible refine (sends_any _ _ _ _ l _ O1.out (Nat.le_refl _) (by omega) (HC.out.keptB B1.out HC.out.lt)).mono ?_); rintro e w2 ⟨v2, rfl, o2, b2⟩; obtain ⟨A2, m2, c2, rfl⟩ := o2.shape; have O2 := Lib.hid o2; have B2 := Lib.hid b2; clear o2 b2))
    | (go_at_call 23; ((with_reducible refine (rsends_any _ _ _ _ l _ (L1.out.below B2.out SZ1) (Nat.le_trans SZ1 B2.out.size) (by omega)).mono ?_); rintro e w3 ⟨v3, rfl, o3, b3⟩; obtain ⟨A3, m3, c3, rfl⟩ := o3.shape; have O3 := Lib.hid o3; have B3 := Lib.hid b3; clear o3 b3))
    | (go_at_call 14; ((with_reducible refine (numbers_two O2.out O3.out B3.out (Nat.le_trans (snd_length l) (by have := HL.out; omega))).mono ?_); rintro e w4 ⟨rfl, k4, rfl⟩))
    | (go_at_call 24; ((with_reducible refine (begins_any _ _ _ _ l _ (((O1.out.below B2.out (Nat.le_refl _)).below B3.out B2.out.size).drewN _) (by omega)).mono ?_); rintro e w5 ⟨rfl, rfl⟩; rw [HBG.out]))
    | (go_at_call 25; ((with_reducible refine (rbegins_any _ _ _ _ l _ (((L1.out.below B2.out SZ1).below B3.out (Nat.le_trans SZ1 B2.out.size)).drewN _) (by omega)).mono ?_); rintro e w5 ⟨rfl, rfl⟩; rw [HBG.out]))
    | (go_at_call 14; ((with_reducible refine (numbers_yes _ _ _ _ _ l _ _ _ (((O1.out.below B2.out (Nat.le_refl _)).below B3.out B2.out.size).drewN _) (((L1.out.below B2.out SZ1).below B3.out (Nat.le_trans SZ1 B2.out.size)).drewN _) (by omega)).mono ?_); rintro e w6 ⟨rfl, k6, rfl⟩))
    | (go_at_call 21; ((with_reducible refine (awake_drawn B1.out B2.out B3.out _ HT.out HN.out).mono ?_); rintro e w7 ⟨rfl, b7⟩; have B7 := Lib.hid b7; clear b7)))
  go_ret
  exact ⟨rfl, B7.out⟩
end Go.Proofs.YtpkmddagcfjadaaDoor
