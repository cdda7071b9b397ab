/-
  The law AutoRuns: the walk.
-/
import Derived.Test.YtpkmddagcfjadaaDoorAuRRun
import Derived.Test.YtpkmddagcfjadaaDoorAuSndW
namespace Go.Proofs.YtpkmddagcfjadaaDoor
open Go.RowKit
set_option maxRecDepth 100000
set_option maxHeartbeats 2000000
set_option linter.unusedSimpArgs false
set_option linter.unusedVariables false

theorem rnA_length (mc mt : Int) : ∀ (l : List Int) (s c : Int) (a : List Int) (i : Int), (rnA mc mt l s c a i).l.length ≤ a.length + 3 * l.length
  | [], s, c, a, i => by simp [rnA]
  | e :: r, s, c, a, i => by
    unfold rnA
    split
    · have h1 := rnA_length mc mt r (doS s c e) (doC s c mc mt e) (a ++ doA s c e) (i + 1)
      have h2 := doA_length s c e
      rw [List.length_append] at h1
      rw [List.length_cons]
      omega
    · simp
theorem rnR_length (mc mt : Int) (l : List Int) : (rnR mc mt l).l.length ≤ 3 * l.length := by
  unfold rnR
  split
  · have := rnA_length mc mt l 0 0 [] 0
    simpa using this
  · simp
theorem autoruns_walk (mc mt : Int) (A : Option Addr) (n c : Nat) (l : List Int) (w : World) (hr : RdI w w.heap.size A n l) (hz : A = none → c = 0) (hm : n ≤ 1048576) (hT : TabA w) (hN : TabN w) :
    Calls Tryd.prog 7 #[.int .i64 mc, .int .i64 mt, .slice A n c] w fun e w' => e = .returned (.bool true) ∧ Below w.heap.size w w' := by
  obtain ⟨v1, w1, hrun, o1, g1, e1⟩ := appI_rd (OwnI.nil w w.heap.size) hr hz (by simp; omega) (Nat.le_refl _)
  have B1 : Hid (Below w.heap.size w w1) := (Below.refl _ _).grown g1 (Nat.le_refl _) (fun k e => by simp [Value.ownBlock] at e)
  obtain ⟨A1, m1, c1, rfl⟩ := ownI_shape o1
  obtain rfl : m1 = n := by
    obtain ⟨_, _, e, _⟩ := o1.slice
    injection e with _ e _
    rw [e, List.nil_append, hr.1]
  rw [List.nil_append] at o1
  have hlr := rnR_length mc mt l
  rw [hr.1] at hlr
  obtain ⟨R, hR⟩ : ∃ R, rnR mc mt l = R := ⟨_, rfl⟩
  obtain ⟨rs, rc, rl, re, ri⟩ := R
  rw [hR] at hlr
  have hrl : rl.length ≤ 3 * m1 := hlr
  have KR : Hid (∀ W B A2 c2, RdI W B A2 m1 l → B ≤ W.heap.size → Below w.heap.size w W → Calls Tryd.prog 30 #[.int .i64 mc, .int .i64 mt, .slice A2 m1 c2] W fun r w' => ∃ A3 m3 c3, r = .returned (.tuple #[.int .i64 rs, .int .i64 rc, .slice A3 m3 c3, .int .i64 re, .int .i64 ri]) ∧ OwnI w' W.heap.size (.slice A3 m3 c3) rl ∧ Below W.heap.size W w') := by
    show ∀ W, _
    intro W B A2 c2 h1 h2 h3
    refine (arun_any mc mt A2 m1 c2 B l W h1 h2 (by omega) (hT.keptB h3 hT.lt)).mono ?_
    rw [hR]
    rintro r w' ⟨v, rfl, ho, hb⟩
    obtain ⟨A3, m3, c3, rfl⟩ := ownI_shape ho
    exact ⟨_, _, _, rfl, ho, hb⟩
  have KS : Hid (∀ W B A2 c2, RdI W B A2 m1 l → B ≤ W.heap.size → Calls Tryd.prog 31 #[.int .i64 mc, .int .i64 mt, .slice A2 m1 c2] W fun r w' => ∃ A3 m3 c3, r = .returned (.tuple #[.int .i64 rs, .int .i64 rc, .slice A3 m3 c3, .int .i64 re, .int .i64 ri]) ∧ OwnI w' W.heap.size (.slice A3 m3 c3) rl ∧ Below W.heap.size W w') := by
    show ∀ W, _
    intro W B A2 c2 h1 h2
    refine (rarun_any mc mt A2 m1 c2 B l W h1 h2 (by omega)).mono ?_
    rw [hR]
    rintro r w' ⟨v, rfl, ho, hb⟩
    obtain ⟨A3, m3, c3, rfl⟩ := ownI_shape ho
    exact ⟨_, _, _, rfl, ho, hb⟩
  have heq : ∀ z : Int, (z == z) = true := by simp
  have RUN := Lib.hid hrun
  have O1 := Lib.hid o1.rd.1
  have L1 := Lib.hid (hr.below B1.out (Nat.le_refl _))
  have SZ1 := B1.out.size
  have HT := Lib.hid hT
  have HN := Lib.hid hN
  clear hr hrun o1 g1 e1 hT hN hR hlr
  go_enter Tryd.func7, Tryd.ntmps7
  go_wp2_with (first
    | (at_builtin; refine wpList_appR 22 22 rfl (.tmp 18) (.tmp 19) rfl _ _ rfl rfl _ _ RUN.out ?_)
    | (go_at_call 30; ((with_reducible refine (KR.out _ _ _ _ O1.out (Nat.le_refl _) B1.out).mono ?_); rintro e w2 ⟨A2, m2, c2, rfl, o2, b2⟩; have O2 := Lib.hid o2; have B2 := Lib.hid b2; clear o2 b2))
    | (go_at_call 31; ((with_reducible refine (KS.out _ _ _ _ (L1.out.below B2.out SZ1) (Nat.le_trans SZ1 B2.out.size)).mono ?_); rintro e w3 ⟨A3, m3, c3, rfl, o3, b3⟩; have O3 := Lib.hid o3; have B3 := Lib.hid b3; clear o3 b3))
    | (go_at_call 14; ((with_reducible refine (numbers_two O2.out O3.out B3.out (by omega)).mono ?_); rintro e w4 ⟨rfl, k4, rfl⟩))
    | (go_at_call 14; ((with_reducible refine (numbers_yes _ _ _ _ _ l _ _ _ (((O1.out.below B2.out (Nat.le_refl _)).below B3.out B2.out.size).drewN _) (((L1.out.below B2.out SZ1).below B3.out (Nat.le_trans SZ1 B2.out.size)).drewN _) (by omega)).mono ?_); rintro e w6 ⟨rfl, k6, rfl⟩))
    | (go_at_call 21; ((with_reducible refine (awake_drawn B1.out B2.out B3.out _ HT.out HN.out).mono ?_); rintro e w7 ⟨rfl, b7⟩; have B7 := Lib.hid b7; clear b7)))
  go_ret
  exact ⟨rfl, B7.out⟩
end Go.Proofs.YtpkmddagcfjadaaDoor
