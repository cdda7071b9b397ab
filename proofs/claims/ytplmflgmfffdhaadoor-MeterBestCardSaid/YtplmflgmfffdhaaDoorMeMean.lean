/-
  Order and Mean of both.
-/
import Derived.Test.YtplmflgmfffdhaaDoorMeCmp
namespace Go.Proofs.YtplmflgmfffdhaaDoor
open Go.RowKit
set_option maxRecDepth 100000
set_option maxHeartbeats 2000000
set_option linter.unusedSimpArgs false
set_option linter.unusedVariables false

theorem ord_lits : ordV 0 0 = 0 ∧ ordV 0 9223372036854775808 = 1 ∧ ordV 9223372036854775808 0 = -1 ∧ ordV 9223372036854775808 9223372036854775808 = 0 := by decide +kernel
theorem cmp_lits : cmpV 4607182418800017408 4607182418800017408 = 0 ∧ cmpV 4607182418800017408 13830554455654793216 = 1 ∧ cmpV 13830554455654793216 4607182418800017408 = -1 ∧ cmpV 13830554455654793216 13830554455654793216 = 0 := by decide +kernel
theorem order_any (a b : Nat) (w : World) (ha : Word a) (hb : Word b) : Calls Tryd.prog 14 #[.float .f64 a, .float .f64 b] w fun e w' => e = .returned (.int .i64 (ordV a b)) ∧ w = w' := by
  have Z1 : (FloatKind.f64.format.order a 0 == some .eq) = zB a := rfl
  have Z2 : (FloatKind.f64.format.order b 0 == some .eq) = zB b := rfl
  rcases za : zB a with _ | _
  · rw [za] at Z1
    have HC := Lib.hid (compare_any a b)
    rw [cmp_ord (by rw [za]; rfl)] at HC
    clear za Z2
    obtain ⟨z, hz⟩ : ∃ z, ordV a b = z := ⟨_, rfl⟩
    rw [hz] at HC ⊢
    clear hz
    go_enter Tryd.func14, Tryd.ntmps14
    go_wp2_with (go_at_call 38; refine (HC.out _).mono ?_; rintro e w' ⟨rfl, rfl⟩)
    go_ret
    exact ⟨rfl, rfl⟩
  · rcases zb : zB b with _ | _
    · rw [za] at Z1
      rw [zb] at Z2
      have HC := Lib.hid (compare_any a b)
      rw [cmp_ord (by rw [zb]; cases zB a <;> rfl)] at HC
      clear za zb
      obtain ⟨z, hz⟩ : ∃ z, ordV a b = z := ⟨_, rfl⟩
      rw [hz] at HC ⊢
      clear hz
      go_enter Tryd.func14, Tryd.ntmps14
      go_wp2_with (go_at_call 38; refine (HC.out _).mono ?_; rintro e w' ⟨rfl, rfl⟩)
      go_ret
      exact ⟨rfl, rfl⟩
    · have wa := zero_word ha za
      have wb := zero_word hb zb
      obtain ⟨o1, o2, o3, o4⟩ := ord_lits
      obtain ⟨c1, c2, c3, c4⟩ := cmp_lits
      rw [za] at Z1
      rw [zb] at Z2
      have CC := Lib.hid compare_any
      clear za zb ha hb
      rcases wa with rfl | rfl
      · rcases wb with rfl | rfl
        · rw [o1]
          have K := Lib.hid (CC.out 4607182418800017408 4607182418800017408)
          rw [c1] at K
          clear o1 o2 o3 o4 c1 c2 c3 c4 CC
          go_enter Tryd.func14, Tryd.ntmps14
          go_wp2_with (first | (go_at_call 39; ((with_reducible refine (copysign_0 _).mono ?_); rintro e w' ⟨rfl, rfl⟩)) | (go_at_call 39; ((with_reducible refine (copysign_1 _).mono ?_); rintro e w' ⟨rfl, rfl⟩)) | (go_at_call 38; refine (K.out _).mono ?_; rintro e w' ⟨rfl, rfl⟩))
          go_ret
          exact ⟨rfl, rfl⟩
        · rw [o2]
          have K := Lib.hid (CC.out 4607182418800017408 13830554455654793216)
          rw [c2] at K
          clear o1 o2 o3 o4 c1 c2 c3 c4 CC
          go_enter Tryd.func14, Tryd.ntmps14
          go_wp2_with (first | (go_at_call 39; ((with_reducible refine (copysign_0 _).mono ?_); rintro e w' ⟨rfl, rfl⟩)) | (go_at_call 39; ((with_reducible refine (copysign_1 _).mono ?_); rintro e w' ⟨rfl, rfl⟩)) | (go_at_call 38; refine (K.out _).mono ?_; rintro e w' ⟨rfl, rfl⟩))
          go_ret
          exact ⟨rfl, rfl⟩
      · rcases wb with rfl | rfl
        · rw [o3]
          have K := Lib.hid (CC.out 13830554455654793216 4607182418800017408)
          rw [c3] at K
          clear o1 o2 o3 o4 c1 c2 c3 c4 CC
          go_enter Tryd.func14, Tryd.ntmps14
          go_wp2_with (first | (go_at_call 39; ((with_reducible refine (copysign_0 _).mono ?_); rintro e w' ⟨rfl, rfl⟩)) | (go_at_call 39; ((with_reducible refine (copysign_1 _).mono ?_); rintro e w' ⟨rfl, rfl⟩)) | (go_at_call 38; refine (K.out _).mono ?_; rintro e w' ⟨rfl, rfl⟩))
          go_ret
          exact ⟨rfl, rfl⟩
        · rw [o4]
          have K := Lib.hid (CC.out 13830554455654793216 13830554455654793216)
          rw [c4] at K
          clear o1 o2 o3 o4 c1 c2 c3 c4 CC
          go_enter Tryd.func14, Tryd.ntmps14
          go_wp2_with (first | (go_at_call 39; ((with_reducible refine (copysign_0 _).mono ?_); rintro e w' ⟨rfl, rfl⟩)) | (go_at_call 39; ((with_reducible refine (copysign_1 _).mono ?_); rintro e w' ⟨rfl, rfl⟩)) | (go_at_call 38; refine (K.out _).mono ?_; rintro e w' ⟨rfl, rfl⟩))
          go_ret
          exact ⟨rfl, rfl⟩
theorem rorder_any (a b : Nat) (w : World) (ha : Word a) (hb : Word b) : Calls Tryd.prog 15 #[.float .f64 a, .float .f64 b] w fun e w' => e = .returned (.int .i64 (ordV a b)) ∧ w = w' := by
  have A1 : (FloatKind.f64.format.order a a != some .eq) = isN a := rfl
  have B1 : (FloatKind.f64.format.order b b != some .eq) = isN b := rfl
  have L : (FloatKind.f64.format.order a b == some .lt) = (cmpF a b == some .lt) := rfl
  have G : (FloatKind.f64.format.order a b == some .gt) = (cmpF a b == some .gt) := rfl
  have S1 := Lib.hid (fun w => signbit_any a w ha)
  have S2 := Lib.hid (fun w => signbit_any b w hb)
  unfold ordV
  obtain ⟨l, hl⟩ : ∃ l, (cmpF a b == some .lt) = l := ⟨_, rfl⟩
  obtain ⟨g, hg⟩ : ∃ g, (cmpF a b == some .gt) = g := ⟨_, rfl⟩
  obtain ⟨x, hx⟩ : ∃ x, isN a = x := ⟨_, rfl⟩
  obtain ⟨y, hy⟩ : ∃ y, isN b = y := ⟨_, rfl⟩
  obtain ⟨s, hs⟩ : ∃ s, sgn a = s := ⟨_, rfl⟩
  obtain ⟨t, ht⟩ : ∃ t, sgn b = t := ⟨_, rfl⟩
  rw [hl] at L ⊢
  rw [hg] at G ⊢
  rw [hx] at A1 ⊢
  rw [hy] at B1 ⊢
  rw [hs] at S1 ⊢
  rw [ht] at S2 ⊢
  clear hl hg hx hy hs ht ha hb
  cases x <;> cases y
  · cases l
    · cases g
      · cases s <;> cases t
        all_goals
          go_enter Tryd.func15, Tryd.ntmps15
          go_wp2_with (first | (go_at_call 40; ((with_reducible refine (S1.out _).mono ?_); rintro e w' ⟨rfl, rfl⟩)) | (go_at_call 40; ((with_reducible refine (S2.out _).mono ?_); rintro e w' ⟨rfl, rfl⟩)))
          go_ret
          exact ⟨rfl, rfl⟩
      · go_enter Tryd.func15, Tryd.ntmps15
        go_wp2
        go_ret
        exact ⟨rfl, rfl⟩
    · go_enter Tryd.func15, Tryd.ntmps15
      go_wp2
      go_ret
      exact ⟨rfl, rfl⟩
  all_goals
    go_enter Tryd.func15, Tryd.ntmps15
    go_wp2
    go_ret
    exact ⟨rfl, rfl⟩
/-- an average that goes on -/
def avgT (old v p : Nat) : Nat :=
  match Ieee.double.sub v old with
  | none => NC
  | some d => match Ieee.double.div d p with
    | none => NC
    | some q => match Ieee.double.add old q with
      | none => NC
      | some r => toldF r
def meanV (old v : Nat) (parts : Int) : Nat := if isN old then toldF v else avgT old v (floatOfInt .f64 parts)
def meanE (parts : Int) : Int := if 1 ≤ parts ∧ parts ≤ 1024 then 0 else 1
def meanW (old v : Nat) (parts : Int) : Nat := if 1 ≤ parts ∧ parts ≤ 1024 then meanV old v parts else 0
theorem nan_read {x : Nat} (h : isN x = true) : ∃ g f, Ieee.double.read x = .nan g f := read_nan (nan_rung h)
theorem div_nan {x : Nat} (y : Nat) (h : isN x = true) : Ieee.double.div x y = none := by
  obtain ⟨g, f, e⟩ := nan_read h
  unfold Ieee.Format.div
  rw [e]
  rfl
theorem add_nan {x : Nat} (y : Nat) (h : isN x = true) : Ieee.double.add y x = none := by
  obtain ⟨g, f, e⟩ := nan_read h
  unfold Ieee.Format.add
  rw [e]
  cases Ieee.double.read y <;> rfl
theorem nanW_nan (x y : Nat) (W : World) : isN (nanW x y W) = true := cut_nan x y _
theorem sub_none {a b : Nat} (h : Ieee.double.sub a b = none) (W : World) : (binOp .sub 22 (.float .f64 a) (.float .f64 b)).run Tryd.prog W = .ok (.float .f64 (nanW a b W)) W.drew := by
  have h2 : FloatKind.f64.format.sub a b = none := h
  simp [binOp, Op.floatArith, h2, run_choose_drew, Question.forced, nanW]
theorem add_none {a b : Nat} (h : Ieee.double.add a b = none) (W : World) : (binOp .add 22 (.float .f64 a) (.float .f64 b)).run Tryd.prog W = .ok (.float .f64 (nanW a b W)) W.drew := by
  have h2 : FloatKind.f64.format.add a b = none := h
  simp [binOp, Op.floatArith, h2, run_choose_drew, Question.forced, nanW]
theorem sub_some {a b r : Nat} (h : Ieee.double.sub a b = some r) (W : World) : (binOp .sub 22 (.float .f64 a) (.float .f64 b)).run Tryd.prog W = .ok (.float .f64 r) W := run_float_arith W .sub _ .f64 a b r h
theorem add_some {a b r : Nat} (h : Ieee.double.add a b = some r) (W : World) : (binOp .add 22 (.float .f64 a) (.float .f64 b)).run Tryd.prog W = .ok (.float .f64 r) W := run_float_arith W .add _ .f64 a b r h

theorem mean_any (old v : Nat) (parts : Int) (w : World) : Calls Tryd.prog 9 #[.float .f64 old, .float .f64 v, .int .i64 parts] w fun e w' => e = .returned (.tuple #[.float .f64 (meanW old v parts), .int .i64 (meanE parts)]) ∧ ∃ n, w' = w.drewN n := by
  unfold meanW meanE
  by_cases hp : 1 ≤ parts ∧ parts ≤ 1024
  · rw [if_pos hp, if_pos hp]
    obtain ⟨p1, p2⟩ := hp
    unfold meanV
    have HN := Lib.hid (isNaN_any old)
    rcases hn : isN old with _ | _
    · rw [hn] at HN
      simp only [Bool.false_eq_true, if_false]
      obtain ⟨p, hpp⟩ : ∃ p, floatOfInt .f64 parts = p := ⟨_, rfl⟩
      have CV : ∀ W, (convert 3 22 (.int .i64 parts)).run Tryd.prog W = .ok (.float .f64 p) W := fun W => by rw [← hpp]; exact run_convert_int_float W _ _ _ _ _ (by kernel_rfl) Tryd.underlying22
      rw [hpp]
      clear hpp hn
      unfold avgT
      have TN : Hid (∀ x y W n, Calls Tryd.prog 36 #[.float .f64 (nanW x y W)] (W.drewN n) fun e w' => e = .returned (.float .f64 NC) ∧ W.drewN n = w') := fun x y W n => by
        have := told_any (nanW x y W) (W.drewN n)
        rw [toldF_nan (nanW_nan x y W)] at this
        exact this
      cases h1 : Ieee.double.sub v old with
      | none =>
        have S1 := sub_none h1 w
        have S2 := quo_none (div_nan p (nanW_nan v old w)) w.drew
        have S3 := add_none (add_nan old (nanW_nan (nanW v old w) p w.drew)) w.drew.drew
        have T3 := Lib.hid (TN.out old (nanW (nanW v old w) p w.drew) w.drew.drew 1)
        clear h1 TN
        go_enter Tryd.func9, Tryd.ntmps9
        go_wp2_with (first | (go_at_call 35; refine (HN.out _).mono ?_; rintro e w' ⟨rfl, rfl⟩) | (go_at_call 36; refine T3.out.mono ?_; rintro e w' ⟨rfl, rfl⟩))
        go_ret2
        exact ⟨rfl, 3, rfl⟩
      | some d =>
        have S1 := sub_some h1
        simp only
        cases h2 : Ieee.double.div d p with
        | none =>
          have S2 := quo_none h2 w
          have S3 := add_none (add_nan old (nanW_nan d p w)) w.drew
          have T3 := Lib.hid (TN.out old (nanW d p w) w.drew 1)
          clear h1 h2 TN
          go_enter Tryd.func9, Tryd.ntmps9
          go_wp2_with (first | (go_at_call 35; refine (HN.out _).mono ?_; rintro e w' ⟨rfl, rfl⟩) | (go_at_call 36; refine T3.out.mono ?_; rintro e w' ⟨rfl, rfl⟩))
          go_ret2
          exact ⟨rfl, 2, rfl⟩
        | some q =>
          have S2 := quo_some h2
          simp only
          cases h3 : Ieee.double.add old q with
          | none =>
            have S3 := add_none h3 w
            have T3 := Lib.hid (TN.out old q w 1)
            clear h1 h2 h3 TN
            go_enter Tryd.func9, Tryd.ntmps9
            go_wp2_with (first | (go_at_call 35; refine (HN.out _).mono ?_; rintro e w' ⟨rfl, rfl⟩) | (go_at_call 36; refine T3.out.mono ?_; rintro e w' ⟨rfl, rfl⟩))
            go_ret2
            exact ⟨rfl, 1, rfl⟩
          | some r =>
            have S3 := add_some h3
            simp only
            clear h1 h2 h3 TN
            go_enter Tryd.func9, Tryd.ntmps9
            go_wp2_with (first | (go_at_call 35; refine (HN.out _).mono ?_; rintro e w' ⟨rfl, rfl⟩) | (go_at_call 36; refine (told_any _ _).mono ?_; rintro e w' ⟨rfl, rfl⟩))
            go_ret2
            exact ⟨rfl, 0, rfl⟩
    · rw [hn] at HN
      simp only [if_true]
      clear hn
      go_enter Tryd.func9, Tryd.ntmps9
      go_wp2_with (first | (go_at_call 35; refine (HN.out _).mono ?_; rintro e w' ⟨rfl, rfl⟩) | (go_at_call 36; refine (told_any _ _).mono ?_; rintro e w' ⟨rfl, rfl⟩))
      go_ret2
      exact ⟨rfl, 0, rfl⟩
  · rw [if_neg hp, if_neg hp]
    by_cases h1 : parts < 1
    · clear hp
      go_enter Tryd.func9, Tryd.ntmps9
      go_wp2
      go_ret2
      exact ⟨rfl, 0, rfl⟩
    · have h2 : 1024 < parts := by omega
      clear hp
      go_enter Tryd.func9, Tryd.ntmps9
      go_wp2
      go_ret2
      exact ⟨rfl, 0, rfl⟩
theorem rmean_any (old v : Nat) (parts : Int) (w : World) : Calls Tryd.prog 10 #[.float .f64 old, .float .f64 v, .int .i64 parts] w fun e w' => e = .returned (.tuple #[.float .f64 (meanW old v parts), .int .i64 (meanE parts)]) ∧ ∃ n, w' = w.drewN n := by
  unfold meanW meanE
  by_cases hp : 1 ≤ parts ∧ parts ≤ 1024
  · rw [if_pos hp, if_pos hp]
    obtain ⟨p1, p2⟩ := hp
    unfold meanV
    have HN : (FloatKind.f64.format.order old old != some .eq) = isN old := rfl
    rcases hn : isN old with _ | _
    · rw [hn] at HN
      simp only [Bool.false_eq_true, if_false]
      obtain ⟨p, hpp⟩ : ∃ p, floatOfInt .f64 parts = p := ⟨_, rfl⟩
      have CV : ∀ W, (convert 3 22 (.int .i64 parts)).run Tryd.prog W = .ok (.float .f64 p) W := fun W => by rw [← hpp]; exact run_convert_int_float W _ _ _ _ _ (by kernel_rfl) Tryd.underlying22
      rw [hpp]
      clear hpp hn
      unfold avgT
      have TN : Hid (∀ x y W n, Calls Tryd.prog 32 #[.float .f64 (nanW x y W)] (W.drewN n) fun e w' => e = .returned (.float .f64 NC) ∧ W.drewN n = w') := fun x y W n => by
        have := rtold_any (nanW x y W) (W.drewN n)
        rw [toldF_nan (nanW_nan x y W)] at this
        exact this
      cases h1 : Ieee.double.sub v old with
      | none =>
        have S1 := sub_none h1 w
        have S2 := quo_none (div_nan p (nanW_nan v old w)) w.drew
        have S3 := add_none (add_nan old (nanW_nan (nanW v old w) p w.drew)) w.drew.drew
        have T3 := Lib.hid (TN.out old (nanW (nanW v old w) p w.drew) w.drew.drew 1)
        clear h1 TN
        go_enter Tryd.func10, Tryd.ntmps10
        go_wp2_with (first | (go_at_call 32; refine T3.out.mono ?_; rintro e w' ⟨rfl, rfl⟩))
        go_ret2
        exact ⟨rfl, 3, rfl⟩
      | some d =>
        have S1 := sub_some h1
        simp only
        cases h2 : Ieee.double.div d p with
        | none =>
          have S2 := quo_none h2 w
          have S3 := add_none (add_nan old (nanW_nan d p w)) w.drew
          have T3 := Lib.hid (TN.out old (nanW d p w) w.drew 1)
          clear h1 h2 TN
          go_enter Tryd.func10, Tryd.ntmps10
          go_wp2_with (first | (go_at_call 32; refine T3.out.mono ?_; rintro e w' ⟨rfl, rfl⟩))
          go_ret2
          exact ⟨rfl, 2, rfl⟩
        | some q =>
          have S2 := quo_some h2
          simp only
          cases h3 : Ieee.double.add old q with
          | none =>
            have S3 := add_none h3 w
            have T3 := Lib.hid (TN.out old q w 1)
            clear h1 h2 h3 TN
            go_enter Tryd.func10, Tryd.ntmps10
            go_wp2_with (first | (go_at_call 32; refine T3.out.mono ?_; rintro e w' ⟨rfl, rfl⟩))
            go_ret2
            exact ⟨rfl, 1, rfl⟩
          | some r =>
            have S3 := add_some h3
            simp only
            clear h1 h2 h3 TN
            go_enter Tryd.func10, Tryd.ntmps10
            go_wp2_with (first | (go_at_call 32; refine (rtold_any _ _).mono ?_; rintro e w' ⟨rfl, rfl⟩))
            go_ret2
            exact ⟨rfl, 0, rfl⟩
    · rw [hn] at HN
      simp only [if_true]
      clear hn
      go_enter Tryd.func10, Tryd.ntmps10
      go_wp2_with (first | (go_at_call 32; refine (rtold_any _ _).mono ?_; rintro e w' ⟨rfl, rfl⟩))
      go_ret2
      exact ⟨rfl, 0, rfl⟩
  · rw [if_neg hp, if_neg hp]
    by_cases h1 : parts < 1
    · clear hp
      go_enter Tryd.func10, Tryd.ntmps10
      go_wp2
      go_ret2
      exact ⟨rfl, 0, rfl⟩
    · have h2 : 1024 < parts := by omega
      clear hp
      go_enter Tryd.func10, Tryd.ntmps10
      go_wp2
      go_ret2
      exact ⟨rfl, 0, rfl⟩
end Go.Proofs.YtplmflgmfffdhaaDoor
