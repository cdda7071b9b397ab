/-
  meter's numberOf, Best, Worst; the reference's Best: all tell what the fold makes.
-/
import Derived.Test.YtplmflgmfffdhaaDoorMeFst
namespace Go.Proofs.YtplmflgmfffdhaaDoor
open Go.RowKit
set_option maxRecDepth 100000
set_option maxHeartbeats 1000000
set_option linter.unusedSimpArgs false
set_option linter.unusedVariables false

theorem numberOf_any (f : Nat) (s : Bool) (A : Option Addr) (n c B : Nat) (l : List Nat) (w : World) (hcf : ∀ a b W, (callFunc f #[.float .f64 a, .float .f64 b]).run Tryd.prog W = .ok (.enter f #[.float .f64 a, .float .f64 b]) W) (hO : OrdC f s)
    (hr : RdF w B A n l) (hl : ∀ x ∈ l, Word x) (hn : n ≤ 17592186043904) :
    Calls Tryd.prog 42 #[.slice A n c, .func (.func f) #[] #[]] w fun e w' => e = .returned (.tuple #[.float .f64 ((bstF s l).getD NC), .bool (bstF s l).isSome]) ∧ ∃ m, w' = w.drewN m := by
  have F := Lib.hid (first_any f s A n c B l w hcf hO hr hl hn)
  clear hcf hO hr hl hn
  obtain ⟨o, ho⟩ : ∃ o, bstF s l = o := ⟨_, rfl⟩
  rw [ho] at F ⊢
  clear ho
  cases o with
  | none =>
    go_enter Tryd.func42, Tryd.ntmps42
    go_wp2_with (first | (go_at_call 58; refine F.out.mono ?_; rintro e w' ⟨rfl, m, rfl⟩) | (go_at_call 45; refine (none_any _).mono ?_; rintro e w' ⟨rfl, rfl⟩))
    go_ret2
    exact ⟨rfl, m, rfl⟩
  | some x =>
    go_enter Tryd.func42, Tryd.ntmps42
    go_wp2_with (first | (go_at_call 58; refine F.out.mono ?_; rintro e w' ⟨rfl, m, rfl⟩) | (go_at_call 45; refine (none_any _).mono ?_; rintro e w' ⟨rfl, rfl⟩))
    go_ret2
    exact ⟨rfl, m, rfl⟩
theorem best_any (A : Option Addr) (n c B : Nat) (l : List Nat) (w : World) (hr : RdF w B A n l) (hl : ∀ x ∈ l, Word x) (hn : n ≤ 17592186043904) :
    Calls Tryd.prog 17 #[.slice A n c] w fun e w' => e = .returned (.tuple #[.float .f64 ((bstF false l).getD NC), .bool (bstF false l).isSome]) ∧ ∃ m, w' = w.drewN m := by
  have F := Lib.hid (numberOf_any 14 false A n c B l w cf_order ordC_best hr hl hn)
  clear hr hl hn
  obtain ⟨o, ho⟩ : ∃ o, bstF false l = o := ⟨_, rfl⟩
  rw [ho] at F ⊢
  obtain ⟨x, hx⟩ : ∃ x, o.getD NC = x := ⟨_, rfl⟩
  obtain ⟨y, hy⟩ : ∃ y, o.isSome = y := ⟨_, rfl⟩
  rw [hx, hy] at F ⊢
  clear ho hx hy
  go_enter Tryd.func17, Tryd.ntmps17
  go_wp2_with (go_at_call 42; refine F.out.mono ?_; rintro e w' ⟨rfl, m, rfl⟩)
  go_ret2
  exact ⟨rfl, m, rfl⟩
theorem worst_any (A : Option Addr) (n c B : Nat) (l : List Nat) (w : World) (hr : RdF w B A n l) (hl : ∀ x ∈ l, Word x) (hn : n ≤ 17592186043904) :
    Calls Tryd.prog 19 #[.slice A n c] w fun e w' => e = .returned (.tuple #[.float .f64 ((bstF true l).getD NC), .bool (bstF true l).isSome]) ∧ ∃ m, w' = w.drewN m := by
  have F := Lib.hid (numberOf_any 44 true A n c B l w cf_worst ordC_worst hr hl hn)
  clear hr hl hn
  obtain ⟨o, ho⟩ : ∃ o, bstF true l = o := ⟨_, rfl⟩
  rw [ho] at F ⊢
  obtain ⟨x, hx⟩ : ∃ x, o.getD NC = x := ⟨_, rfl⟩
  obtain ⟨y, hy⟩ : ∃ y, o.isSome = y := ⟨_, rfl⟩
  rw [hx, hy] at F ⊢
  clear ho hx hy
  go_enter Tryd.func19, Tryd.ntmps19
  go_wp2_with (go_at_call 42; refine F.out.mono ?_; rintro e w' ⟨rfl, m, rfl⟩)
  go_ret2
  exact ⟨rfl, m, rfl⟩
theorem ord_sign (s : Bool) (v x : Nat) : (ordV v x == (if s then (1 : Int) else -1)) = pickF s v x := by
  rw [ord_key]
  unfold pickF
  cases s
  · simp only [Bool.false_eq_true, if_false]
    split
    · simp_all
    · split <;> simp_all <;> omega
  · simp only [if_true]
    split
    · rename_i h
      have : ¬ keyF x < keyF v := by omega
      simp [this]
    · split <;> simp_all
theorem drew_more {w V : World} {k : Nat} (h : Hid (∃ m, V = w.drewN m)) : Hid (∃ m, V.drewN k = w.drewN m) := by
  obtain ⟨m, rfl⟩ := h
  exact ⟨m + k, by rw [World.drewN_drewN]⟩
theorem rbest_any (s : Bool) (A : Option Addr) (n c B : Nat) (l : List Nat) (w : World) (hr : RdF w B A n l) (hl : ∀ x ∈ l, Word x) (hn : n ≤ 17592186043904) :
    Calls Tryd.prog 18 #[.slice A n c, .int .i64 (if s then 1 else -1)] w fun e w' => e = .returned (.tuple #[.float .f64 ((bstF s l).getD NC), .bool (bstF s l).isSome]) ∧ ∃ m, w' = w.drewN m := by
  have HR := Lib.hid hr
  have HL := Lib.hid hl
  have hlen := hr.1
  have H0 : Hid (bstF s (l.take 0) = none) := bst_nil s
  have HE : l.take n = l := by rw [← hlen, List.take_length]
  have hf := from_run 9221120237041090561
  have OS := Lib.hid (fun v x => ord_sign s v x)
  obtain ⟨g, hg⟩ : ∃ g : Int, (if s then (1 : Int) else -1) = g := ⟨_, rfl⟩
  rw [hg] at OS ⊢
  clear hr hl hg
  go_enter Tryd.func18, Tryd.ntmps18
  go_wp2
  go_loopw [6, 7, 8] (fun x fd i wr => ∃ (V : World) (k : Nat) (o : Option Nat), V = wr ∧ k ≤ n ∧ i = .int .i64 k ∧ x = .float .f64 (o.getD NC) ∧ fd = .bool o.isSome ∧ Hid (bstF s (l.take k) = o) ∧ Hid (∃ m, V = w.drewN m)) (fun _ _ i _ => n - (intOf i).toNat)
  case atStart => exact ⟨_, 0, none, rfl, Nat.zero_le _, rfl, rfl, rfl, H0, ⟨0, rfl⟩⟩
  case round =>
    rename_i wr
    obtain ⟨V, k, o, rfl, hkn, rfl, hx0, hf0, hJ, hV⟩ := hrel
    by_cases hlt : k < n
    · obtain ⟨b, off, rfl, hbl, hc⟩ := HR.out.2 (by omega)
      have c1 : V.cell? ⟨b, off + k, none⟩ = some (.float .f64 (numAt l k)) := by
        obtain ⟨m, e⟩ := hV.out
        rw [e]
        exact hc k hlt
      have k0 : (0 : Int) ≤ k := by omega
      have k1 : (k : Int) < n := by omega
      have k2 : (k : Int).toNat = k := by omega
      have hkl : k < l.length := by omega
      have hst := bst_take s hkl
      rw [hJ.out] at hst
      have hwv := HL.out _ (numAt_mem hkl)
      have hwo : ∀ x, o = some x → Word x := fun x e => bst_word (s := s) (l := l.take k) (fun v hv => HL.out v (List.mem_of_mem_take hv)) (hJ.out.trans e)
      obtain ⟨v, hv⟩ : ∃ v, numAt l k = v := ⟨_, rfl⟩
      rw [hv] at c1 hst hwv
      have E1 : (FloatKind.f64.format.order v v == some .eq) = !isN v := by
        show (FloatKind.f64.format.order v v == some .eq) = !(FloatKind.f64.format.order v v != some .eq)
        simp [bne]
      clear hc hv hJ
      unfold stepF at hst
      rcases hnv : isN v with _ | _
      · rw [hnv] at E1 hst
        simp only [Bool.false_eq_true, if_false, Bool.not_false] at hst E1
        cases o with
        | none =>
          have hx1 : _ = Value.float .f64 NC := hx0
          have hf1 : _ = Value.bool false := hf0
          subst hx1 hf1
          clear hx0 hf0
          have HS := Lib.hid hst
          clear hst hwo hnv
          go_wp2
          go_quiet (fail)
          go_wp2
          go_roundw
          case rel => exact ⟨_, k + 1, some v, rfl, by omega, by go_num, rfl, rfl, HS, drew_more hV⟩
          case measure => simp [intOf]; omega
        | some x =>
          have hx1 : _ = Value.float .f64 x := hx0
          have hf1 : _ = Value.bool true := hf0
          subst hx1 hf1
          clear hx0 hf0
          have OV : Hid (∀ n, Calls Tryd.prog 15 #[.float .f64 v, .float .f64 x] (V.drewN n) fun e w' => e = .returned (.int .i64 (ordV v x)) ∧ w' = V.drewN n) := fun n => (rorder_any v x (V.drewN n) hwv (hwo x rfl)).mono fun _ _ ⟨a, b⟩ => ⟨a, b.symm⟩
          have hst2 : bstF s (l.take (k + 1)) = if pickF s v x = true then some v else some x := hst
          have os := OS.out v x
          obtain ⟨y, hy⟩ : ∃ y, ordV v x = y := ⟨_, rfl⟩
          rw [hy] at OV os
          rcases hp : pickF s v x with _ | _
          · rw [hp] at hst2 os
            simp only [Bool.false_eq_true, if_false] at hst2
            have HS := Lib.hid hst2
            clear hst hst2 hwo hnv hp hy
            go_wp2
            go_quiet ((go_at_call 15; exact Calls.quiet_of_same (OV.out _)))
            go_wp2
            go_roundw
            case rel => exact ⟨_, k + 1, some x, rfl, by omega, by go_num, rfl, rfl, HS, drew_more hV⟩
            case measure => simp [intOf]; omega
          · rw [hp] at hst2 os
            simp only [if_true] at hst2
            have HS := Lib.hid hst2
            clear hst hst2 hwo hnv hp hy
            go_wp2
            go_quiet ((go_at_call 15; exact Calls.quiet_of_same (OV.out _)))
            go_wp2
            go_roundw
            case rel => exact ⟨_, k + 1, some v, rfl, by omega, by go_num, rfl, rfl, HS, drew_more hV⟩
            case measure => simp [intOf]; omega
      · rw [hnv] at E1 hst
        simp only [if_true, Bool.not_true] at hst E1
        subst hx0 hf0
        have HS := Lib.hid hst
        clear hst hwo hnv
        go_wp2
        go_quiet (fail)
        go_wp2
        go_roundw
        case rel => exact ⟨_, k + 1, o, rfl, by omega, by go_num, rfl, rfl, HS, drew_more hV⟩
        case measure => simp [intOf]; omega
    · have hk : k = n := by omega
      subst hx0 hf0
      subst hk
      have HB : Hid (bstF s l = o) := by have := hJ.out; rw [HE] at this; exact this
      clear hJ
      go_wp2
      go_ret2
      exact ⟨by rw [HB.out]; rfl, hV.out⟩
end Go.Proofs.YtplmflgmfffdhaaDoor
