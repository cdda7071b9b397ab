/-
  meter's first, numberOf, Best, Worst; the reference's Best.
-/
import Derived.Test.YtplmflgmfffdhaaDoorMeBst
namespace Go.Proofs.YtplmflgmfffdhaaDoor
open Go.RowKit
set_option maxRecDepth 100000
set_option maxHeartbeats 1000000
set_option linter.unusedSimpArgs false
set_option linter.unusedVariables false

theorem isNumber_any (a : Nat) (w : World) : Calls Tryd.prog 59 #[.float .f64 a] w fun e w' => e = .returned (.bool (!isN a)) ∧ w = w' := by
  have H := Lib.hid (isNaN_any a)
  obtain ⟨b, hb⟩ : ∃ b, isN a = b := ⟨_, rfl⟩
  rw [hb] at H ⊢
  clear hb
  go_enter Tryd.func59, Tryd.ntmps59
  go_wp2_with (go_at_call 35; refine (H.out _).mono ?_; rintro e w' ⟨rfl, rfl⟩)
  go_ret
  exact ⟨rfl, rfl⟩
theorem worst1_any (a b : Nat) (w : World) (ha : Word a) (hb : Word b) : Calls Tryd.prog 44 #[.float .f64 a, .float .f64 b] w fun e w' => e = .returned (.int .i64 (ordV b a)) ∧ w = w' := by
  have H := Lib.hid (fun W => order_any b a W hb ha)
  obtain ⟨z, hz⟩ : ∃ z, ordV b a = z := ⟨_, rfl⟩
  rw [hz] at H ⊢
  clear hz ha hb
  go_enter Tryd.func44, Tryd.ntmps44
  go_wp2_with (go_at_call 14; refine (H.out _).mono ?_; rintro e w' ⟨rfl, rfl⟩)
  go_ret
  exact ⟨rfl, rfl⟩
/-- a function value that orders -/
def OrdC (f : Nat) (s : Bool) : Prop := ∀ (a b : Nat) (W : World), Word a → Word b → Calls Tryd.prog f #[.float .f64 a, .float .f64 b] W fun e w' => e = .returned (.int .i64 (ordS s a b)) ∧ W = w'
theorem ordC_best : OrdC 14 false := fun a b W ha hb => order_any a b W ha hb
theorem ordC_worst : OrdC 44 true := fun a b W ha hb => worst1_any a b W ha hb
theorem cf_number : ∀ a W, (callFunc 59 #[.float .f64 a]).run Tryd.prog W = .ok (.enter 59 #[.float .f64 a]) W := by
  intro a W
  kernel_rfl
theorem cf_order : ∀ a b W, (callFunc 14 #[.float .f64 a, .float .f64 b]).run Tryd.prog W = .ok (.enter 14 #[.float .f64 a, .float .f64 b]) W := by
  intro a b W
  kernel_rfl
theorem cf_worst : ∀ a b W, (callFunc 44 #[.float .f64 a, .float .f64 b]).run Tryd.prog W = .ok (.enter 44 #[.float .f64 a, .float .f64 b]) W := by
  intro a b W
  kernel_rfl
theorem first_any (f : Nat) (s : Bool) (A : Option Addr) (n c B : Nat) (l : List Nat) (w : World) (hcf : ∀ a b W, (callFunc f #[.float .f64 a, .float .f64 b]).run Tryd.prog W = .ok (.enter f #[.float .f64 a, .float .f64 b]) W) (hO : OrdC f s)
    (hr : RdF w B A n l) (hl : ∀ x ∈ l, Word x) (hn : n ≤ 17592186043904) :
    Calls Tryd.prog 58 #[.slice A n c, .func (.func 59) #[] #[], .func (.func f) #[] #[]] w fun e w' => e = .returned (.tuple #[.float .f64 ((bstF s l).getD 0), .bool (bstF s l).isSome]) ∧ ∃ m, w' = w.drewN m := by
  have HR := Lib.hid hr
  have HO := Lib.hid hO
  have HL := Lib.hid hl
  have hlen := hr.1
  have H0 : Hid (bstF s (l.take 0) = none) := bst_nil s
  have HE : l.take n = l := by rw [← hlen, List.take_length]
  have CN := cf_number
  clear hr hO hl
  go_enter Tryd.func58, Tryd.ntmps58
  go_wp2
  go_loopw [8, 9, 14] (fun x fd i wr => ∃ (k m : Nat) (o : Option Nat), k ≤ n ∧ i = .int .i64 k ∧ x = .float .f64 (o.getD 0) ∧ fd = .bool o.isSome ∧ Hid (bstF s (l.take k) = o) ∧ wr = w.drewN m) (fun _ _ i _ => n - (intOf i).toNat)
  case atStart => exact ⟨0, 0, none, Nat.zero_le _, rfl, rfl, rfl, H0, rfl⟩
  case round =>
    obtain ⟨k, m, o, hkn, rfl, rfl, rfl, hJ, rfl⟩ := hrel
    by_cases hlt : k < n
    · obtain ⟨b, off, rfl, hbl, hc⟩ := HR.out.2 (by omega)
      have c1 : (w.drewN m).cell? ⟨b, off + k, none⟩ = some (.float .f64 (numAt l k)) := hc k hlt
      have hkl : k < l.length := by omega
      have hst := bst_take s hkl
      rw [hJ.out] at hst
      have hwv := HL.out _ (numAt_mem hkl)
      have hwo : ∀ x, o = some x → Word x := fun x e => bst_word (s := s) (l := l.take k) (fun v hv => HL.out v (List.mem_of_mem_take hv)) (hJ.out.trans e)
      obtain ⟨v, hv⟩ : ∃ v, numAt l k = v := ⟨_, rfl⟩
      rw [hv] at c1 hst hwv
      have NV := Lib.hid (isNumber_any v)
      clear hc hv hJ
      unfold stepF at hst
      rcases hnv : isN v with _ | _
      · rw [hnv] at NV hst
        simp only [Bool.false_eq_true, if_false] at hst
        cases o with
        | none =>
          have HS := Lib.hid hst
          clear hst hwo hnv
          go_wp2_with fail
          refine (NV.out _).mono ?_
          rintro e W2 ⟨rfl, rfl⟩
          go_wp2
          go_roundw
          case rel => exact ⟨k + 1, _, some v, by omega, by go_num, rfl, rfl, HS, rfl⟩
          case measure => simp [intOf]; omega
        | some x =>
          have OV := Lib.hid (fun W => HO.out v x W hwv (hwo x rfl))
          rw [ordS_pick] at OV
          have hst2 : bstF s (l.take (k + 1)) = if pickF s v x = true then some v else some x := hst
          clear hst
          have hst := hst2
          clear hst2
          rcases hp : pickF s v x with _ | _
          · rw [hp] at hst OV
            simp only [Bool.false_eq_true, if_false] at hst OV
            have HS := Lib.hid hst
            obtain ⟨z, hz, hz0⟩ : ∃ z : Int, (if keyF v = keyF x then (0 : Int) else 1) = z ∧ 0 ≤ z := ⟨_, rfl, by split <;> omega⟩
            rw [hz] at OV
            clear hst hwo hnv hz hp
            go_wp2_with fail
            refine (NV.out _).mono ?_
            rintro e W2 ⟨rfl, rfl⟩
            go_wp2_with fail
            refine (OV.out _).mono ?_
            rintro e W2 ⟨rfl, rfl⟩
            go_wp2
            go_roundw
            case rel => exact ⟨k + 1, _, some x, by omega, by go_num, rfl, rfl, HS, rfl⟩
            case measure => simp [intOf]; omega
          · rw [hp] at hst OV
            simp only [if_true] at hst OV
            have HS := Lib.hid hst
            clear hst hwo hnv hp
            go_wp2_with fail
            refine (NV.out _).mono ?_
            rintro e W2 ⟨rfl, rfl⟩
            go_wp2_with fail
            refine (OV.out _).mono ?_
            rintro e W2 ⟨rfl, rfl⟩
            go_wp2
            go_roundw
            case rel => exact ⟨k + 1, _, some v, by omega, by go_num, rfl, rfl, HS, rfl⟩
            case measure => simp [intOf]; omega
      · rw [hnv] at NV hst
        simp only [if_true] at hst
        have HS := Lib.hid hst
        clear hst hwo hnv
        go_wp2_with fail
        refine (NV.out _).mono ?_
        rintro e W2 ⟨rfl, rfl⟩
        go_wp2
        go_roundw
        case rel => exact ⟨k + 1, _, o, by omega, by go_num, rfl, rfl, HS, rfl⟩
        case measure => simp [intOf]; omega
    · have hk : k = n := by omega
      subst hk
      have HB : Hid (bstF s l = o) := by have := hJ.out; rw [HE] at this; exact this
      clear hJ
      go_wp2
      go_ret2
      exact ⟨by rw [HB.out]; rfl, _, rfl⟩
end Go.Proofs.YtplmflgmfffdhaaDoor
