/-
  The law AutoEnds: the walk.
-/
import Derived.Test.YtpkmddagcfjadaaDoorAuTime
import Derived.Test.YtpkmddagcfjadaaDoorAuOps
namespace Go.Proofs.YtpkmddagcfjadaaDoor
open Go.RowKit
set_option maxRecDepth 100000
set_option maxHeartbeats 4000000
set_option linter.unusedSimpArgs false
set_option linter.unusedVariables false

def EndJ (w W : World) (g : Nat) (mc mt s c : Int) : Prop := AuB W g s c mc mt ∧ (0 ≤ c ∧ c ≤ 255) ∧ Below w.heap.size w W
theorem EndJ.drawn {w W W' : World} {g : Nat} {mc mt s c s' c' : Int} (h : EndJ w W g mc mt s c) (hg : w.heap.size ≤ g) (ha : AuB W' g s' c' mc mt) (hc : 0 ≤ c' ∧ c' ≤ 255) (hr : W.grownBy W' (some g)) : EndJ w W' g mc mt s' c' :=
  ⟨ha, hc, h.2.2.grown hr h.2.2.size (fun j e => by injection e; omega)⟩
theorem EndJ.alloc {w W : World} {g : Nat} {mc mt s c : Int} (h : EndJ w W g mc mt s c) (o : Obj) : EndJ w (W.alloc o) g mc mt s c :=
  ⟨h.1.below ((Below.refl W.heap.size W).alloc (Nat.le_refl _) o) h.1.lt, h.2.1, h.2.2.alloc h.2.2.size o⟩
theorem EndJ.then_ {w W W' : World} {g : Nat} {mc mt s c : Int} (h : EndJ w W g mc mt s c) (hb : Below W.heap.size W W') : EndJ w W' g mc mt s c :=
  ⟨h.1.below hb h.1.lt, h.2.1, h.2.2.trans (hb.mono h.2.2.size)⟩
section
variable {w W : World} {g : Nat} {mc mt s c : Int} (h : EndJ w W g mc mt s c) (hg : w.heap.size ≤ g) (h1 : 0 ≤ mc ∧ mc ≤ 255) (h2 : 0 ≤ mt ∧ mt ≤ 255) (hT : TabA w)
include h hg h1 h2 hT
theorem EndJ.do_ (e : Int) : Calls Tryd.prog 33 #[.pointer (some ⟨g, 0, none⟩), .int .i64 e] W fun r w' => ∃ v, r = .returned (.tuple #[v, .int .i64 (doE s c e)]) ∧ OwnI w' W.heap.size v (doA s c e) ∧ EndJ w w' g mc mt (doS s c e) (doC s c mc mt e) ∧ W.grownBy w' (some g) := by
  refine (do_any g s c mc mt e W h.1 (hT.keptB h.2.2 hT.lt) h1 h2 h.2.1).mono ?_
  rintro r w' ⟨v, rfl, ho, ha, hr⟩
  exact ⟨v, rfl, ho, h.drawn hg ha (doC_bounds h1 h2 h.2.1) hr, hr⟩
theorem EndJ.timeout : Calls Tryd.prog 32 #[.pointer (some ⟨g, 0, none⟩)] W fun r w' => ∃ v, r = .returned (.tuple #[v, .int .i64 (toE s c)]) ∧ OwnI w' W.heap.size v (toA s c) ∧ EndJ w w' g mc mt (toS s c) (toC s c mc mt) ∧ W.grownBy w' (some g) := by
  refine (timeout_any g s c mc mt W h.1 (hT.keptB h.2.2 hT.lt) h1 h2 h.2.1).mono ?_
  rintro r w' ⟨v, rfl, ho, ha, hr⟩
  exact ⟨v, rfl, ho, h.drawn hg ha (toC_bounds h1 h2 h.2.1) hr, hr⟩
end
theorem EndJ.awake {w W : World} {g : Nat} {mc mt s c : Int} (h : EndJ w W g mc mt s c) (hT : TabA w) (hN : TabN w) : Calls Tryd.prog 21 #[] W fun e w' => e = .returned (.bool true) ∧ EndJ w w' g mc mt s c := by
  refine (awake_any W (hT.keptB h.2.2 hT.lt) (hN.keptB h.2.2 hN.lt)).mono ?_
  rintro r w' ⟨rfl, hb⟩
  exact ⟨rfl, h.then_ hb⟩
/-- round j of the timeouts, of cn and one more -/
def EndK (cn j : Nat) (s c : Int) : Prop := (j ≤ cn ∧ (4 ≤ s ∧ s ≤ 8) ∧ c = (cn : Int) - j) ∨ (j = cn + 1 ∧ (s = 2 ∨ s = 3))
theorem EndK.start {cn : Nat} {s : Int} (h : 4 ≤ s ∧ s ≤ 8) : EndK cn 0 s cn := .inl ⟨Nat.zero_le _, h, by simp⟩
theorem EndK.step {cn j : Nat} {s c mc mt : Int} (hj : j ≤ cn) (hs : 4 ≤ s ∧ s ≤ 8) (hc : c = (cn : Int) - j) : toE s c = 0 ∧ EndK cn (j + 1) (toS s c) (toC s c mc mt) := by
  by_cases h : 0 < c
  · obtain ⟨h1, h2, h3⟩ := to_down (mc := mc) (mt := mt) hs h
    exact ⟨h1, .inl ⟨by omega, h2, by rw [h3]; omega⟩⟩
  · obtain ⟨h1, h2⟩ := to_over (mc := mc) (mt := mt) hs (show c = 0 by omega)
    exact ⟨h1, .inr ⟨by omega, h2⟩⟩
theorem autoends_walk (mc mt : Int) (A : Option Addr) (n cap : Nat) (K N : Nat → Int) (w : World) (hr : OpsAt w w.heap.size A n K N) (hn : n ≤ 8796093021952) (hT : TabA w) (hNm : TabN w) :
    Calls Tryd.prog 9 #[.int .i64 mc, .int .i64 mt, .slice A n cap] w fun e w' => e = .returned (.bool true) ∧ Below w.heap.size w w' := by
  by_cases hok : (1 ≤ mc ∧ mc ≤ 255) ∧ (1 ≤ mt ∧ mt ≤ 255)
  · have b1 : Hid (0 ≤ mc ∧ mc ≤ 255) := ⟨by omega, hok.1.2⟩
    have b2 : Hid (0 ≤ mt ∧ mt ≤ 255) := ⟨by omega, hok.2.2⟩
    have NW := Lib.hid (new_yes mc mt w hok.1 hok.2)
    have HR := Lib.hid hr
    have HT := Lib.hid hT
    have HN := Lib.hid hNm
    clear hok hr hT hNm
    go_enter Tryd.func9, Tryd.ntmps9
    go_wp2_with (go_at_call 26; refine NW.out.mono ?_; rintro e w1 ⟨rfl, ha, hb⟩; have HJ0 : Hid (EndJ w w1 w.heap.size mc mt 0 0) := ⟨ha, by omega, hb⟩; clear ha hb NW)
    go_loopw [24] (fun i wr => ∃ (k : Nat) (s c : Int), k ≤ n ∧ i = .int .i64 k ∧ EndJ w wr w.heap.size mc mt s c) (fun i _ => n - (intOf i).toNat)
    case atStart => exact ⟨0, 0, 0, Nat.zero_le _, rfl, HJ0.out⟩
    case round =>
      rename_i wr
      obtain ⟨k, s, c, hk, rfl, hj⟩ := hrel
      have hsz := hj.2.2.size
      have hgl := hj.1.lt
      by_cases hlt : k < n ∧ k < 1000
      · obtain ⟨hkn, hk1⟩ := hlt
        obtain ⟨b, off, rfl, hbl, hc⟩ := (HR.out.below hj.2.2 (Nat.le_refl _)) (by omega)
        obtain ⟨q1, q2, q3, q4⟩ := hc k hkn
        have HJ := Lib.hid hj
        clear hj hc
        by_cases h1 : K k = 1
        · rw [h1] at q1
          clear h1
          go_wp2_with (go_at_call 32; refine (((HJ.out.alloc _).timeout (Nat.le_refl _) b1.out b2.out HT.out)).mono ?_; rintro e w2 ⟨v, rfl, _, hj2, _⟩; have HJ2 := Lib.hid hj2; clear hj2)
          go_roundw
          case rel => exact ⟨k + 1, _, _, by omega, by go_num, HJ2.out⟩
          case measure => simp [intOf]; omega
        · have t1 : (K k == 1) = false := by simpa using h1
          obtain ⟨z, hz⟩ : ∃ z, K k = z := ⟨_, rfl⟩
          obtain ⟨y, hy⟩ : ∃ y, N k = y := ⟨_, rfl⟩
          rw [hz] at q1 t1 q3
          rw [hy] at q2 q4
          clear h1 hz hy
          go_wp2_with (go_at_call 33; refine (((HJ.out.alloc _).do_ (Nat.le_refl _) b1.out b2.out HT.out _)).mono ?_; rintro e w2 ⟨v, rfl, _, hj2, _⟩; have HJ2 := Lib.hid hj2; clear hj2)
          go_roundw
          case rel => exact ⟨k + 1, _, _, by omega, by go_num, HJ2.out⟩
          case measure => simp [intOf]; omega
      · by_cases hkn : k < n
        · obtain ⟨b, off, rfl, hbl, hc⟩ := (HR.out.below hj.2.2 (Nat.le_refl _)) (by omega)
          obtain ⟨q1, q2, q3, q4⟩ := hc k hkn
          have hk2 : ¬ k < 1000 := fun h => hlt ⟨hkn, h⟩
          have HJ := Lib.hid hj
          clear hj hc hlt
          cases hrn : runsB s with
          | false =>
            have RB := Lib.hid hrn
            have TE : Hid (toE s c = 290) := (to_not (c := c) (mc := mc) (mt := mt) hrn).1
            clear hrn
            go_wp2_with (first
              | (go_at_call 35; refine (running_any _ _ _ _ _ _ (HJ.out.alloc _).1).mono ?_; rintro e w2 ⟨rfl, rfl⟩; rw [RB.out])
              | (go_at_call 32; refine ((HJ.out.alloc _).timeout (Nat.le_refl _) b1.out b2.out HT.out).mono ?_; rintro e w2 ⟨v, rfl, ho, hj2, _⟩; obtain ⟨A0, c0, rfl, _, _⟩ := ho.slice; rw [TE.out]; have HJ2 := Lib.hid hj2; clear ho hj2 HJ)
              | (go_at_call 21; refine (HJ2.out.awake HT.out HN.out).mono ?_; rintro e w3 ⟨rfl, hj3⟩; have HJ3 := Lib.hid hj3; clear hj3))
            go_ret
            exact ⟨rfl, HJ3.out.2.2⟩
          | true =>
            have RB := Lib.hid hrn
            have hs48 : 4 ≤ s ∧ s ≤ 8 := of_decide_eq_true hrn
            have HS := Lib.hid hs48
            obtain ⟨cn, rfl⟩ := Int.eq_ofNat_of_zero_le (HJ.out).2.1.1
            have hcn : cn ≤ 255 := by have := (HJ.out).2.1.2; omega
            clear hrn hs48
            go_wp2_with (first
              | (go_at_call 35; refine (running_any _ _ _ _ _ _ (HJ.out.alloc _).1).mono ?_; rintro e w2 ⟨rfl, rfl⟩; rw [RB.out])
              | (go_at_call 36; refine (count_any _ _ _ _ _ _ (HJ.out.alloc _).1).mono ?_; rintro e w2 ⟨rfl, rfl⟩))
            go_loopw [13] (fun i wr2 => ∃ (j : Nat) (s2 c2 : Int), i = .int .i64 j ∧ EndJ w wr2 w.heap.size mc mt s2 c2 ∧ EndK cn j s2 c2) (fun i _ => cn + 1 - (intOf i).toNat)
            case atStart => exact ⟨0, s, cn, rfl, HJ.out.alloc _, EndK.start HS.out⟩
            case round =>
              rename_i wr2
              obtain ⟨j, s2, c2, rfl, hj2, hk2⟩ := hrel
              have hgl2 := hj2.1.lt
              have HJ2 := Lib.hid hj2
              clear hj2
              rcases hk2 with ⟨hjc, hs2, hc2⟩ | ⟨rfl, hs2⟩
              · obtain ⟨te, tk⟩ := EndK.step (mc := mc) (mt := mt) hjc hs2 hc2
                have TE := Lib.hid te
                have TK := Lib.hid tk
                have RB2 : Hid (runsB s2 = true) := decide_eq_true hs2
                clear te tk hs2 hc2 RB HS
                go_wp2_with (first
                  | (go_at_call 35; refine (running_any _ _ _ _ _ _ HJ2.out.1).mono ?_; rintro e w2 ⟨rfl, rfl⟩; rw [RB2.out])
                  | (go_at_call 32; refine (HJ2.out.timeout (Nat.le_refl _) b1.out b2.out HT.out).mono ?_; rintro e w3 ⟨v, rfl, ho, hj3, _⟩; obtain ⟨A0, c0, rfl, _, _⟩ := ho.slice; rw [TE.out]; have HJ3 := Lib.hid hj3; clear ho hj3))
                go_roundw
                case rel => exact ⟨j + 1, _, _, by go_num, HJ3.out, TK.out⟩
                case measure => simp [intOf]; omega
              · have RB2 : Hid (runsB s2 = false) := by rcases hs2 with rfl | rfl <;> rfl
                clear RB HS
                rcases hs2 with rfl | rfl
                all_goals
                  go_wp2_with (first
                    | (go_at_call 35; refine (running_any _ _ _ _ _ _ HJ2.out.1).mono ?_; rintro e w2 ⟨rfl, rfl⟩; rw [RB2.out])
                    | (go_at_call 34; refine (state_any _ _ _ _ _ _ HJ2.out.1).mono ?_; rintro e w2 ⟨rfl, rfl⟩)
                    | (go_at_call 21; refine (HJ2.out.awake HT.out HN.out).mono ?_; rintro e w3 ⟨rfl, hj3⟩; have HJ3 := Lib.hid hj3; clear hj3))
                  go_ret
                  exact ⟨rfl, HJ3.out.2.2⟩
        · have HJ := Lib.hid hj
          clear hj hlt
          cases hrn : runsB s with
          | false =>
            have RB := Lib.hid hrn
            have TE : Hid (toE s c = 290) := (to_not (c := c) (mc := mc) (mt := mt) hrn).1
            clear hrn
            go_wp2_with (first
              | (go_at_call 35; refine (running_any _ _ _ _ _ _ (HJ.out).1).mono ?_; rintro e w2 ⟨rfl, rfl⟩; rw [RB.out])
              | (go_at_call 32; refine ((HJ.out).timeout (Nat.le_refl _) b1.out b2.out HT.out).mono ?_; rintro e w2 ⟨v, rfl, ho, hj2, _⟩; obtain ⟨A0, c0, rfl, _, _⟩ := ho.slice; rw [TE.out]; have HJ2 := Lib.hid hj2; clear ho hj2 HJ)
              | (go_at_call 21; refine (HJ2.out.awake HT.out HN.out).mono ?_; rintro e w3 ⟨rfl, hj3⟩; have HJ3 := Lib.hid hj3; clear hj3))
            go_ret
            exact ⟨rfl, HJ3.out.2.2⟩
          | true =>
            have RB := Lib.hid hrn
            have hs48 : 4 ≤ s ∧ s ≤ 8 := of_decide_eq_true hrn
            have HS := Lib.hid hs48
            obtain ⟨cn, rfl⟩ := Int.eq_ofNat_of_zero_le (HJ.out).2.1.1
            have hcn : cn ≤ 255 := by have := (HJ.out).2.1.2; omega
            clear hrn hs48
            go_wp2_with (first
              | (go_at_call 35; refine (running_any _ _ _ _ _ _ (HJ.out).1).mono ?_; rintro e w2 ⟨rfl, rfl⟩; rw [RB.out])
              | (go_at_call 36; refine (count_any _ _ _ _ _ _ (HJ.out).1).mono ?_; rintro e w2 ⟨rfl, rfl⟩))
            go_loopw [13] (fun i wr2 => ∃ (j : Nat) (s2 c2 : Int), i = .int .i64 j ∧ EndJ w wr2 w.heap.size mc mt s2 c2 ∧ EndK cn j s2 c2) (fun i _ => cn + 1 - (intOf i).toNat)
            case atStart => exact ⟨0, s, cn, rfl, HJ.out, EndK.start HS.out⟩
            case round =>
              rename_i wr2
              obtain ⟨j, s2, c2, rfl, hj2, hk2⟩ := hrel
              have hgl2 := hj2.1.lt
              have HJ2 := Lib.hid hj2
              clear hj2
              rcases hk2 with ⟨hjc, hs2, hc2⟩ | ⟨rfl, hs2⟩
              · obtain ⟨te, tk⟩ := EndK.step (mc := mc) (mt := mt) hjc hs2 hc2
                have TE := Lib.hid te
                have TK := Lib.hid tk
                have RB2 : Hid (runsB s2 = true) := decide_eq_true hs2
                clear te tk hs2 hc2 RB HS
                go_wp2_with (first
                  | (go_at_call 35; refine (running_any _ _ _ _ _ _ HJ2.out.1).mono ?_; rintro e w2 ⟨rfl, rfl⟩; rw [RB2.out])
                  | (go_at_call 32; refine (HJ2.out.timeout (Nat.le_refl _) b1.out b2.out HT.out).mono ?_; rintro e w3 ⟨v, rfl, ho, hj3, _⟩; obtain ⟨A0, c0, rfl, _, _⟩ := ho.slice; rw [TE.out]; have HJ3 := Lib.hid hj3; clear ho hj3))
                go_roundw
                case rel => exact ⟨j + 1, _, _, by go_num, HJ3.out, TK.out⟩
                case measure => simp [intOf]; omega
              · have RB2 : Hid (runsB s2 = false) := by rcases hs2 with rfl | rfl <;> rfl
                clear RB HS
                rcases hs2 with rfl | rfl
                all_goals
                  go_wp2_with (first
                    | (go_at_call 35; refine (running_any _ _ _ _ _ _ HJ2.out.1).mono ?_; rintro e w2 ⟨rfl, rfl⟩; rw [RB2.out])
                    | (go_at_call 34; refine (state_any _ _ _ _ _ _ HJ2.out.1).mono ?_; rintro e w2 ⟨rfl, rfl⟩)
                    | (go_at_call 21; refine (HJ2.out.awake HT.out HN.out).mono ?_; rintro e w3 ⟨rfl, hj3⟩; have HJ3 := Lib.hid hj3; clear hj3))
                  go_ret
                  exact ⟨rfl, HJ3.out.2.2⟩
  · have NW := Lib.hid (new_no mc mt w hok)
    have AW := Lib.hid (awake_any w hT hNm)
    clear hok hr hT hNm
    go_enter Tryd.func9, Tryd.ntmps9
    go_wp2_with (first
      | (go_at_call 26; refine NW.out.mono ?_; rintro e w1 ⟨rfl, rfl⟩)
      | (go_at_call 21; refine AW.out.mono ?_; rintro e w' ⟨rfl, hb⟩; have HB := Lib.hid hb; clear hb))
    go_ret
    exact ⟨rfl, HB.out⟩
end Go.Proofs.YtpkmddagcfjadaaDoor
