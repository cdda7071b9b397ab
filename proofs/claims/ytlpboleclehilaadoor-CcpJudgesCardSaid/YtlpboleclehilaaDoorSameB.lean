/-
  tetherref01.Same of any two rows of bytes.
-/
import Derived.Test.YtlpboleclehilaaDoorSame
import Derived.Deep.RegionLaw
namespace Go.Proofs.YtlpboleclehilaaDoor
open Go.RowKit
set_option maxRecDepth 100000
set_option maxHeartbeats 4000000
set_option linter.unusedSimpArgs false
set_option linter.unusedVariables false

theorem bytes_ext {l k : List UInt8} (h : l.length = k.length) (he : ∀ j, j < l.length → byteAt l j = byteAt k j) : l = k := by
  refine List.ext_getElem h fun j h1 h2 => ?_
  exact byteAt_inj (he j h1) h1 h2
theorem same_any (A C : Option Addr) (n m ca cb : Nat) (l k : List UInt8) (w : World) (B : Nat) (ha : Rd w B A n l) (hb : Rd w B C m k) (hn : n ≤ maxLen) (hm : m ≤ maxLen) :
    Calls Tryd.prog 51 #[.slice A n ca, .slice C m cb] w fun e w' => e = .returned (.bool (decide (l = k))) ∧ ∃ q, w' = w.drewN q := by
  have hl := ha.1
  have hk := hb.1
  by_cases hnm : n = m
  · subst hnm
    unfold maxLen at hm
    have heq : ((n : Int) != (n : Int)) = false := by simp
    have Ha := Lib.hid ha
    have Hb := Lib.hid hb
    have HL := Lib.hid (And.intro hl hk)
    clear ha hb hl hk
    go_enter Tryd.func51, Tryd.ntmps51
    go_wp2
    go_loopw [5] (fun i wr => ∃ j : Nat, j ≤ n ∧ i = .int .i64 j ∧ Hid (∀ u, u < j → byteAt l u = byteAt k u) ∧ ∃ m, wr = w.drewN m) (fun i _ => n - (intOf i).toNat)
    case atStart => exact ⟨0, Nat.zero_le _, rfl, fun u hu => absurd hu (Nat.not_lt_zero _), 0, rfl⟩
    case round =>
      obtain ⟨j, hj, rfl, hE, q, rfl⟩ := hrel
      by_cases hlt : j < n
      · obtain ⟨a, o, rfl, _, hc⟩ := Ha.out.2 (by omega)
        obtain ⟨b, p, rfl, _, hd⟩ := Hb.out.2 (by omega)
        have h1 := hc j hlt
        have h2 := hd j hlt
        obtain ⟨x, hx⟩ : ∃ x, byteAt l j = x := ⟨_, rfl⟩
        obtain ⟨y, hy⟩ : ∃ y, byteAt k j = y := ⟨_, rfl⟩
        rw [hx] at h1
        rw [hy] at h2
        have HX := Lib.hid (And.intro hx hy)
        clear hc hd hx hy
        by_cases hxy : x = y
        · have hs : (x != y) = false := by simp [hxy]
          have HXY := Lib.hid hxy
          clear hxy
          go_wp2
          go_quiet (fail)
          go_wp2
          go_roundw
          case rel => exact ⟨j + 1, by omega, by go_num, (fun u hu => by
            rcases Nat.lt_succ_iff_lt_or_eq.1 hu with h | h
            · exact hE.out u h
            · rw [h, HX.out.1, HX.out.2, HXY.out]), _, rfl⟩
          case measure => simp [intOf]; omega
        · have hs : (x != y) = true := by simp [hxy]
          have HNE : Hid (¬ l = k) := fun e => hxy (by rw [← HX.out.1, ← HX.out.2, e])
          clear hxy
          go_wp2
          go_quiet (fail)
          go_wp2
          go_ret
          exact ⟨by rw [decide_eq_false HNE.out]; rfl, _, by simp; rfl⟩
      · have HEQ : Hid (l = k) := bytes_ext (by rw [HL.out.1, HL.out.2]) (fun u hu => hE.out u (by have := HL.out.1; omega))
        go_wp2
        go_ret
        exact ⟨by rw [decide_eq_true HEQ.out]; rfl, _, rfl⟩
  · unfold maxLen at hm hn
    have heq : ((n : Int) != (m : Int)) = true := by simp; omega
    have HNE : Hid (¬ l = k) := fun e => hnm (by rw [← hl, ← hk, e])
    clear ha hb hl hk hnm
    go_enter Tryd.func51, Tryd.ntmps51
    go_wp2
    go_ret
    exact ⟨by rw [decide_eq_false HNE.out]; rfl, 0, rfl⟩
end Go.Proofs.YtlpboleclehilaaDoor
