/-
  tetherref09.Fits of anything.
-/
import Derived.Test.YtlpboleclehilaaDoorOpFitD
import Derived.Test.YtlpboleclehilaaDoorOpRSub
namespace Go.Proofs.YtlpboleclehilaaDoor
open Go.RowKit
set_option maxRecDepth 100000
set_option maxHeartbeats 4000000
set_option linter.unusedSimpArgs false
set_option linter.unusedVariables false

def kindAt (t : List Opt) (j : Nat) : Int := (t.getD j (0, [])).1
theorem kindAt_eq {t : List Opt} {j : Nat} (h : j < t.length) : kindAt t j = t[j].1 := by
  unfold kindAt
  rw [List.getD_eq_getElem?_getD, List.getElem?_eq_getElem h]
  rfl
theorem srt_iff (s t : List Opt) : Srt s t ↔ ∀ j, j + 1 < t.length → plc s (kindAt t j) ≤ plc s (kindAt t (j + 1)) := by
  constructor
  · intro h j hj
    rw [kindAt_eq (by omega), kindAt_eq hj]
    exact h j hj
  · intro h j hj
    have := h j hj
    rw [kindAt_eq (by omega), kindAt_eq hj] at this
    exact this
/-- what the reference's loop has seen -/
def FI (q : Nat → Nat) (n i : Nat) (z : Int) (bh : Bool) : Prop := (∀ j, j + 1 < i → q j ≤ q (j + 1)) ∧ (bh = true → 0 < i ∧ q (i - 1) = n) ∧ (bh = false → (i = 0 ∧ z = -1) ∨ (0 < i ∧ q (i - 1) < n ∧ z = q (i - 1)))
theorem FI.none {q : Nat → Nat} {n i : Nat} {z : Int} {bh : Bool} (h : FI q n i z bh) (hq : ∀ j, q j ≤ n) (hi : q i = n) : FI q n (i + 1) z true := by
  refine ⟨fun j hj => ?_, fun _ => ⟨by omega, by rw [Nat.add_sub_cancel]; exact hi⟩, fun h => by cases h⟩
  by_cases hji : j + 1 < i
  · exact h.1 j hji
  · have : j + 1 = i := by omega
    rw [this, hi]
    exact hq j
theorem FI.found {q : Nat → Nat} {n i : Nat} {z : Int} (h : FI q n i z false) (hi : q i < n) (hz : z ≤ (q i : Nat)) : FI q n (i + 1) (q i : Nat) false := by
  refine ⟨fun j hj => ?_, (fun h => by cases h), fun _ => .inr ⟨by omega, by rw [Nat.add_sub_cancel]; exact hi, by rw [Nat.add_sub_cancel]⟩⟩
  by_cases hji : j + 1 < i
  · exact h.1 j hji
  · have e : j + 1 = i := by omega
    rcases h.2.2 rfl with ⟨h0, _⟩ | ⟨h0, h1, h2⟩
    · omega
    · have : i - 1 = j := by omega
      rw [this] at h2
      rw [e]
      omega
theorem rfits_any (code : Int) (A D : Option Addr) (n c m d B : Nat) (s t : List Opt) (R : Bool) (hR : R = true ↔ Srt s t) (w : World) (hr : OptRd w B A n s) (hq : OptRd w B D m t) (hB : B ≤ w.heap.size) (hn : n ≤ 4398046511104) (hm : m ≤ 4398046511104) :
    Calls Tryd.prog 16 #[.int .i64 code, .slice A n c, .slice D m d] w fun e w' => e = .returned (.tuple #[.bool (fitB code s t R), .int .i64 (fitE code)]) ∧ Below w.heap.size w w' := by
  have hl := hq.1
  have hls := hr.1
  by_cases h2 : code = 2
  · subst h2
    have SM := Lib.hid (rsame_any A D n m c d B s t w hr hq hB hn hm)
    have E : Hid (fitB 2 s t R = decide (s = t)) := by show _ = _; rfl
    clear hr hq
    generalize decide (s = t) = b at *
    generalize fitB 2 s t R = fb at *
    go_enter Tryd.func16, Tryd.ntmps16
    go_wp2_with (go_at_call 9; ((with_reducible refine SM.out.mono ?_); rintro e v ⟨rfl, h3⟩; have H3 := Lib.hid h3; clear h3))
    go_ret2
    exact ⟨by rw [E.out]; rfl, H3.out⟩
  by_cases h3 : code = 3
  · subst h3
    have hR2 := hR.trans (srt_iff s t)
    obtain ⟨q, hqq⟩ : ∃ q : Nat → Nat, q = fun j => plc s (kindAt t j) := ⟨_, rfl⟩
    have hqe : ∀ j, plc s (kindAt t j) = q j := fun j => by rw [hqq]
    have hqn : ∀ j, q j ≤ n := fun j => by rw [← hqe, ← hls]; exact plc_le _ _
    have HRR : Hid (R = true ↔ ∀ j, j + 1 < m → q j ≤ q (j + 1)) := by
      show _ ↔ _
      rw [hR2, hl]
      constructor
      · intro h j hj; rw [← hqe, ← hqe]; exact h j hj
      · intro h j hj; rw [hqe, hqe]; exact h j hj
    have E : Hid (fitB 3 s t R = (decide (0 < m) && R) ∧ fitE 3 = 0) := by show _ ∧ _; unfold fitB fitE; simp [hl]
    have HR0 := Lib.hid hr
    have HQ := Lib.hid (hq.wide hB)
    have HQE := Lib.hid hqe
    have HQN := Lib.hid hqn
    clear hr hq hR2 hR hqe hqq hqn
    generalize fitB 3 s t R = fb at *
    generalize fitE 3 = fe at *
    go_enter Tryd.func16, Tryd.ntmps16
    go_wp2
    go_loop [8, 9, 10] (fun v u i => ∃ (k : Nat) (z : Int) (bh : Bool), k ≤ m ∧ i = .int .i64 k ∧ v = .int .i64 z ∧ u = .bool bh ∧ -1 ≤ z ∧ z ≤ 4398046511104 ∧ Hid (FI q n k z bh)) (fun _ _ i => m - (intOf i).toNat)
    case atStart => exact ⟨0, -1, false, Nat.zero_le _, rfl, rfl, rfl, by omega, by omega, (fun j hj => by omega), (fun h => by cases h), fun _ => .inl ⟨rfl, rfl⟩⟩
    case round =>
      obtain ⟨k, z, bh, hk, rfl, rfl, rfl, hz0, hz1, hI⟩ := hrel
      by_cases hlt : k < m
      · obtain ⟨b, off, rfl, hb, hc⟩ := HQ.out.2 (by omega)
        obtain ⟨x1, -⟩ := hc k (by omega)
        rw [← kindAt_eq (show k < t.length by omega)] at x1
        have PL := rplace_any A n c B s (kindAt t k) w HR0.out hn
        rw [HQE.out k] at PL
        have hqk := HQN.out k
        generalize kindAt t k = J at *
        by_cases hp : q k < n
        · rw [if_pos hp] at PL
          have hq0 : ¬ (((q k : Nat) : Int) < 0) := by omega
          cases bh
          · by_cases hzq : (q k : Int) < z
            · have HS : Hid (R = false) := by
                show _ = _
                rw [Bool.eq_false_iff]
                intro h
                rcases hI.out.2.2 rfl with ⟨h0, h1⟩ | ⟨h0, h1, h2⟩
                · omega
                · have h3 := HRR.out.1 h (k - 1) (by omega)
                  rw [Nat.sub_add_cancel (by omega)] at h3
                  omega
              have P1 := Lib.hid PL
              clear PL hI hc
              generalize ((q k : Nat) : Int) = qk at *
              go_wp2_with (go_at_call 39; ((with_reducible refine P1.out.mono ?_); rintro e v ⟨rfl, rfl⟩))
              go_ret2
              exact ⟨by rw [E.out.1, E.out.2, HS.out, Bool.and_false]; rfl, Below.refl _ _⟩
            · have HN : Hid (FI q n (k + 1) (q k : Nat) false) := hI.out.found hp (by omega)
              have P1 := Lib.hid PL
              clear PL hI hc
              have hq1 : ((q k : Nat) : Int) ≤ 4398046511104 := by omega
              have hq2 : -1 ≤ ((q k : Nat) : Int) := by omega
              generalize ((q k : Nat) : Int) = qk at *
              go_wp2_with (go_at_call 39; ((with_reducible refine P1.out.mono ?_); rintro e v ⟨rfl, rfl⟩))
              go_round
              case rel => exact ⟨k + 1, qk, false, by omega, by go_num, rfl, rfl, hq2, hq1, HN.out⟩
              case measure => simp [intOf]; omega
          · have HS : Hid (R = false) := by
              show _ = _
              rw [Bool.eq_false_iff]
              intro h
              obtain ⟨h0, h1⟩ := hI.out.2.1 rfl
              have h3 := HRR.out.1 h (k - 1) (by omega)
              rw [Nat.sub_add_cancel (by omega)] at h3
              omega
            have P1 := Lib.hid PL
            clear PL hI hc
            generalize ((q k : Nat) : Int) = qk at *
            go_wp2_with (go_at_call 39; ((with_reducible refine P1.out.mono ?_); rintro e v ⟨rfl, rfl⟩))
            go_ret2
            exact ⟨by rw [E.out.1, E.out.2, HS.out, Bool.and_false]; rfl, Below.refl _ _⟩
        · rw [if_neg hp] at PL
          have HN : Hid (FI q n (k + 1) z true) := hI.out.none HQN.out (by omega)
          have P1 := Lib.hid PL
          clear PL hI hc
          go_wp2_with (go_at_call 39; ((with_reducible refine P1.out.mono ?_); rintro e v ⟨rfl, rfl⟩))
          go_round
          case rel => exact ⟨k + 1, z, true, by omega, by go_num, rfl, rfl, hz0, hz1, HN.out⟩
          case measure => simp [intOf]; omega
      · have hkm : k = m := by omega
        have HS : Hid (R = true) := HRR.out.2 (fun j hj => hI.out.1 j (by omega))
        have hd : decide ((0 : Int) < (m : Int)) = decide (0 < m) := by by_cases h : 0 < m <;> simp [h]
        have HD := Lib.hid hd
        clear hI hd
        go_wp2
        go_ret2
        exact ⟨by rw [E.out.1, E.out.2, HS.out, Bool.and_true, ← HD.out]; rfl, Below.refl _ _⟩
  by_cases h4 : code = 4
  · subst h4
    have SB := Lib.hid (rsubset_any D A m n d c B t s w hq hr hB hm hn)
    rcases Nat.eq_zero_or_pos m with h0 | h0
    · have E : Hid (fitB 4 s t R = false) := by show _ = _; unfold fitB; simp [hl, h0]
      clear hr hq
      generalize fitB 4 s t R = fb at *
      subst h0
      go_enter Tryd.func16, Tryd.ntmps16
      go_wp2
      go_ret2
      exact ⟨by rw [E.out]; rfl, Below.refl _ _⟩
    · have E : Hid (fitB 4 s t R = decide (s.foldl eat t = [])) := by show _ = _; unfold fitB; simp [hl, h0]
      have hd : (0 : Int) < (m : Int) := by omega
      clear hr hq
      generalize fitB 4 s t R = fb at *
      generalize decide (s.foldl eat t = []) = b at *
      go_enter Tryd.func16, Tryd.ntmps16
      go_wp2_with (go_at_call 38; ((with_reducible refine SB.out.mono ?_); rintro e v ⟨rfl, h3⟩; have H3 := Lib.hid h3; clear h3))
      go_ret2
      exact ⟨by rw [E.out]; rfl, H3.out⟩
  · have E : Hid (fitB code s t R = false ∧ fitE code = 90) := by show _ ∧ _; unfold fitB fitE; simp [h2, h3, h4]
    have e2 : (code == 2) = false := by simpa using h2
    have e3 : (code == 3) = false := by simpa using h3
    have e4 : (code == 4) = false := by simpa using h4
    clear hr hq h2 h3 h4
    generalize fitB code s t R = fb at *
    generalize fitE code = fe at *
    go_enter Tryd.func16, Tryd.ntmps16
    go_wp2
    go_ret2
    exact ⟨by rw [E.out.1, E.out.2]; rfl, Below.refl _ _⟩
end Go.Proofs.YtlpboleclehilaaDoor
