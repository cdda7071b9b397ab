/-
  tetherref22: says, deflate, bsd, borne.
  tetherref22: twice, last.
  tetherref22: Nak, Reject.
  tetherref22.other.
-/
import Derived.Test.YtlpboleclehilaaDoorCcSmall
import Derived.Test.YtlpboleclehilaaDoorCcRound
import Derived.Test.YtlpboleclehilaaDoorOpTail
import Derived.BigQuiet
import Derived.Test.YtlpboleclehilaaDoorCcRej
namespace Go.Proofs.YtlpboleclehilaaDoor
open Go.RowKit
set_option maxRecDepth 100000
set_option maxHeartbeats 4000000
set_option linter.unusedSimpArgs false
set_option linter.unusedVariables false

theorem sayD_two (a b : UInt8) : sayD [a, b] = (if a.toNat % 16 = 8 ∧ a.toNat < 128 ∧ b = 0 then (8 : Int) + ((a.toNat / 16 : Nat) : Int) else (0 : Int)) := rfl
theorem sayB_one (a : UInt8) : sayB [a] = if 41 ≤ a.toNat ∧ a.toNat ≤ 47 then (a.toNat : Int) - 32 else 0 := rfl
theorem says_len26 {l : List UInt8} (h : l.length ≠ 2) : says 26 l = 0 := by
  show sayD l = 0
  unfold sayD
  split
  · simp at h
  · rfl
theorem says_len21 {l : List UInt8} (h : l.length ≠ 1) : says 21 l = 0 := by
  show sayB l = 0
  unfold sayB
  split
  · simp at h
  · rfl
theorem says_no {K : Int} {l : List UInt8} (h1 : K ≠ 26) (h2 : K ≠ 21) : says K l = 0 := by unfold says; rw [if_neg h1, if_neg h2]
theorem rsays_any (K : Int) (D : Option Addr) (m c B : Nat) (l : List UInt8) (w : World) (hr : Rd w B D m l) (hB : B ≤ w.heap.size) :
    Calls Tryd.prog 48 #[.agg #[.int .i64 K, .slice D m c]] w fun e w' => e = .returned (.int .i64 (says K l)) ∧ Below w.heap.size w w' := by
  obtain ⟨W1, hW1⟩ : ∃ W1, w.alloc (.cells #[.int .i64 K, .slice D m c] 61) = W1 := ⟨_, rfl⟩
  have k1 : Blk W1 w.heap.size 61 [.int .i64 K, .slice D m c] := by rw [← hW1]; exact blk_new w _ _
  have B1 : Below w.heap.size w W1 := by rw [← hW1]; exact (Below.refl _ _).alloc (Nat.le_refl _) _
  have HW := Lib.hid hW1
  have HB1 := Lib.hid B1
  have hr1 := hr.below (B1.mono hB)
  have hl := hr.1
  have c0 := k1.cell 0
  have c1 := k1.cell 1
  clear hW1 k1 hr
  by_cases h26 : K = 26
  · subst h26
    by_cases hm : m = 2
    · subst hm
      obtain ⟨b, off, rfl, hb, hc⟩ := hr1.2 (by omega)
      rcases l with _ | ⟨x, _ | ⟨y, _ | ⟨z, l⟩⟩⟩
      · simp at hl
      · simp at hl
      · have x0 : W1.cell? ⟨b, off, none⟩ = some (.int .u8 (x.toNat : Int)) := hc 0 (by omega)
        have x1 : W1.cell? ⟨b, off + 1, none⟩ = some (.int .u8 (y.toNat : Int)) := hc 1 (by omega)
        have hs : says 26 [x, y] = (if x.toNat % 16 = 8 ∧ x.toNat < 128 ∧ y.toNat = 0 then (8 : Int) + ((x.toNat / 16 : Nat) : Int) else (0 : Int)) := by
          show sayD [x, y] = _
          rw [sayD_two]
          have e : (y = 0) ↔ (y.toNat = 0) := ⟨fun e => by rw [e]; rfl, fun e => UInt8.toNat_inj.1 e⟩
          simp only [e]
        have hxlt := x.toNat_lt
        have hylt := y.toNat_lt
        obtain ⟨p, hp⟩ : ∃ p, x.toNat = p := ⟨_, rfl⟩
        obtain ⟨q, hq⟩ : ∃ q, y.toNat = q := ⟨_, rfl⟩
        rw [hp] at x0 hs hxlt
        rw [hq] at x1 hs hylt
        have e1 : (p : Int).tmod 16 = ((p % 16 : Nat) : Int) := by rw [Int.tmod_eq_emod_of_nonneg (by omega)]; omega
        by_cases g1 : p % 16 = 8
        · rw [g1] at e1
          by_cases g2 : p < 128
          · have g2' : (p : Int) < 128 := by omega
            by_cases g3 : q = 0
            · subst g3
              rw [if_pos ⟨g1, g2, rfl⟩] at hs
              obtain ⟨t, ht⟩ : ∃ t : Nat, p / 16 = t := ⟨_, rfl⟩
              have ht2 : t ≤ 7 := by omega
              have e2 : (p : Int).tdiv 16 = (t : Int) := by rw [Int.tdiv_eq_ediv_of_nonneg (by omega)]; omega
              rw [ht] at hs
              have HS := Lib.hid hs
              clear hs hc hr1 hp hq g1 ht B1 hb hB
              go_enter Tryd.func48, Tryd.ntmps48
              go_wp2_with (rw [HW.out])
              go_ret
              exact ⟨by rw [HS.out]; rfl, HB1.out⟩
            · rw [if_neg (fun h => g3 h.2.2)] at hs
              have HS := Lib.hid hs
              have e3 : ((q : Int) == 0) = false := by simp; omega
              clear hs hc hr1 hp hq g1 g3 B1 hb hB
              go_enter Tryd.func48, Tryd.ntmps48
              go_wp2_with (rw [HW.out])
              go_ret
              exact ⟨by rw [HS.out]; rfl, HB1.out⟩
          · rw [if_neg (fun h => g2 h.2.1)] at hs
            have g2' : ¬ (p : Int) < 128 := by omega
            have HS := Lib.hid hs
            clear hs hc hr1 hp hq g1 B1 hb hB
            go_enter Tryd.func48, Tryd.ntmps48
            go_wp2_with (rw [HW.out])
            go_ret
            exact ⟨by rw [HS.out]; rfl, HB1.out⟩
        · rw [if_neg (fun h => g1 h.1)] at hs
          obtain ⟨u, hu⟩ : ∃ u : Nat, p % 16 = u := ⟨_, rfl⟩
          rw [hu] at e1 g1
          have e3 : ((u : Int) == 8) = false := by simp; omega
          have HS := Lib.hid hs
          clear hs hc hr1 hp hq g1 hu B1 hb hB
          go_enter Tryd.func48, Tryd.ntmps48
          go_wp2_with (rw [HW.out])
          go_ret
          exact ⟨by rw [HS.out]; rfl, HB1.out⟩
      · simp at hl
    · have e0 : ((m : Int) == 2) = false := by simp; omega
      have HS := Lib.hid (says_len26 (l := l) (by omega))
      clear hr1 hl hm B1 hB
      go_enter Tryd.func48, Tryd.ntmps48
      go_wp2_with (rw [HW.out])
      go_ret
      exact ⟨by rw [HS.out]; rfl, HB1.out⟩
  · have f26 : (K == 26) = false := by simpa using h26
    by_cases h21 : K = 21
    · subst h21
      by_cases hm : m = 1
      · subst hm
        obtain ⟨b, off, rfl, hb, hc⟩ := hr1.2 (by omega)
        rcases l with _ | ⟨x, _ | ⟨y, l⟩⟩
        · simp at hl
        · have x0 : W1.cell? ⟨b, off, none⟩ = some (.int .u8 (x.toNat : Int)) := hc 0 (by omega)
          have hs : says 21 [x] = if 41 ≤ x.toNat ∧ x.toNat ≤ 47 then (x.toNat : Int) - 32 else 0 := rfl
          have hxlt := x.toNat_lt
          obtain ⟨p, hp⟩ : ∃ p, x.toNat = p := ⟨_, rfl⟩
          rw [hp] at x0 hs hxlt
          by_cases g1 : 41 ≤ p
          · have g1' : 41 ≤ (p : Int) := by omega
            by_cases g2 : p ≤ 47
            · have g2' : (p : Int) ≤ 47 := by omega
              rw [if_pos ⟨g1, g2⟩] at hs
              have HS := Lib.hid hs
              clear hs hc hr1 hp B1 hb hB
              go_enter Tryd.func48, Tryd.ntmps48
              go_wp2_with (rw [HW.out])
              go_ret
              exact ⟨by rw [HS.out]; rfl, HB1.out⟩
            · have g2' : ¬ (p : Int) ≤ 47 := by omega
              rw [if_neg (fun h => g2 h.2)] at hs
              have HS := Lib.hid hs
              clear hs hc hr1 hp B1 hb hB
              go_enter Tryd.func48, Tryd.ntmps48
              go_wp2_with (rw [HW.out])
              go_ret
              exact ⟨by rw [HS.out]; rfl, HB1.out⟩
          · have g1' : ¬ 41 ≤ (p : Int) := by omega
            rw [if_neg (fun h => g1 h.1)] at hs
            have HS := Lib.hid hs
            clear hs hc hr1 hp B1 hb hB
            go_enter Tryd.func48, Tryd.ntmps48
            go_wp2_with (rw [HW.out])
            go_ret
            exact ⟨by rw [HS.out]; rfl, HB1.out⟩
        · simp at hl
      · have e0 : ((m : Int) == 1) = false := by simp; omega
        have HS := Lib.hid (says_len21 (l := l) (by omega))
        clear hr1 hl hm B1 hB
        go_enter Tryd.func48, Tryd.ntmps48
        go_wp2_with (rw [HW.out])
        go_ret
        exact ⟨by rw [HS.out]; rfl, HB1.out⟩
    · have f21 : (K == 21) = false := by simpa using h21
      have HS := Lib.hid (says_no (l := l) h26 h21)
      clear hr1 hl h26 h21 B1 hB
      go_enter Tryd.func48, Tryd.ntmps48
      go_wp2_with (rw [HW.out])
      go_ret
      exact ⟨by rw [HS.out]; rfl, HB1.out⟩
theorem rdeflate_any (b : Int) (w : World) : Calls Tryd.prog 49 #[.int .i64 b] w fun e w' => ∃ g, e = .returned (.slice (some ⟨g, 0, none⟩) 2 2) ∧ Own w' w.heap.size (.slice (some ⟨g, 0, none⟩) 2 2) (dat 26 b) ∧ Below w.heap.size w w' := by
  have hd := wrap_df b
  have HW : Hid (Own (w.alloc (.cells #[.int .u8 ((16 * (b - 8) + 8) % 256), .int .u8 0] 5)) w.heap.size (.slice (some ⟨w.heap.size, 0, none⟩) 2 2) (dat 26 b) ∧ Below w.heap.size w (w.alloc (.cells #[.int .u8 ((16 * (b - 8) + 8) % 256), .int .u8 0] 5))) := by
    have k := blk_new w 5 ((dat 26 b).map cellOf)
    have e : (dat 26 b).map cellOf = [.int .u8 ((16 * (b - 8) + 8) % 256), .int .u8 0] := by
      show [cellOf (dfB b), cellOf 0] = _
      rw [cell_df]
      rfl
    have ho := own_new (base := w.heap.size) k (Nat.le_refl _) (by rw [dat_len]; unfold szK; split <;> omega)
    rw [e] at ho
    rw [dat_len] at ho
    exact ⟨ho, (Below.refl _ _).alloc (Nat.le_refl _) _⟩
  go_enter Tryd.func49, Tryd.ntmps49
  go_wp2
  go_ret
  exact ⟨_, rfl, HW.out⟩
theorem rbsd_any (b : Int) (w : World) : Calls Tryd.prog 50 #[.int .i64 b] w fun e w' => ∃ g, e = .returned (.slice (some ⟨g, 0, none⟩) 1 1) ∧ Own w' w.heap.size (.slice (some ⟨g, 0, none⟩) 1 1) (dat 21 b) ∧ Below w.heap.size w w' := by
  have hd := wrap_bs b
  have HW : Hid (Own (w.alloc (.cells #[.int .u8 ((32 + b) % 256)] 5)) w.heap.size (.slice (some ⟨w.heap.size, 0, none⟩) 1 1) (dat 21 b) ∧ Below w.heap.size w (w.alloc (.cells #[.int .u8 ((32 + b) % 256)] 5))) := by
    have k := blk_new w 5 ((dat 21 b).map cellOf)
    have e : (dat 21 b).map cellOf = [.int .u8 ((32 + b) % 256)] := by
      show [cellOf (bsB b)] = _
      rw [cell_bs]
    have ho := own_new (base := w.heap.size) k (Nat.le_refl _) (by rw [dat_len]; unfold szK; split <;> omega)
    rw [e] at ho
    rw [dat_len] at ho
    exact ⟨ho, (Below.refl _ _).alloc (Nat.le_refl _) _⟩
  go_enter Tryd.func50, Tryd.ntmps50
  go_wp2
  go_ret
  exact ⟨_, rfl, HW.out⟩
def brC (D B K : Int) (n : Nat) : Bool := (K == 26 && decide (n = 2) && !(D == 0)) || (K == 21 && decide (n = 1) && !(B == 0))
theorem rborne_any (cv : Array Value) (D B mf K : Int) (E : Option Addr) (m c : Nat) (w : World) (hcf : ConfC cv D B mf) :
    Calls Tryd.prog 31 #[.agg cv, .agg #[.int .i64 K, .slice E m c]] w fun e w' => e = .returned (.bool (brC D B K m)) ∧ Below w.heap.size w w' := by
  obtain ⟨W1, hW1⟩ : ∃ W1, w.alloc (.cells cv 25) = W1 := ⟨_, rfl⟩
  have k1 : Blk W1 w.heap.size 25 cv.toList := by rw [← hW1]; exact blk_new w _ _
  have B1 : Below w.heap.size w W1 := by rw [← hW1]; exact (Below.refl _ _).alloc (Nat.le_refl _) _
  have s1 : W1.heap.size = w.heap.size + 1 := by rw [← hW1]; simp
  obtain ⟨W2, hW2⟩ : ∃ W2, W1.alloc (.cells #[.int .i64 K, .slice E m c] 61) = W2 := ⟨_, rfl⟩
  have k2 : Blk W2 (w.heap.size + 1) 61 [.int .i64 K, .slice E m c] := by rw [← hW2, ← s1]; exact blk_new W1 _ _
  have B2 : Below W1.heap.size W1 W2 := by rw [← hW2]; exact (Below.refl _ _).alloc (Nat.le_refl _) _
  have k12 : Blk W2 w.heap.size 25 cv.toList := (B2.block _ (by omega)).trans k1
  have c16 : W2.cell? ⟨w.heap.size, 16, none⟩ = some (.int .i64 D) := by rw [k12.cell 16, Array.getElem?_toList]; exact hcf.2.1
  have c17 : W2.cell? ⟨w.heap.size, 17, none⟩ = some (.int .i64 B) := by rw [k12.cell 17, Array.getElem?_toList]; exact hcf.2.2.1
  have c0 := k2.cell 0
  have c1 := k2.cell 1
  have HW := Lib.hid hW1
  have HW2 := Lib.hid hW2
  have HB := Lib.hid (B1.trans (B2.mono (by omega)))
  clear k1 B1 hW1 k2 B2 hW2 k12
  obtain ⟨R, hR⟩ : ∃ R, brC D B K m = R := ⟨_, rfl⟩
  rw [hR]
  unfold brC at hR
  by_cases h26 : K = 26
  · subst h26
    by_cases hm : m = 2
    · subst hm
      rcases hD : (D == 0) with _ | _
      · rw [hD] at hR
        have hn : D ≠ 0 := by simpa using hD
        have hD' : (D != 0) = true := by simpa using hn
        simp at hR
        subst hR
        clear hD hn
        go_enter Tryd.func31, Tryd.ntmps31
        go_wp2_with (first | (rw [HW.out]) | (rw [HW2.out]))
        go_ret
        exact ⟨rfl, HB.out⟩
      · rw [hD] at hR
        have hn : D = 0 := by simpa using hD
        subst hn
        simp at hR
        subst hR
        clear hD
        go_enter Tryd.func31, Tryd.ntmps31
        go_wp2_with (first | (rw [HW.out]) | (rw [HW2.out]))
        go_ret
        exact ⟨rfl, HB.out⟩
    · have e0 : ((m : Int) == 2) = false := by simp; omega
      simp [hm] at hR
      subst hR
      clear hm
      go_enter Tryd.func31, Tryd.ntmps31
      go_wp2_with (first | (rw [HW.out]) | (rw [HW2.out]))
      go_ret
      exact ⟨rfl, HB.out⟩
  · have f26 : (K == 26) = false := by simpa using h26
    by_cases h21 : K = 21
    · subst h21
      by_cases hm : m = 1
      · subst hm
        rcases hD : (B == 0) with _ | _
        · rw [hD] at hR
          have hn : B ≠ 0 := by simpa using hD
          have hD' : (B != 0) = true := by simpa using hn
          simp at hR
          subst hR
          clear hD hn
          go_enter Tryd.func31, Tryd.ntmps31
          go_wp2_with (first | (rw [HW.out]) | (rw [HW2.out]))
          go_ret
          exact ⟨rfl, HB.out⟩
        · rw [hD] at hR
          have hn : B = 0 := by simpa using hD
          subst hn
          simp at hR
          subst hR
          clear hD
          go_enter Tryd.func31, Tryd.ntmps31
          go_wp2_with (first | (rw [HW.out]) | (rw [HW2.out]))
          go_ret
          exact ⟨rfl, HB.out⟩
      · have e0 : ((m : Int) == 1) = false := by simp; omega
        simp [hm] at hR
        subst hR
        clear hm
        go_enter Tryd.func31, Tryd.ntmps31
        go_wp2_with (first | (rw [HW.out]) | (rw [HW2.out]))
        go_ret
        exact ⟨rfl, HB.out⟩
    · have f21 : (K == 21) = false := by simpa using h21
      simp [f26, f21] at hR
      subst hR
      clear h26 h21
      go_enter Tryd.func31, Tryd.ntmps31
      go_wp2_with (first | (rw [HW.out]) | (rw [HW2.out]))
      go_ret
      exact ⟨rfl, HB.out⟩
end Go.Proofs.YtlpboleclehilaaDoor
namespace Go.Proofs.YtlpboleclehilaaDoor
open Go.RowKit
set_option maxRecDepth 100000
set_option maxHeartbeats 4000000
set_option linter.unusedSimpArgs false
set_option linter.unusedVariables false

theorem metK_more {K : Int} {s : List Opt} {k i : Nat} (h : metK K s k = true) (hk : k ≤ i) : metK K s i = true := by
  unfold metK at *
  rw [List.any_eq_true] at h ⊢
  obtain ⟨o, ho, e⟩ := h
  refine ⟨o, ?_, e⟩
  have e2 : s.take k = (s.take i).take k := by rw [List.take_take, Nat.min_eq_left hk]
  rw [e2] at ho
  exact List.mem_of_mem_take ho
theorem metK_zero (K : Int) (s : List Opt) : metK K s 0 = false := rfl
theorem o_upto (b off n c k : Nat) (h : k ≤ c) : ∀ W, (Instr.slice 28 (.slice (some ⟨b, off, none⟩) n c) none (some (.int .i64 (k : Int))) none).run Tryd.prog W = .ok (.slice (some ⟨b, off, none⟩) k c) W := by
  intro W
  rw [run_slice_h W 28 _ _ _ (by rw [oslice_elem]; exact Tryd.underlying28) .i64 _ (by omega) (by omega), oslice_elem, option_sizeOf]
  simp only [Result.andThen_ok, sliced, Int.toNat_natCast, Nat.sub_zero]
  congr 2
  split
  · rfl
  · simp [Addr.add]
theorem rtwice_any (A : Option Addr) (n c Bb : Nat) (s : List Opt) (i : Nat) (w : World) (hr0 : OptRd w Bb A n s) (hBb : Bb ≤ w.heap.size) (hnc : n ≤ c) (hn : n ≤ 4398046511103) (hi : i < s.length) :
    Calls Tryd.prog 32 #[.slice A n c, .int .i64 (i : Int)] w fun e w' => e = .returned (.bool (metK s[i].1 s i)) ∧ Below w.heap.size w w' := by
  have hr := hr0.wide hBb
  have hlen := hr.1
  obtain ⟨b, off, rfl, hbl, hc⟩ := hr.2 (by omega)
  obtain ⟨p1, -⟩ := hc i hi
  obtain ⟨K, hK⟩ : ∃ K, s[i].1 = K := ⟨_, rfl⟩
  rw [hK] at p1 ⊢
  have hin : i < n := by omega
  have hst := o_upto b off n c i (by omega)
  have HC := Lib.hid hc
  have HB0 := Lib.hid (Below.refl w.heap.size w)
  clear hc hr hr0 hK
  obtain ⟨Rv, hRv⟩ : ∃ Rv, metK K s i = Rv := ⟨_, rfl⟩
  rw [hRv]
  have HRv := Lib.hid hRv
  clear hRv
  go_enter Tryd.func32, Tryd.ntmps32
  go_wp2
  go_loopw [11] (fun v wr => ∃ (V : World) (k : Nat), V = wr ∧ k ≤ i ∧ v = .int .i64 k ∧ Hid (Below w.heap.size w V ∧ metK K s k = false)) (fun v _ => i - (intOf v).toNat)
  case atStart => exact ⟨_, 0, rfl, Nat.zero_le _, rfl, HB0.out, rfl⟩
  case round =>
    obtain ⟨V, k, rfl, hk, rfl, hJ⟩ := hrel
    obtain ⟨hB, hM⟩ := hJ.out
    have sV := hB.size
    have v0 : V.cell? ⟨b, off + i * 2, none⟩ = some (.int .i64 K) := (hB.cell hbl).trans p1
    by_cases hlt : k < i
    · obtain ⟨x1, E, kk, d, x2, -⟩ := HC.out k (by omega)
      obtain ⟨J, hJ1⟩ : ∃ J, (s[k]'(by omega)).1 = J := ⟨_, rfl⟩
      have hm := metK_step K s k (by omega)
      rw [hM, Bool.false_or, hJ1] at hm
      rw [hJ1] at x1
      have v1 : V.cell? ⟨b, off + k * 2, none⟩ = some (.int .i64 J) := (hB.cell hbl).trans x1
      have v2 : V.cell? ⟨b, off + k * 2 + 1, none⟩ = some (.slice E kk d) := (hB.cell hbl).trans x2
      have hbV : b < V.heap.size := by omega
      have BA : Below V.heap.size V (V.alloc (.cells #[.int .i64 J, .slice E kk d] 61)) := (Below.refl _ _).alloc (Nat.le_refl _) _
      have HN := Lib.hid (hB.trans (BA.mono hB.size))
      by_cases he : J = K
      · have e1 : (J == K) = true := by simpa using he
        rw [e1] at hm
        have HM := Lib.hid (metK_more hm (show k + 1 ≤ i by omega))
        clear hm he x1 x2 hJ hJ1 hM hB BA
        go_upto_region 4 with (fail)
        go_quiet (fail)
        go_wp2
        go_ret
        exact ⟨by rw [← HRv.out, HM.out]; rfl, below_drewN HN.out _⟩
      · have e1 : (J == K) = false := by simpa using he
        rw [e1] at hm
        have HM := Lib.hid hm
        clear hm he x1 x2 hJ hJ1 hM hB BA
        go_upto_region 4 with (fail)
        go_quiet (fail)
        go_wp2
        go_roundw
        case rel => exact ⟨_, k + 1, rfl, by omega, by go_num, below_drewN HN.out _, HM.out⟩
        case measure => simp [intOf]; omega
    · have hke : k = i := by omega
      subst hke
      have HM := Lib.hid hM
      have HN := Lib.hid hB
      clear hJ hM hB
      go_wp2
      go_ret
      exact ⟨by rw [← HRv.out, HM.out]; rfl, HN.out⟩
theorem rlast_any (A : Option Addr) (n c Bb : Nat) (s : List Opt) (K : Int) (w : World) (hr0 : OptRd w Bb A n s) (hBb : Bb ≤ w.heap.size) (hn : n ≤ 4398046511103) :
    Calls Tryd.prog 37 #[.slice A n c, .int .i64 K] w fun e w' => e = .returned (.int .i64 (lstK K s n)) ∧ Below w.heap.size w w' := by
  have hr := hr0.wide hBb
  have hlen := hr.1
  have HR := Lib.hid hr
  have HB0 := Lib.hid (Below.refl w.heap.size w)
  obtain ⟨Rv, hRv⟩ : ∃ Rv, lstK K s n = Rv := ⟨_, rfl⟩
  rw [hRv]
  have HRv := Lib.hid hRv
  clear hRv hr hr0
  go_enter Tryd.func37, Tryd.ntmps37
  go_wp2
  go_loopw [5, 10] (fun a v wr => ∃ (V : World) (k : Nat) (q : Int), V = wr ∧ k ≤ n ∧ v = .int .i64 k ∧ a = .int .i64 q ∧ Hid (Below w.heap.size w V ∧ lstK K s k = q)) (fun _ v _ => n - (intOf v).toNat)
  case atStart => exact ⟨_, 0, 0, rfl, Nat.zero_le _, rfl, rfl, HB0.out, rfl⟩
  case round =>
    obtain ⟨V, k, q, rfl, hk, rfl, rfl, hJ⟩ := hrel
    obtain ⟨hB, hM⟩ := hJ.out
    have sV := hB.size
    by_cases hlt : k < n
    · obtain ⟨b, off, rfl, hbl, hc⟩ := HR.out.2 (by omega)
      obtain ⟨x1, E, kk, d, x2, hRd, -⟩ := hc k (by omega)
      have hst := lstK_step K s k (by omega)
      rw [hM] at hst
      obtain ⟨y, hy⟩ : ∃ y, s[k]'(by omega) = y := ⟨_, rfl⟩
      rw [hy] at x1 hRd hst
      obtain ⟨J, l⟩ := y
      dsimp only at x1 hRd hst
      have v1 : V.cell? ⟨b, off + k * 2, none⟩ = some (.int .i64 J) := (hB.cell hbl).trans x1
      have v2 : V.cell? ⟨b, off + k * 2 + 1, none⟩ = some (.slice E kk d) := (hB.cell hbl).trans x2
      have hbV : b < V.heap.size := by omega
      have BA : Below V.heap.size V (V.alloc (.cells #[.int .i64 J, .slice E kk d] 61)) := (Below.refl _ _).alloc (Nat.le_refl _) _
      have kb := blk_new V 61 [.int .i64 J, .slice E kk d]
      have BW := hB.trans (BA.mono hB.size)
      have hrg := says_range J l
      have SY : Hid (Calls Tryd.prog 48 #[.agg #[.int .i64 J, .slice E kk d]] (V.alloc (.cells #[.int .i64 J, .slice E kk d] 61)) fun e w1 => e = .returned (.int .i64 (says J l)) ∧ (w1.cell? ⟨V.heap.size, 0, none⟩ = some (.int .i64 J) ∧ w1.cell? ⟨V.heap.size, 1, none⟩ = some (.slice E kk d)) ∧ Hid (Below w.heap.size w w1) ∧
          Hid (Calls Tryd.prog 48 #[.agg #[.int .i64 J, .slice E kk d]] w1 fun e w2 => e = .returned (.int .i64 (says J l)) ∧ Hid (Below w.heap.size w w2))) := by
        refine (rsays_any J E kk d w.heap.size l _ (hRd.below BW) BW.size).mono ?_
        rintro e w1 ⟨rfl, b1⟩
        have B1 := BW.trans (b1.mono BW.size)
        have kb1 : Blk w1 V.heap.size 61 [.int .i64 J, .slice E kk d] := (b1.block _ (Blk.lt kb)).trans kb
        refine ⟨rfl, ⟨kb1.cell 0, kb1.cell 1⟩, Lib.hid B1, Lib.hid ?_⟩
        refine (rsays_any J E kk d w.heap.size l _ (hRd.below B1) B1.size).mono ?_
        rintro e w2 ⟨rfl, b2⟩
        exact ⟨rfl, Lib.hid (B1.trans (b2.mono B1.size))⟩
      have HBW := Lib.hid BW
      obtain ⟨Z, hZ⟩ : ∃ Z, says J l = Z := ⟨_, rfl⟩
      rw [hZ] at SY hst hrg
      by_cases he : J = K
      · have e1 : (J == K) = true := by simpa using he
        by_cases hz : Z = 0
        · rw [if_neg (fun h => h.2 hz)] at hst
          have HM := Lib.hid hst
          subst hz
          clear hst he x1 x2 hJ hM hB BA BW kb hc hy hRd hZ hrg
          go_wp2_with (go_at_call 48; ((with_reducible refine SY.out.mono ?_); rintro e w1 ⟨rfl, ⟨y0, y1⟩, HN, -⟩))
          go_roundw
          case rel => exact ⟨_, k + 1, q, rfl, by omega, by go_num, rfl, HN.out, HM.out⟩
          case measure => simp [intOf]; omega
        · rw [if_pos ⟨he, hz⟩] at hst
          have HM := Lib.hid hst
          have hz1 : 0 < Z := by omega
          clear hst he x1 x2 hJ hM hB BA BW kb hc hy hRd hZ hrg hz
          go_wp2_with (first
            | (go_at_call 48; ((with_reducible refine SY.out.mono ?_); rintro e w1 ⟨rfl, ⟨y0, y1⟩, -, SZ⟩))
            | (go_at_call 48; ((with_reducible refine SZ.out.mono ?_); rintro e w2 ⟨rfl, HN⟩)))
          go_roundw
          case rel => exact ⟨_, k + 1, Z, rfl, by omega, by go_num, rfl, HN.out, HM.out⟩
          case measure => simp [intOf]; omega
      · have e1 : (J == K) = false := by simpa using he
        rw [if_neg (fun h => he h.1)] at hst
        have HM := Lib.hid hst
        clear hst he x1 x2 hJ hM hB BA BW kb hc hy hRd hZ hrg SY
        go_wp2
        go_roundw
        case rel => exact ⟨_, k + 1, q, rfl, by omega, by go_num, rfl, HBW.out, HM.out⟩
        case measure => simp [intOf]; omega
    · have hke : k = n := by omega
      subst hke
      have HM := Lib.hid hM
      have HN := Lib.hid hB
      clear hJ hM hB
      go_wp2
      go_ret
      exact ⟨by rw [← HRv.out, HM.out]; rfl, HN.out⟩
end Go.Proofs.YtlpboleclehilaaDoor
namespace Go.Proofs.YtlpboleclehilaaDoor
open Go.RowKit
set_option maxRecDepth 100000
set_option maxHeartbeats 4000000
set_option linter.unusedSimpArgs false
set_option linter.unusedVariables false

/-- the box, the result's box, what it was at first; and what lies below is kept -/
def NkS (w W : World) (D B D' B' : Int) : Prop := Blk W w.heap.size 36 [.int .i64 D', .int .i64 B'] ∧ Blk W (w.heap.size + 1) 36 [.int .i64 0, .int .i64 0] ∧ Blk W (w.heap.size + 2) 36 [.int .i64 D, .int .i64 B] ∧ Below w.heap.size w W
def NkF (w W : World) (D B D' B' : Int) : Prop := (W.cell? ⟨w.heap.size, 0, none⟩ = some (.int .i64 D') ∧ W.cell? ⟨w.heap.size, 1, none⟩ = some (.int .i64 B')) ∧ (W.cell? ⟨w.heap.size + 1, 0, none⟩ = some (.int .i64 0) ∧ W.cell? ⟨w.heap.size + 1, 1, none⟩ = some (.int .i64 0)) ∧ (W.cell? ⟨w.heap.size + 2, 0, none⟩ = some (.int .i64 D) ∧ W.cell? ⟨w.heap.size + 2, 1, none⟩ = some (.int .i64 B)) ∧
  (W.frozen? ⟨w.heap.size, 0, none⟩ = false ∧ W.frozen? ⟨w.heap.size, 1, none⟩ = false ∧ W.frozen? ⟨w.heap.size + 1, 0, none⟩ = false ∧ W.frozen? ⟨w.heap.size + 1, 1, none⟩ = false)
theorem NkS.facts {w W : World} {D B D' B' : Int} (h : NkS w W D B D' B') : NkF w W D B D' B' := by
  obtain ⟨a, b, c, -⟩ := h
  exact ⟨⟨a.cell 0, a.cell 1⟩, ⟨b.cell 0, b.cell 1⟩, ⟨c.cell 0, c.cell 1⟩, a.frozen 0, a.frozen 1, b.frozen 0, b.frozen 1⟩
theorem NkS.later {w W V : World} {D B D' B' : Int} (h : NkS w W D B D' B') (hb : Below W.heap.size W V) : NkS w V D B D' B' := by
  obtain ⟨a, b, c, d⟩ := h
  exact ⟨(hb.block _ (Blk.lt a)).trans a, (hb.block _ (Blk.lt b)).trans b, (hb.block _ (Blk.lt c)).trans c, d.trans (hb.mono d.size)⟩
theorem blk_other {W : World} {z y q t : Nat} {cs : List Value} {v : Value} (h : Blk W z t cs) (hne : z ≠ y) : Blk (W.setCell ⟨y, q, none⟩ v) z t cs :=
  ((only_set (p := ⟨y, q, none⟩) v).block z (Blk.lt h) (fun e => hne (by injection e))).trans h
theorem NkS.set0 {w W : World} {D B D' B' : Int} (h : NkS w W D B D' B') (X : Int) : NkS w (W.setCell ⟨w.heap.size, 0, none⟩ (.int .i64 X)) D B X B' := by
  obtain ⟨a, b, c, d⟩ := h
  exact ⟨Blk.set_ a 0 _, blk_other b (by omega), blk_other c (by omega), d.setCell (Nat.le_refl _) _⟩
theorem NkS.set1 {w W : World} {D B D' B' : Int} (h : NkS w W D B D' B') (X : Int) : NkS w (W.setCell ⟨w.heap.size, 1, none⟩ (.int .i64 X)) D B D' X := by
  obtain ⟨a, b, c, d⟩ := h
  exact ⟨Blk.set_ a 1 _, blk_other b (by omega), blk_other c (by omega), d.setCell (Nat.le_refl _) _⟩
theorem NkS.fin {w W : World} {D B D' B' : Int} (h : NkS w W D B D' B') (X Y : Int) : ((W.setCell ⟨w.heap.size + 1, 0, none⟩ (.int .i64 X)).setCell ⟨w.heap.size + 1, 1, none⟩ (.int .i64 Y)).drew.cell? ⟨w.heap.size + 1, 0, none⟩ = some (.int .i64 X) ∧
    ((W.setCell ⟨w.heap.size + 1, 0, none⟩ (.int .i64 X)).setCell ⟨w.heap.size + 1, 1, none⟩ (.int .i64 Y)).drew.cell? ⟨w.heap.size + 1, 1, none⟩ = some (.int .i64 Y) ∧ Below w.heap.size w ((W.setCell ⟨w.heap.size + 1, 0, none⟩ (.int .i64 X)).setCell ⟨w.heap.size + 1, 1, none⟩ (.int .i64 Y)).drew := by
  obtain ⟨a, b, c, d⟩ := h
  have k := Blk.set_ (Blk.set_ b 0 (.int .i64 X)) 1 (.int .i64 Y)
  exact ⟨k.cell 0, k.cell 1, below_drewN ((d.setCell (by show w.heap.size ≤ w.heap.size + 1; omega) _).setCell (by show w.heap.size ≤ w.heap.size + 1; omega) _) 1⟩
theorem rnak_any (D B : Int) (A : Option Addr) (n c Bb : Nat) (s : List Opt) (w : World) (hr0 : OptRd w Bb A n s) (hBb : Bb ≤ w.heap.size) (hn : n ≤ 4398046511103) :
    Calls Tryd.prog 12 #[.agg #[.int .i64 D, .int .i64 B], .slice A n c] w fun e w' => NkR w (nkC (lstK 26 s s.length) D) (nkC (lstK 21 s s.length) B) (!(nkC (lstK 26 s s.length) D == D) || !(nkC (lstK 21 s s.length) B == B)) e w' := by
  have hr := hr0.wide hBb
  have hlen := hr.1
  rw [hlen]
  obtain ⟨W2, hW2⟩ : ∃ W2, (w.alloc (.cells #[.int .i64 D, .int .i64 B] 36)).alloc (.cells #[.int .i64 0, .int .i64 0] 36) = W2 := ⟨_, rfl⟩
  have B2 : Below w.heap.size w W2 := by rw [← hW2]; exact ((Below.refl _ _).alloc (Nat.le_refl _) _).alloc (by simp) _
  have s2 : W2.heap.size = w.heap.size + 2 := by rw [← hW2]; simp
  have kO : Blk W2 w.heap.size 36 [.int .i64 D, .int .i64 B] := by
    rw [← hW2]
    exact (Below.heap_alloc _ _ _ (by simp)).trans (blk_new w _ _)
  have kR : Blk W2 (w.heap.size + 1) 36 [.int .i64 0, .int .i64 0] := by
    rw [← hW2]
    have h := blk_new (w.alloc (.cells #[.int .i64 D, .int .i64 B] 36)) 36 [.int .i64 0, .int .i64 0]
    rw [World.size_alloc] at h
    exact h
  have o0 := kO.cell 0
  have o1 := kO.cell 1
  obtain ⟨W3, hW3⟩ : ∃ W3, W2.alloc (.cells #[.int .i64 D, .int .i64 B] 36) = W3 := ⟨_, rfl⟩
  have B3 : Below W2.heap.size W2 W3 := by rw [← hW3]; exact (Below.refl _ _).alloc (Nat.le_refl _) _
  have kT : Blk W3 (w.heap.size + 2) 36 [.int .i64 D, .int .i64 B] := by rw [← hW3, ← s2]; exact blk_new W2 _ _
  have S3 : NkS w W3 D B D B := ⟨(B3.block _ (Blk.lt kO)).trans kO, (B3.block _ (Blk.lt kR)).trans kR, kT, B2.trans (B3.mono (by omega))⟩
  have LL : ∀ (K D' B' : Int) (W : World), NkS w W D B D' B' → Calls Tryd.prog 37 #[.slice A n c, .int .i64 K] W fun e w1 => e = .returned (.int .i64 (lstK K s n)) ∧ NkF w w1 D B D' B' ∧ Hid (NkS w w1 D B D' B') := by
    intro K D' B' W h
    have hb := h.2.2.2
    refine (rlast_any A n c w.heap.size s K W (hr.below hb (Nat.le_refl _)) hb.size hn).mono ?_
    rintro e w1 ⟨rfl, b1⟩
    exact ⟨rfl, (h.later b1).facts, Lib.hid (h.later b1)⟩
  have g26 := lstK_range 26 s n
  have g21 := lstK_range 21 s n
  have L1 := Lib.hid (LL 26 D B W3 S3)
  have L2 := Lib.hid (fun D' W h => LL 21 D' B W h)
  obtain ⟨P, hP⟩ : ∃ P, lstK 26 s n = P := ⟨_, rfl⟩
  obtain ⟨Q, hQ⟩ : ∃ Q, lstK 21 s n = Q := ⟨_, rfl⟩
  rw [hP] at L1 g26 ⊢
  rw [hQ] at L2 g21 ⊢
  have HW2 := Lib.hid hW2
  have HW3 := Lib.hid hW3
  unfold NkF at L1 L2
  clear LL hP hQ hW2 hW3 B2 B3 kO kR kT S3 hr hr0
  by_cases haz : D = 0
  · by_cases hbz : B = 0
    · have ea0 : (D != 0) = false := by rw [haz]; rfl
      have va : nkC P D = D := by unfold nkC; rw [if_neg (by omega)]
      clear haz
      have eb0 : (B != 0) = false := by rw [hbz]; rfl
      have vb : nkC Q B = B := by unfold nkC; rw [if_neg (by omega)]
      clear hbz
      rw [va, vb]
      clear va vb
      go_enter Tryd.func12, Tryd.ntmps12
      go_upto_region 1 with (fail)
      rw [HW2.out]
      go_upto_region 8 with (first
        | (rw [HW3.out])
        | (go_at_call 37; ((with_reducible refine L1.out.mono ?_); rintro e w1 ⟨rfl, ⟨⟨x0, x1⟩, ⟨x2, x3⟩, ⟨x4, x5⟩, y0, y1, y2, y3⟩, H1⟩))
        | (go_at_call 37; ((with_reducible refine (L2.out _ _ H1.out).mono ?_); rintro e w2 ⟨rfl, ⟨⟨p0, p1⟩, ⟨p2, p3⟩, ⟨p4, p5⟩, q0, q1, q2, q3⟩, H2⟩)))
      obtain ⟨e0, e1, hb⟩ := NkS.fin H2.out D B
      have HB := Lib.hid hb
      clear hb
      go_region
      go_wp2
      refine bodyPost_ret (v := .tuple #[.agg #[.int .i64 D, .int .i64 B], _]) (by simp [results, Tryd.results12, go_sem, e0, e1]; rfl) rfl ⟨by simp [], HB.out⟩
    · by_cases hbp : 0 < Q
      · by_cases hbl : Q < B
        · have ea0 : (D != 0) = false := by rw [haz]; rfl
          have va : nkC P D = D := by unfold nkC; rw [if_neg (by omega)]
          clear haz
          have eb0 : (B != 0) = true := by simpa using hbz
          have vb : nkC Q B = Q := by unfold nkC; rw [if_pos ⟨by omega, by omega⟩]
          have nb : (Q == B) = false := by simp; omega
          have mb : (Q != B) = true := by simp; omega
          rw [va, vb]
          clear va vb
          go_enter Tryd.func12, Tryd.ntmps12
          go_upto_region 1 with (fail)
          rw [HW2.out]
          go_upto_region 8 with (first
            | (rw [HW3.out])
            | (go_at_call 37; ((with_reducible refine L1.out.mono ?_); rintro e w1 ⟨rfl, ⟨⟨x0, x1⟩, ⟨x2, x3⟩, ⟨x4, x5⟩, y0, y1, y2, y3⟩, H1⟩))
            | (go_at_call 37; ((with_reducible refine (L2.out _ _ H1.out).mono ?_); rintro e w2 ⟨rfl, ⟨⟨p0, p1⟩, ⟨p2, p3⟩, ⟨p4, p5⟩, q0, q1, q2, q3⟩, H2⟩)))
          obtain ⟨e0, e1, hb⟩ := NkS.fin (NkS.set1 H2.out Q) D Q
          have HB := Lib.hid hb
          clear hb
          go_region
          go_wp2
          refine bodyPost_ret (v := .tuple #[.agg #[.int .i64 D, .int .i64 Q], _]) (by simp [results, Tryd.results12, go_sem, e0, e1]; rfl) rfl ⟨by simp [nb, ], HB.out⟩
        · have ea0 : (D != 0) = false := by rw [haz]; rfl
          have va : nkC P D = D := by unfold nkC; rw [if_neg (by omega)]
          clear haz
          have eb0 : (B != 0) = true := by simpa using hbz
          have vb : nkC Q B = B := by unfold nkC; rw [if_neg (by omega)]
          rw [va, vb]
          clear va vb
          go_enter Tryd.func12, Tryd.ntmps12
          go_upto_region 1 with (fail)
          rw [HW2.out]
          go_upto_region 8 with (first
            | (rw [HW3.out])
            | (go_at_call 37; ((with_reducible refine L1.out.mono ?_); rintro e w1 ⟨rfl, ⟨⟨x0, x1⟩, ⟨x2, x3⟩, ⟨x4, x5⟩, y0, y1, y2, y3⟩, H1⟩))
            | (go_at_call 37; ((with_reducible refine (L2.out _ _ H1.out).mono ?_); rintro e w2 ⟨rfl, ⟨⟨p0, p1⟩, ⟨p2, p3⟩, ⟨p4, p5⟩, q0, q1, q2, q3⟩, H2⟩)))
          obtain ⟨e0, e1, hb⟩ := NkS.fin H2.out D B
          have HB := Lib.hid hb
          clear hb
          go_region
          go_wp2
          refine bodyPost_ret (v := .tuple #[.agg #[.int .i64 D, .int .i64 B], _]) (by simp [results, Tryd.results12, go_sem, e0, e1]; rfl) rfl ⟨by simp [], HB.out⟩
      · have ea0 : (D != 0) = false := by rw [haz]; rfl
        have va : nkC P D = D := by unfold nkC; rw [if_neg (by omega)]
        clear haz
        have eb0 : (B != 0) = true := by simpa using hbz
        have vb : nkC Q B = B := by unfold nkC; rw [if_neg (by omega)]
        rw [va, vb]
        clear va vb
        go_enter Tryd.func12, Tryd.ntmps12
        go_upto_region 1 with (fail)
        rw [HW2.out]
        go_upto_region 8 with (first
          | (rw [HW3.out])
          | (go_at_call 37; ((with_reducible refine L1.out.mono ?_); rintro e w1 ⟨rfl, ⟨⟨x0, x1⟩, ⟨x2, x3⟩, ⟨x4, x5⟩, y0, y1, y2, y3⟩, H1⟩))
          | (go_at_call 37; ((with_reducible refine (L2.out _ _ H1.out).mono ?_); rintro e w2 ⟨rfl, ⟨⟨p0, p1⟩, ⟨p2, p3⟩, ⟨p4, p5⟩, q0, q1, q2, q3⟩, H2⟩)))
        obtain ⟨e0, e1, hb⟩ := NkS.fin H2.out D B
        have HB := Lib.hid hb
        clear hb
        go_region
        go_wp2
        refine bodyPost_ret (v := .tuple #[.agg #[.int .i64 D, .int .i64 B], _]) (by simp [results, Tryd.results12, go_sem, e0, e1]; rfl) rfl ⟨by simp [], HB.out⟩
  · by_cases hap : 0 < P
    · by_cases hal : P < D
      · by_cases hbz : B = 0
        · have ea0 : (D != 0) = true := by simpa using haz
          have va : nkC P D = P := by unfold nkC; rw [if_pos ⟨by omega, by omega⟩]
          have na : (P == D) = false := by simp; omega
          have ma : (P != D) = true := by simp; omega
          have eb0 : (B != 0) = false := by rw [hbz]; rfl
          have vb : nkC Q B = B := by unfold nkC; rw [if_neg (by omega)]
          clear hbz
          rw [va, vb]
          clear va vb
          go_enter Tryd.func12, Tryd.ntmps12
          go_upto_region 1 with (fail)
          rw [HW2.out]
          go_upto_region 8 with (first
            | (rw [HW3.out])
            | (go_at_call 37; ((with_reducible refine L1.out.mono ?_); rintro e w1 ⟨rfl, ⟨⟨x0, x1⟩, ⟨x2, x3⟩, ⟨x4, x5⟩, y0, y1, y2, y3⟩, H1⟩))
            | (go_at_call 37; ((with_reducible refine (L2.out _ _ (NkS.set0 H1.out P)).mono ?_); rintro e w2 ⟨rfl, ⟨⟨p0, p1⟩, ⟨p2, p3⟩, ⟨p4, p5⟩, q0, q1, q2, q3⟩, H2⟩)))
          obtain ⟨e0, e1, hb⟩ := NkS.fin H2.out P B
          have HB := Lib.hid hb
          clear hb
          go_region
          go_wp2
          refine bodyPost_ret (v := .tuple #[.agg #[.int .i64 P, .int .i64 B], _]) (by simp [results, Tryd.results12, go_sem, e0, e1]; rfl) rfl ⟨by simp [na, ], HB.out⟩
        · by_cases hbp : 0 < Q
          · by_cases hbl : Q < B
            · have ea0 : (D != 0) = true := by simpa using haz
              have va : nkC P D = P := by unfold nkC; rw [if_pos ⟨by omega, by omega⟩]
              have na : (P == D) = false := by simp; omega
              have ma : (P != D) = true := by simp; omega
              have eb0 : (B != 0) = true := by simpa using hbz
              have vb : nkC Q B = Q := by unfold nkC; rw [if_pos ⟨by omega, by omega⟩]
              have nb : (Q == B) = false := by simp; omega
              have mb : (Q != B) = true := by simp; omega
              rw [va, vb]
              clear va vb
              go_enter Tryd.func12, Tryd.ntmps12
              go_upto_region 1 with (fail)
              rw [HW2.out]
              go_upto_region 8 with (first
                | (rw [HW3.out])
                | (go_at_call 37; ((with_reducible refine L1.out.mono ?_); rintro e w1 ⟨rfl, ⟨⟨x0, x1⟩, ⟨x2, x3⟩, ⟨x4, x5⟩, y0, y1, y2, y3⟩, H1⟩))
                | (go_at_call 37; ((with_reducible refine (L2.out _ _ (NkS.set0 H1.out P)).mono ?_); rintro e w2 ⟨rfl, ⟨⟨p0, p1⟩, ⟨p2, p3⟩, ⟨p4, p5⟩, q0, q1, q2, q3⟩, H2⟩)))
              obtain ⟨e0, e1, hb⟩ := NkS.fin (NkS.set1 H2.out Q) P Q
              have HB := Lib.hid hb
              clear hb
              go_region
              go_wp2
              refine bodyPost_ret (v := .tuple #[.agg #[.int .i64 P, .int .i64 Q], _]) (by simp [results, Tryd.results12, go_sem, e0, e1]; rfl) rfl ⟨by simp [na, nb, ], HB.out⟩
            · have ea0 : (D != 0) = true := by simpa using haz
              have va : nkC P D = P := by unfold nkC; rw [if_pos ⟨by omega, by omega⟩]
              have na : (P == D) = false := by simp; omega
              have ma : (P != D) = true := by simp; omega
              have eb0 : (B != 0) = true := by simpa using hbz
              have vb : nkC Q B = B := by unfold nkC; rw [if_neg (by omega)]
              rw [va, vb]
              clear va vb
              go_enter Tryd.func12, Tryd.ntmps12
              go_upto_region 1 with (fail)
              rw [HW2.out]
              go_upto_region 8 with (first
                | (rw [HW3.out])
                | (go_at_call 37; ((with_reducible refine L1.out.mono ?_); rintro e w1 ⟨rfl, ⟨⟨x0, x1⟩, ⟨x2, x3⟩, ⟨x4, x5⟩, y0, y1, y2, y3⟩, H1⟩))
                | (go_at_call 37; ((with_reducible refine (L2.out _ _ (NkS.set0 H1.out P)).mono ?_); rintro e w2 ⟨rfl, ⟨⟨p0, p1⟩, ⟨p2, p3⟩, ⟨p4, p5⟩, q0, q1, q2, q3⟩, H2⟩)))
              obtain ⟨e0, e1, hb⟩ := NkS.fin H2.out P B
              have HB := Lib.hid hb
              clear hb
              go_region
              go_wp2
              refine bodyPost_ret (v := .tuple #[.agg #[.int .i64 P, .int .i64 B], _]) (by simp [results, Tryd.results12, go_sem, e0, e1]; rfl) rfl ⟨by simp [na, ], HB.out⟩
          · have ea0 : (D != 0) = true := by simpa using haz
            have va : nkC P D = P := by unfold nkC; rw [if_pos ⟨by omega, by omega⟩]
            have na : (P == D) = false := by simp; omega
            have ma : (P != D) = true := by simp; omega
            have eb0 : (B != 0) = true := by simpa using hbz
            have vb : nkC Q B = B := by unfold nkC; rw [if_neg (by omega)]
            rw [va, vb]
            clear va vb
            go_enter Tryd.func12, Tryd.ntmps12
            go_upto_region 1 with (fail)
            rw [HW2.out]
            go_upto_region 8 with (first
              | (rw [HW3.out])
              | (go_at_call 37; ((with_reducible refine L1.out.mono ?_); rintro e w1 ⟨rfl, ⟨⟨x0, x1⟩, ⟨x2, x3⟩, ⟨x4, x5⟩, y0, y1, y2, y3⟩, H1⟩))
              | (go_at_call 37; ((with_reducible refine (L2.out _ _ (NkS.set0 H1.out P)).mono ?_); rintro e w2 ⟨rfl, ⟨⟨p0, p1⟩, ⟨p2, p3⟩, ⟨p4, p5⟩, q0, q1, q2, q3⟩, H2⟩)))
            obtain ⟨e0, e1, hb⟩ := NkS.fin H2.out P B
            have HB := Lib.hid hb
            clear hb
            go_region
            go_wp2
            refine bodyPost_ret (v := .tuple #[.agg #[.int .i64 P, .int .i64 B], _]) (by simp [results, Tryd.results12, go_sem, e0, e1]; rfl) rfl ⟨by simp [na, ], HB.out⟩
      · by_cases hbz : B = 0
        · have ea0 : (D != 0) = true := by simpa using haz
          have va : nkC P D = D := by unfold nkC; rw [if_neg (by omega)]
          have eb0 : (B != 0) = false := by rw [hbz]; rfl
          have vb : nkC Q B = B := by unfold nkC; rw [if_neg (by omega)]
          clear hbz
          rw [va, vb]
          clear va vb
          go_enter Tryd.func12, Tryd.ntmps12
          go_upto_region 1 with (fail)
          rw [HW2.out]
          go_upto_region 8 with (first
            | (rw [HW3.out])
            | (go_at_call 37; ((with_reducible refine L1.out.mono ?_); rintro e w1 ⟨rfl, ⟨⟨x0, x1⟩, ⟨x2, x3⟩, ⟨x4, x5⟩, y0, y1, y2, y3⟩, H1⟩))
            | (go_at_call 37; ((with_reducible refine (L2.out _ _ H1.out).mono ?_); rintro e w2 ⟨rfl, ⟨⟨p0, p1⟩, ⟨p2, p3⟩, ⟨p4, p5⟩, q0, q1, q2, q3⟩, H2⟩)))
          obtain ⟨e0, e1, hb⟩ := NkS.fin H2.out D B
          have HB := Lib.hid hb
          clear hb
          go_region
          go_wp2
          refine bodyPost_ret (v := .tuple #[.agg #[.int .i64 D, .int .i64 B], _]) (by simp [results, Tryd.results12, go_sem, e0, e1]; rfl) rfl ⟨by simp [], HB.out⟩
        · by_cases hbp : 0 < Q
          · by_cases hbl : Q < B
            · have ea0 : (D != 0) = true := by simpa using haz
              have va : nkC P D = D := by unfold nkC; rw [if_neg (by omega)]
              have eb0 : (B != 0) = true := by simpa using hbz
              have vb : nkC Q B = Q := by unfold nkC; rw [if_pos ⟨by omega, by omega⟩]
              have nb : (Q == B) = false := by simp; omega
              have mb : (Q != B) = true := by simp; omega
              rw [va, vb]
              clear va vb
              go_enter Tryd.func12, Tryd.ntmps12
              go_upto_region 1 with (fail)
              rw [HW2.out]
              go_upto_region 8 with (first
                | (rw [HW3.out])
                | (go_at_call 37; ((with_reducible refine L1.out.mono ?_); rintro e w1 ⟨rfl, ⟨⟨x0, x1⟩, ⟨x2, x3⟩, ⟨x4, x5⟩, y0, y1, y2, y3⟩, H1⟩))
                | (go_at_call 37; ((with_reducible refine (L2.out _ _ H1.out).mono ?_); rintro e w2 ⟨rfl, ⟨⟨p0, p1⟩, ⟨p2, p3⟩, ⟨p4, p5⟩, q0, q1, q2, q3⟩, H2⟩)))
              obtain ⟨e0, e1, hb⟩ := NkS.fin (NkS.set1 H2.out Q) D Q
              have HB := Lib.hid hb
              clear hb
              go_region
              go_wp2
              refine bodyPost_ret (v := .tuple #[.agg #[.int .i64 D, .int .i64 Q], _]) (by simp [results, Tryd.results12, go_sem, e0, e1]; rfl) rfl ⟨by simp [nb, ], HB.out⟩
            · have ea0 : (D != 0) = true := by simpa using haz
              have va : nkC P D = D := by unfold nkC; rw [if_neg (by omega)]
              have eb0 : (B != 0) = true := by simpa using hbz
              have vb : nkC Q B = B := by unfold nkC; rw [if_neg (by omega)]
              rw [va, vb]
              clear va vb
              go_enter Tryd.func12, Tryd.ntmps12
              go_upto_region 1 with (fail)
              rw [HW2.out]
              go_upto_region 8 with (first
                | (rw [HW3.out])
                | (go_at_call 37; ((with_reducible refine L1.out.mono ?_); rintro e w1 ⟨rfl, ⟨⟨x0, x1⟩, ⟨x2, x3⟩, ⟨x4, x5⟩, y0, y1, y2, y3⟩, H1⟩))
                | (go_at_call 37; ((with_reducible refine (L2.out _ _ H1.out).mono ?_); rintro e w2 ⟨rfl, ⟨⟨p0, p1⟩, ⟨p2, p3⟩, ⟨p4, p5⟩, q0, q1, q2, q3⟩, H2⟩)))
              obtain ⟨e0, e1, hb⟩ := NkS.fin H2.out D B
              have HB := Lib.hid hb
              clear hb
              go_region
              go_wp2
              refine bodyPost_ret (v := .tuple #[.agg #[.int .i64 D, .int .i64 B], _]) (by simp [results, Tryd.results12, go_sem, e0, e1]; rfl) rfl ⟨by simp [], HB.out⟩
          · have ea0 : (D != 0) = true := by simpa using haz
            have va : nkC P D = D := by unfold nkC; rw [if_neg (by omega)]
            have eb0 : (B != 0) = true := by simpa using hbz
            have vb : nkC Q B = B := by unfold nkC; rw [if_neg (by omega)]
            rw [va, vb]
            clear va vb
            go_enter Tryd.func12, Tryd.ntmps12
            go_upto_region 1 with (fail)
            rw [HW2.out]
            go_upto_region 8 with (first
              | (rw [HW3.out])
              | (go_at_call 37; ((with_reducible refine L1.out.mono ?_); rintro e w1 ⟨rfl, ⟨⟨x0, x1⟩, ⟨x2, x3⟩, ⟨x4, x5⟩, y0, y1, y2, y3⟩, H1⟩))
              | (go_at_call 37; ((with_reducible refine (L2.out _ _ H1.out).mono ?_); rintro e w2 ⟨rfl, ⟨⟨p0, p1⟩, ⟨p2, p3⟩, ⟨p4, p5⟩, q0, q1, q2, q3⟩, H2⟩)))
            obtain ⟨e0, e1, hb⟩ := NkS.fin H2.out D B
            have HB := Lib.hid hb
            clear hb
            go_region
            go_wp2
            refine bodyPost_ret (v := .tuple #[.agg #[.int .i64 D, .int .i64 B], _]) (by simp [results, Tryd.results12, go_sem, e0, e1]; rfl) rfl ⟨by simp [], HB.out⟩
    · by_cases hbz : B = 0
      · have ea0 : (D != 0) = true := by simpa using haz
        have va : nkC P D = D := by unfold nkC; rw [if_neg (by omega)]
        have eb0 : (B != 0) = false := by rw [hbz]; rfl
        have vb : nkC Q B = B := by unfold nkC; rw [if_neg (by omega)]
        clear hbz
        rw [va, vb]
        clear va vb
        go_enter Tryd.func12, Tryd.ntmps12
        go_upto_region 1 with (fail)
        rw [HW2.out]
        go_upto_region 8 with (first
          | (rw [HW3.out])
          | (go_at_call 37; ((with_reducible refine L1.out.mono ?_); rintro e w1 ⟨rfl, ⟨⟨x0, x1⟩, ⟨x2, x3⟩, ⟨x4, x5⟩, y0, y1, y2, y3⟩, H1⟩))
          | (go_at_call 37; ((with_reducible refine (L2.out _ _ H1.out).mono ?_); rintro e w2 ⟨rfl, ⟨⟨p0, p1⟩, ⟨p2, p3⟩, ⟨p4, p5⟩, q0, q1, q2, q3⟩, H2⟩)))
        obtain ⟨e0, e1, hb⟩ := NkS.fin H2.out D B
        have HB := Lib.hid hb
        clear hb
        go_region
        go_wp2
        refine bodyPost_ret (v := .tuple #[.agg #[.int .i64 D, .int .i64 B], _]) (by simp [results, Tryd.results12, go_sem, e0, e1]; rfl) rfl ⟨by simp [], HB.out⟩
      · by_cases hbp : 0 < Q
        · by_cases hbl : Q < B
          · have ea0 : (D != 0) = true := by simpa using haz
            have va : nkC P D = D := by unfold nkC; rw [if_neg (by omega)]
            have eb0 : (B != 0) = true := by simpa using hbz
            have vb : nkC Q B = Q := by unfold nkC; rw [if_pos ⟨by omega, by omega⟩]
            have nb : (Q == B) = false := by simp; omega
            have mb : (Q != B) = true := by simp; omega
            rw [va, vb]
            clear va vb
            go_enter Tryd.func12, Tryd.ntmps12
            go_upto_region 1 with (fail)
            rw [HW2.out]
            go_upto_region 8 with (first
              | (rw [HW3.out])
              | (go_at_call 37; ((with_reducible refine L1.out.mono ?_); rintro e w1 ⟨rfl, ⟨⟨x0, x1⟩, ⟨x2, x3⟩, ⟨x4, x5⟩, y0, y1, y2, y3⟩, H1⟩))
              | (go_at_call 37; ((with_reducible refine (L2.out _ _ H1.out).mono ?_); rintro e w2 ⟨rfl, ⟨⟨p0, p1⟩, ⟨p2, p3⟩, ⟨p4, p5⟩, q0, q1, q2, q3⟩, H2⟩)))
            obtain ⟨e0, e1, hb⟩ := NkS.fin (NkS.set1 H2.out Q) D Q
            have HB := Lib.hid hb
            clear hb
            go_region
            go_wp2
            refine bodyPost_ret (v := .tuple #[.agg #[.int .i64 D, .int .i64 Q], _]) (by simp [results, Tryd.results12, go_sem, e0, e1]; rfl) rfl ⟨by simp [nb, ], HB.out⟩
          · have ea0 : (D != 0) = true := by simpa using haz
            have va : nkC P D = D := by unfold nkC; rw [if_neg (by omega)]
            have eb0 : (B != 0) = true := by simpa using hbz
            have vb : nkC Q B = B := by unfold nkC; rw [if_neg (by omega)]
            rw [va, vb]
            clear va vb
            go_enter Tryd.func12, Tryd.ntmps12
            go_upto_region 1 with (fail)
            rw [HW2.out]
            go_upto_region 8 with (first
              | (rw [HW3.out])
              | (go_at_call 37; ((with_reducible refine L1.out.mono ?_); rintro e w1 ⟨rfl, ⟨⟨x0, x1⟩, ⟨x2, x3⟩, ⟨x4, x5⟩, y0, y1, y2, y3⟩, H1⟩))
              | (go_at_call 37; ((with_reducible refine (L2.out _ _ H1.out).mono ?_); rintro e w2 ⟨rfl, ⟨⟨p0, p1⟩, ⟨p2, p3⟩, ⟨p4, p5⟩, q0, q1, q2, q3⟩, H2⟩)))
            obtain ⟨e0, e1, hb⟩ := NkS.fin H2.out D B
            have HB := Lib.hid hb
            clear hb
            go_region
            go_wp2
            refine bodyPost_ret (v := .tuple #[.agg #[.int .i64 D, .int .i64 B], _]) (by simp [results, Tryd.results12, go_sem, e0, e1]; rfl) rfl ⟨by simp [], HB.out⟩
        · have ea0 : (D != 0) = true := by simpa using haz
          have va : nkC P D = D := by unfold nkC; rw [if_neg (by omega)]
          have eb0 : (B != 0) = true := by simpa using hbz
          have vb : nkC Q B = B := by unfold nkC; rw [if_neg (by omega)]
          rw [va, vb]
          clear va vb
          go_enter Tryd.func12, Tryd.ntmps12
          go_upto_region 1 with (fail)
          rw [HW2.out]
          go_upto_region 8 with (first
            | (rw [HW3.out])
            | (go_at_call 37; ((with_reducible refine L1.out.mono ?_); rintro e w1 ⟨rfl, ⟨⟨x0, x1⟩, ⟨x2, x3⟩, ⟨x4, x5⟩, y0, y1, y2, y3⟩, H1⟩))
            | (go_at_call 37; ((with_reducible refine (L2.out _ _ H1.out).mono ?_); rintro e w2 ⟨rfl, ⟨⟨p0, p1⟩, ⟨p2, p3⟩, ⟨p4, p5⟩, q0, q1, q2, q3⟩, H2⟩)))
          obtain ⟨e0, e1, hb⟩ := NkS.fin H2.out D B
          have HB := Lib.hid hb
          clear hb
          go_region
          go_wp2
          refine bodyPost_ret (v := .tuple #[.agg #[.int .i64 D, .int .i64 B], _]) (by simp [results, Tryd.results12, go_sem, e0, e1]; rfl) rfl ⟨by simp [], HB.out⟩
theorem rreject22_any (D B : Int) (A : Option Addr) (n c Bb : Nat) (s : List Opt) (w : World) (hr0 : OptRd w Bb A n s) (hBb : Bb ≤ w.heap.size) (hn : n ≤ 4398046511103) :
    Calls Tryd.prog 15 #[.agg #[.int .i64 D, .int .i64 B], .slice A n c] w fun e w' => e = .returned (.agg #[.int .i64 (rjK 26 D s s.length), .int .i64 (rjK 21 B s s.length)]) ∧ Below w.heap.size w w' := by
  have hr := hr0.wide hBb
  have hlen := hr.1
  obtain ⟨X, hX⟩ : ∃ X, rjK 26 D s s.length = X := ⟨_, rfl⟩
  obtain ⟨Y, hY⟩ : ∃ Y, rjK 21 B s s.length = Y := ⟨_, rfl⟩
  rw [hX, hY]
  have HX := Lib.hid hX
  have HY := Lib.hid hY
  clear hX hY
  obtain ⟨W2, hW2⟩ : ∃ W2, (w.alloc (.cells #[.int .i64 D, .int .i64 B] 36)).alloc (.cells #[.int .i64 0, .int .i64 0] 36) = W2 := ⟨_, rfl⟩
  have B2 : Below w.heap.size w W2 := by rw [← hW2]; exact ((Below.refl _ _).alloc (Nat.le_refl _) _).alloc (by simp) _
  have s2 : W2.heap.size = w.heap.size + 2 := by rw [← hW2]; simp
  have kO : Blk W2 w.heap.size 36 [.int .i64 D, .int .i64 B] := by
    rw [← hW2]
    exact (Below.heap_alloc _ _ _ (by simp)).trans (blk_new w _ _)
  have kR : Blk W2 (w.heap.size + 1) 36 [.int .i64 0, .int .i64 0] := by
    rw [← hW2]
    have h := blk_new (w.alloc (.cells #[.int .i64 D, .int .i64 B] 36)) 36 [.int .i64 0, .int .i64 0]
    rw [World.size_alloc] at h
    exact h
  have HW := Lib.hid hW2
  have HR := Lib.hid hr
  have HK := Lib.hid kR
  have HT := Lib.hid kO
  have HB := Lib.hid B2
  clear hW2 kO kR B2 hr hr0
  go_enter Tryd.func15, Tryd.ntmps15
  go_upto_region 1 with (fail)
  rw [HW.out]
  clear HW
  go_wp2
  go_loopw [9] (fun i wr => ∃ (V : World) (k : Nat), V = wr ∧ k ≤ n ∧ i = .int .i64 k ∧ Hid (Blk V w.heap.size 36 [.int .i64 (rjK 26 D s k), .int .i64 (rjK 21 B s k)] ∧ W2.grownBy V (some w.heap.size))) (fun i _ => n - (intOf i).toNat)
  case atStart => exact ⟨_, 0, rfl, Nat.zero_le _, rfl, HT.out, World.grownBy.refl _ _⟩
  case round =>
    obtain ⟨V, k, rfl, hkn, rfl, hJ⟩ := hrel
    obtain ⟨hT, hG⟩ := hJ.out
    have hBw : Below w.heap.size w V := HB.out.grown hG (by omega) (fun q e => by injection e; omega)
    have sV := hG.size
    by_cases hlt : k < n
    · obtain ⟨b, off, rfl, hbl, hc⟩ := HR.out.2 (by omega)
      obtain ⟨x1, E, kk, d, x2, -⟩ := hc k (by omega)
      have hks : k < s.length := by omega
      have hl26 := left26 D s k hks
      have hl21 := left21 B s k hks
      obtain ⟨K, hK⟩ : ∃ K, (s[k]'(by omega)).1 = K := ⟨_, rfl⟩
      rw [hK] at x1 hl26 hl21
      have v1 : V.cell? ⟨b, off + k * 2, none⟩ = some (.int .i64 K) := (hBw.cell hbl).trans x1
      have v2 : V.cell? ⟨b, off + k * 2 + 1, none⟩ = some (.slice E kk d) := (hBw.cell hbl).trans x2
      have hbV : b < V.heap.size := by omega
      have BA : Below V.heap.size V (V.alloc (.cells #[.int .i64 K, .slice E kk d] 61)) := (Below.refl _ _).alloc (Nat.le_refl _) _
      have hT2 : Blk (V.alloc (.cells #[.int .i64 K, .slice E kk d] 61)) w.heap.size 36 [.int .i64 (rjK 26 D s k), .int .i64 (rjK 21 B s k)] := (BA.block _ (Blk.lt hT)).trans hT
      have HG := Lib.hid (grown_into hG BA)
      have t0 := hT2.cell 0
      have t1 := hT2.cell 1
      have f0 := hT2.frozen 0
      have f1 := hT2.frozen 1
      have HT2 := Lib.hid hT2
      have R26 : rjK 26 D s (k + 1) = tkD (rjK 26 D s k) K := hl26.symm
      have R21 : rjK 21 B s (k + 1) = tkB (rjK 21 B s k) K := hl21.symm
      generalize rjK 26 D s k = q26 at *
      generalize rjK 21 B s k = q21 at *
      have HR26 := Lib.hid R26
      have HR21 := Lib.hid R21
      clear hc hK x1 x2 hJ hT hG hBw hl26 hl21 hT2 BA R26 R21
      by_cases h26 : K = 26
      · subst h26
        go_wp2
        go_roundw
        case rel => exact ⟨_, k + 1, rfl, by omega, by go_num, by rw [HR26.out, HR21.out]; exact Blk.set_ HT2.out 0 _, grown_cell HG.out⟩
        case measure => simp [intOf]; omega
      · have g26 : (K == 26) = false := by simpa using h26
        by_cases h21 : K = 21
        · subst h21
          clear h26
          go_wp2
          go_roundw
          case rel => exact ⟨_, k + 1, rfl, by omega, by go_num, by rw [HR26.out, HR21.out]; exact Blk.set_ HT2.out 1 _, grown_cell HG.out⟩
          case measure => simp [intOf]; omega
        · have g21 : (K == 21) = false := by simpa using h21
          have HT3 := Lib.hid (show tkD q26 K = q26 ∧ tkB q21 K = q21 from ⟨if_neg h26, if_neg h21⟩)
          clear h26 h21
          go_wp2
          go_roundw
          case rel => exact ⟨_, k + 1, rfl, by omega, by go_num, by rw [HR26.out, HR21.out, HT3.out.1, HT3.out.2]; exact HT2.out, HG.out⟩
          case measure => simp [intOf]; omega
    · have hke : k = n := by omega
      subst hke
      have kR := (hG.block _ (Blk.lt HK.out) (fun e => by injection e; omega)).trans HK.out
      have kR : Blk V (w.heap.size + 1) 36 [.int .i64 0, .int .i64 0] := kR
      rw [← hlen, HX.out, HY.out] at hT
      have t0 := hT.cell 0
      have t1 := hT.cell 1
      have r0 := kR.cell 0
      have r1 := kR.cell 1
      have f0 := kR.frozen 0
      have f1 := kR.frozen 1
      have kE := Blk.set_ (Blk.set_ kR 0 (.int .i64 X)) 1 (.int .i64 Y)
      have FN : Hid (Below w.heap.size w ((V.setCell ⟨w.heap.size + 1, 0, none⟩ (.int .i64 X)).setCell ⟨w.heap.size + 1, 1, none⟩ (.int .i64 Y))) := (hBw.setCell (by show w.heap.size ≤ w.heap.size + 1; omega) _).setCell (by show w.heap.size ≤ w.heap.size + 1; omega) _
      have e0 := kE.cell 0
      have e1 := kE.cell 1
      clear kE hJ hT hG hBw kR
      go_wp2
      exact bodyPost_ret (v := .agg #[.int .i64 X, .int .i64 Y]) (by simp [results, Tryd.results15, go_sem, e0, e1]) rfl ⟨rfl, FN.out⟩
end Go.Proofs.YtlpboleclehilaaDoor
namespace Go.Proofs.YtlpboleclehilaaDoor
open Go.RowKit
set_option maxRecDepth 100000
set_option maxHeartbeats 4000000
set_option linter.unusedSimpArgs false
set_option linter.unusedVariables false

def OtS (w W : World) (cv : Array Value) (K : Int) (E : Option Addr) (m c : Nat) : Prop := Blk W w.heap.size 25 cv.toList ∧ Blk W (w.heap.size + 1) 61 [.int .i64 K, .slice E m c] ∧ Blk W (w.heap.size + 2) 61 [.int .i64 0, .slice none 0 0] ∧ Below w.heap.size w W
def OtF (w W : World) (D B : Int) (K : Int) (E : Option Addr) (m c : Nat) : Prop := (W.cell? ⟨w.heap.size, 16, none⟩ = some (.int .i64 D) ∧ W.cell? ⟨w.heap.size, 17, none⟩ = some (.int .i64 B)) ∧ (W.cell? ⟨w.heap.size + 1, 0, none⟩ = some (.int .i64 K) ∧ W.cell? ⟨w.heap.size + 1, 1, none⟩ = some (.slice E m c)) ∧ (W.cell? ⟨w.heap.size + 2, 0, none⟩ = some (.int .i64 0) ∧ W.cell? ⟨w.heap.size + 2, 1, none⟩ = some (.slice none 0 0)) ∧ (W.frozen? ⟨w.heap.size + 2, 0, none⟩ = false ∧ W.frozen? ⟨w.heap.size + 2, 1, none⟩ = false)
theorem OtS.facts {w W : World} {cv : Array Value} {D B mf K : Int} {E : Option Addr} {m c : Nat} (h : OtS w W cv K E m c) (hcf : ConfC cv D B mf) : OtF w W D B K E m c := by
  obtain ⟨a, b, d, -⟩ := h
  exact ⟨⟨by rw [a.cell 16, Array.getElem?_toList]; exact hcf.2.1, by rw [a.cell 17, Array.getElem?_toList]; exact hcf.2.2.1⟩, ⟨b.cell 0, b.cell 1⟩, ⟨d.cell 0, d.cell 1⟩, d.frozen 0, d.frozen 1⟩
theorem OtS.later {w W V : World} {cv : Array Value} {K : Int} {E : Option Addr} {m c : Nat} (h : OtS w W cv K E m c) (hb : Below W.heap.size W V) : OtS w V cv K E m c := by
  obtain ⟨a, b, d, e⟩ := h
  exact ⟨(hb.block _ (Blk.lt a)).trans a, (hb.block _ (Blk.lt b)).trans b, (hb.block _ (Blk.lt d)).trans d, e.trans (hb.mono e.size)⟩
theorem OtS.fin {w W : World} {cv : Array Value} {K : Int} {E : Option Addr} {m c : Nat} (h : OtS w W cv K E m c) (X : Int) (v : Value) : ((W.setCell ⟨w.heap.size + 2, 0, none⟩ (.int .i64 X)).setCell ⟨w.heap.size + 2, 1, none⟩ v).cell? ⟨w.heap.size + 2, 0, none⟩ = some (.int .i64 X) ∧
    ((W.setCell ⟨w.heap.size + 2, 0, none⟩ (.int .i64 X)).setCell ⟨w.heap.size + 2, 1, none⟩ v).cell? ⟨w.heap.size + 2, 1, none⟩ = some v ∧ Below w.heap.size w ((W.setCell ⟨w.heap.size + 2, 0, none⟩ (.int .i64 X)).setCell ⟨w.heap.size + 2, 1, none⟩ v) ∧ (∀ u l, Own W (w.heap.size + 3) u l → Own ((W.setCell ⟨w.heap.size + 2, 0, none⟩ (.int .i64 X)).setCell ⟨w.heap.size + 2, 1, none⟩ v) w.heap.size u l) := by
  obtain ⟨a, b, d, e⟩ := h
  have k := Blk.set_ (Blk.set_ d 0 (.int .i64 X)) 1 v
  refine ⟨k.cell 0, k.cell 1, (e.setCell (by show w.heap.size ≤ w.heap.size + 2; omega) _).setCell (by show w.heap.size ≤ w.heap.size + 2; omega) _, fun u l ho => ?_⟩
  have hne : u.ownBlock = none ∨ u.ownBlock ≠ some (w.heap.size + 2) := by
    rcases hq : u.ownBlock with _ | q
    · exact .inl rfl
    · have := (ho.block q hq).1
      exact .inr (fun e => by injection e; omega)
  have h2 : W.grownBy ((W.setCell ⟨w.heap.size + 2, 0, none⟩ (.int .i64 X)).setCell ⟨w.heap.size + 2, 1, none⟩ v) (some (w.heap.size + 2)) := grown_cell (only_set (p := ⟨w.heap.size + 2, 0, none⟩) _)
  exact (ho.grown h2 hne).base_le (by omega)
/-- behind says: the data of either -/
def OtC (w : World) (cv : Array Value) (D B K : Int) (E : Option Addr) (m c : Nat) (Z : Int) (W3 : World) : Prop :=
  Calls Tryd.prog 48 #[.agg #[.int .i64 K, .slice E m c]] W3 fun e w1 => e = .returned (.int .i64 Z) ∧ OtF w w1 D B K E m c ∧ Hid (OtS w w1 cv K E m c) ∧
    Hid (Calls Tryd.prog 49 #[.int .i64 D] w1 fun e w2 => ∃ g, e = .returned (.slice (some ⟨g, 0, none⟩) 2 2) ∧ OtF w w2 D B K E m c ∧ Hid (OtS w w2 cv K E m c ∧ Own w2 (w.heap.size + 3) (.slice (some ⟨g, 0, none⟩) 2 2) (dat 26 D))) ∧
    Hid (Calls Tryd.prog 50 #[.int .i64 B] w1 fun e w2 => ∃ g, e = .returned (.slice (some ⟨g, 0, none⟩) 1 1) ∧ OtF w w2 D B K E m c ∧ Hid (OtS w w2 cv K E m c ∧ Own w2 (w.heap.size + 3) (.slice (some ⟨g, 0, none⟩) 1 1) (dat 21 B)))
theorem ot_calls {w W3 : World} {cv : Array Value} {D B mf K : Int} {E : Option Addr} {m c Bb : Nat} {l : List UInt8} (hcf : ConfC cv D B mf) (hr : Rd w Bb E m l) (hBb : Bb ≤ w.heap.size) (h : OtS w W3 cv K E m c) (h3 : w.heap.size + 3 ≤ W3.heap.size) : OtC w cv D B K E m c (says K l) W3 := by
  have hb := h.2.2.2
  unfold OtC
  refine (rsays_any K E m c Bb l W3 (hr.below (hb.mono hBb)) (by omega)).mono ?_
  rintro e w1 ⟨rfl, b1⟩
  have t1 := b1.size
  refine ⟨rfl, (h.later b1).facts hcf, Lib.hid (h.later b1), Lib.hid ?_, Lib.hid ?_⟩
  · refine (rdeflate_any D w1).mono ?_
    rintro e w2 ⟨g, rfl, ho, b2⟩
    exact ⟨g, rfl, ((h.later b1).later b2).facts hcf, Lib.hid ⟨(h.later b1).later b2, ho.base_le (by omega)⟩⟩
  · refine (rbsd_any B w1).mono ?_
    rintro e w2 ⟨g, rfl, ho, b2⟩
    exact ⟨g, rfl, ((h.later b1).later b2).facts hcf, Lib.hid ⟨(h.later b1).later b2, ho.base_le (by omega)⟩⟩
theorem ot_start {w : World} {cv : Array Value} {K : Int} {E : Option Addr} {m c : Nat} : OtS w (((w.alloc (.cells cv 25)).alloc (.cells #[.int .i64 K, .slice E m c] 61)).alloc (.cells #[.int .i64 0, .slice none 0 0] 61)) cv K E m c := by
  have k0 : Blk (w.alloc (.cells cv 25)) w.heap.size 25 cv.toList := blk_new w _ cv.toList
  have k1 : Blk ((w.alloc (.cells cv 25)).alloc (.cells #[.int .i64 K, .slice E m c] 61)) (w.heap.size + 1) 61 [.int .i64 K, .slice E m c] := by
    have h := blk_new (w.alloc (.cells cv 25)) 61 [.int .i64 K, .slice E m c]
    rw [World.size_alloc] at h
    exact h
  have k2 := blk_new ((w.alloc (.cells cv 25)).alloc (.cells #[.int .i64 K, .slice E m c] 61)) 61 [.int .i64 0, .slice none 0 0]
  rw [World.size_alloc, World.size_alloc] at k2
  exact ⟨(Below.heap_alloc _ _ _ (by simp; omega)).trans ((Below.heap_alloc _ _ _ (by simp)).trans k0), (Below.heap_alloc _ _ _ (by simp)).trans k1, k2, (((Below.refl _ _).alloc (Nat.le_refl _) _).alloc (by simp) _).alloc (by simp; omega) _⟩
def OtYes (w : World) (D B K : Int) (e : Ending) (w' : World) : Prop := ∃ g p, e = .returned (.tuple #[.agg #[.int .i64 K, .slice (some ⟨g, 0, none⟩) p p], .bool true]) ∧ p = szK K ∧ Own w' w.heap.size (.slice (some ⟨g, 0, none⟩) p p) (dat K (cK D B K)) ∧ Below w.heap.size w w'
theorem rother_yes (cv : Array Value) (D B mf K : Int) (E : Option Addr) (m c Bb : Nat) (l : List UInt8) (w : World) (hcf : ConfC cv D B mf) (hr : Rd w Bb E m l) (hBb : Bb ≤ w.heap.size) (hK : K = 26 ∨ K = 21) (h : says K l = 0 ∨ cK D B K < says K l) :
    Calls Tryd.prog 33 #[.agg cv, .agg #[.int .i64 K, .slice E m c]] w fun e w' => OtYes w D B K e w' := by
  obtain ⟨W3, hW3⟩ : ∃ W3, ((w.alloc (.cells cv 25)).alloc (.cells #[.int .i64 K, .slice E m c] 61)).alloc (.cells #[.int .i64 0, .slice none 0 0] 61) = W3 := ⟨_, rfl⟩
  have S3 : OtS w W3 cv K E m c := by rw [← hW3]; exact ot_start
  have s3 : W3.heap.size = w.heap.size + 3 := by rw [← hW3]; simp
  obtain ⟨-, ⟨c2, c3⟩, -⟩ := S3.facts hcf
  have CC := ot_calls hcf hr hBb S3 (by omega)
  obtain ⟨Z, hZ⟩ : ∃ Z, says K l = Z := ⟨_, rfl⟩
  rw [hZ] at CC h
  unfold OtC OtF at CC
  have CC := Lib.hid CC
  have HW := Lib.hid hW3
  clear hW3 S3 hZ hcf hr
  rcases hK with rfl | rfl
  · have h : Z = 0 ∨ D < Z := h
    by_cases hz : Z = 0
    · have ez : (Z == 0) = true := by simpa using hz
      clear h hz
      go_enter Tryd.func33, Tryd.ntmps33
      go_upto_region 1 with (fail)
      rw [HW.out]
      go_wp2_with (first
        | (go_at_call 48; ((with_reducible refine CC.out.mono ?_); rintro e w1 ⟨rfl, ⟨⟨x0, x1⟩, ⟨x2, x3⟩, ⟨x4, x5⟩, y0, y1⟩, H1, CD, CB⟩))
        | (go_at_call 49; ((with_reducible refine CD.out.mono ?_); rintro e w2 ⟨g, rfl, ⟨⟨p0, p1⟩, ⟨p2, p3⟩, ⟨p4, p5⟩, q0, q1⟩, H2⟩)))
      obtain ⟨e0, e1, hb, ho⟩ := OtS.fin H2.out.1 26 (.slice (some ⟨g, 0, none⟩) 2 2)
      exact bodyPost_ret (v := .tuple #[.agg #[.int .i64 26, .slice (some ⟨g, 0, none⟩) 2 2], .bool true]) (by simp [results, Tryd.results33, go_sem, e0, e1]) rfl ⟨g, 2, rfl, rfl, ho _ _ H2.out.2, hb⟩
    · have ez : (Z == 0) = false := by simpa using hz
      have hg : D < Z := h.resolve_left hz
      clear h hz
      go_enter Tryd.func33, Tryd.ntmps33
      go_upto_region 1 with (fail)
      rw [HW.out]
      go_wp2_with (first
        | (go_at_call 48; ((with_reducible refine CC.out.mono ?_); rintro e w1 ⟨rfl, ⟨⟨x0, x1⟩, ⟨x2, x3⟩, ⟨x4, x5⟩, y0, y1⟩, H1, CD, CB⟩))
        | (go_at_call 49; ((with_reducible refine CD.out.mono ?_); rintro e w2 ⟨g, rfl, ⟨⟨p0, p1⟩, ⟨p2, p3⟩, ⟨p4, p5⟩, q0, q1⟩, H2⟩)))
      obtain ⟨e0, e1, hb, ho⟩ := OtS.fin H2.out.1 26 (.slice (some ⟨g, 0, none⟩) 2 2)
      exact bodyPost_ret (v := .tuple #[.agg #[.int .i64 26, .slice (some ⟨g, 0, none⟩) 2 2], .bool true]) (by simp [results, Tryd.results33, go_sem, e0, e1]) rfl ⟨g, 2, rfl, rfl, ho _ _ H2.out.2, hb⟩
  · have h : Z = 0 ∨ B < Z := h
    by_cases hz : Z = 0
    · have ez : (Z == 0) = true := by simpa using hz
      clear h hz
      go_enter Tryd.func33, Tryd.ntmps33
      go_upto_region 1 with (fail)
      rw [HW.out]
      go_wp2_with (first
        | (go_at_call 48; ((with_reducible refine CC.out.mono ?_); rintro e w1 ⟨rfl, ⟨⟨x0, x1⟩, ⟨x2, x3⟩, ⟨x4, x5⟩, y0, y1⟩, H1, CD, CB⟩))
        | (go_at_call 50; ((with_reducible refine CB.out.mono ?_); rintro e w2 ⟨g, rfl, ⟨⟨p0, p1⟩, ⟨p2, p3⟩, ⟨p4, p5⟩, q0, q1⟩, H2⟩)))
      obtain ⟨e0, e1, hb, ho⟩ := OtS.fin H2.out.1 21 (.slice (some ⟨g, 0, none⟩) 1 1)
      exact bodyPost_ret (v := .tuple #[.agg #[.int .i64 21, .slice (some ⟨g, 0, none⟩) 1 1], .bool true]) (by simp [results, Tryd.results33, go_sem, e0, e1]) rfl ⟨g, 1, rfl, rfl, ho _ _ H2.out.2, hb⟩
    · have ez : (Z == 0) = false := by simpa using hz
      have hg : B < Z := h.resolve_left hz
      clear h hz
      go_enter Tryd.func33, Tryd.ntmps33
      go_upto_region 1 with (fail)
      rw [HW.out]
      go_wp2_with (first
        | (go_at_call 48; ((with_reducible refine CC.out.mono ?_); rintro e w1 ⟨rfl, ⟨⟨x0, x1⟩, ⟨x2, x3⟩, ⟨x4, x5⟩, y0, y1⟩, H1, CD, CB⟩))
        | (go_at_call 50; ((with_reducible refine CB.out.mono ?_); rintro e w2 ⟨g, rfl, ⟨⟨p0, p1⟩, ⟨p2, p3⟩, ⟨p4, p5⟩, q0, q1⟩, H2⟩)))
      obtain ⟨e0, e1, hb, ho⟩ := OtS.fin H2.out.1 21 (.slice (some ⟨g, 0, none⟩) 1 1)
      exact bodyPost_ret (v := .tuple #[.agg #[.int .i64 21, .slice (some ⟨g, 0, none⟩) 1 1], .bool true]) (by simp [results, Tryd.results33, go_sem, e0, e1]) rfl ⟨g, 1, rfl, rfl, ho _ _ H2.out.2, hb⟩
theorem rother_no (cv : Array Value) (D B mf K : Int) (E : Option Addr) (m c Bb : Nat) (l : List UInt8) (w : World) (hcf : ConfC cv D B mf) (hr : Rd w Bb E m l) (hBb : Bb ≤ w.heap.size) (hK : K = 26 ∨ K = 21) (h : ¬ (says K l = 0 ∨ cK D B K < says K l)) :
    Calls Tryd.prog 33 #[.agg cv, .agg #[.int .i64 K, .slice E m c]] w fun e w' => e = .returned (.tuple #[.agg #[.int .i64 K, .slice E m c], .bool false]) ∧ Below w.heap.size w w' := by
  obtain ⟨W3, hW3⟩ : ∃ W3, ((w.alloc (.cells cv 25)).alloc (.cells #[.int .i64 K, .slice E m c] 61)).alloc (.cells #[.int .i64 0, .slice none 0 0] 61) = W3 := ⟨_, rfl⟩
  have S3 : OtS w W3 cv K E m c := by rw [← hW3]; exact ot_start
  have s3 : W3.heap.size = w.heap.size + 3 := by rw [← hW3]; simp
  obtain ⟨-, ⟨c2, c3⟩, -⟩ := S3.facts hcf
  have CC := ot_calls hcf hr hBb S3 (by omega)
  obtain ⟨Z, hZ⟩ : ∃ Z, says K l = Z := ⟨_, rfl⟩
  rw [hZ] at CC h
  unfold OtC OtF at CC
  have CC := Lib.hid CC
  have HW := Lib.hid hW3
  clear hW3 S3 hZ hcf hr
  have ez : (Z == 0) = false := by simpa using fun e => h (.inl e)
  rcases hK with rfl | rfl
  · have hg : ¬ D < Z := fun e => h (.inr e)
    clear h
    go_enter Tryd.func33, Tryd.ntmps33
    go_upto_region 1 with (fail)
    rw [HW.out]
    go_wp2_with (go_at_call 48; ((with_reducible refine CC.out.mono ?_); rintro e w1 ⟨rfl, ⟨⟨x0, x1⟩, ⟨x2, x3⟩, ⟨x4, x5⟩, y0, y1⟩, H1, CD, CB⟩))
    obtain ⟨e0, e1, hb, -⟩ := OtS.fin H1.out 26 (.slice E m c)
    exact bodyPost_ret (v := .tuple #[.agg #[.int .i64 26, .slice E m c], .bool false]) (by simp [results, Tryd.results33, go_sem, e0, e1]) rfl ⟨rfl, hb⟩
  · have hg : ¬ B < Z := fun e => h (.inr e)
    clear h
    go_enter Tryd.func33, Tryd.ntmps33
    go_upto_region 1 with (fail)
    rw [HW.out]
    go_wp2_with (go_at_call 48; ((with_reducible refine CC.out.mono ?_); rintro e w1 ⟨rfl, ⟨⟨x0, x1⟩, ⟨x2, x3⟩, ⟨x4, x5⟩, y0, y1⟩, H1, CD, CB⟩))
    obtain ⟨e0, e1, hb, -⟩ := OtS.fin H1.out 21 (.slice E m c)
    exact bodyPost_ret (v := .tuple #[.agg #[.int .i64 21, .slice E m c], .bool false]) (by simp [results, Tryd.results33, go_sem, e0, e1]) rfl ⟨rfl, hb⟩
end Go.Proofs.YtlpboleclehilaaDoor
