/-
  opt.Subset of any two lists.
-/
import Derived.Test.YtonbdcajepmgbaaDoorOpWithout
import Derived.Deep.RegionLaw
import Derived.BigQuiet
namespace Go.Proofs.YtonbdcajepmgbaaDoor
open Go.RowKit
set_option maxRecDepth 100000
set_option maxHeartbeats 4000000
set_option linter.unusedSimpArgs false
set_option linter.unusedVariables false

theorem oslice_elem : Tryd.prog.elem 22 = 28 := by kernel_rfl
theorem option_sizeOf (w : World) : (Go.sizeOf 28).run Tryd.prog w = .ok 2 w := by kernel_rfl
theorem o_tail (b off n c : Nat) (h1 : 1 ≤ n) (h2 : n ≤ c) : ∃ o', (c - 1 = 0 ∧ o' = off ∨ o' = off + 2) ∧ ∀ W, (Instr.slice 22 (.slice (some ⟨b, off, none⟩) n c) (some (.int .i64 1)) none none).run Tryd.prog W = .ok (.slice (some ⟨b, o', none⟩) (n - 1) (c - 1)) W := by
  refine ⟨if c = 1 then off else off + 2, ?_, fun W => ?_⟩
  · split
    · left; omega
    · right; rfl
  · rw [run_slice_l W 22 _ _ _ (by rw [oslice_elem]; exact Tryd.underlying22) .i64 _ (by omega) (by omega), oslice_elem, option_sizeOf]
    simp only [Result.andThen_ok, sliced]
    congr 2
    split
    · rename_i h
      rw [if_pos (show c = 1 from h)]
    · rename_i h
      rw [if_neg (show ¬ c = 1 from h)]
      simp [Addr.add]
theorem OptRd.tail' {w : World} {B n b off o' c : Nat} {x : Opt} {s : List Opt} (h : OptRd w B (some ⟨b, off, none⟩) (n + 1) (x :: s)) (hc : n + 1 ≤ c) (ho : c - 1 = 0 ∧ o' = off ∨ o' = off + 2) : OptRd w B (some ⟨b, o', none⟩) n s := by
  rcases ho with ⟨h1, _⟩ | rfl
  · have hn : n = 0 := by omega
    subst hn
    have : s = [] := List.eq_nil_of_length_eq_zero (by simpa using h.1)
    subst this
    exact OptRd.nil
  · exact h.tail
theorem eat_take (s t : List Opt) (k : Nat) (h : k < t.length) : (t.take (k + 1)).foldl eat s = eat ((t.take k).foldl eat s) t[k] := by
  rw [List.take_succ_eq_append_getElem h, List.foldl_append]
  rfl
/-- where a subset stands: what is left of the first list -/
def SubJ (w wr : World) (v : Value) (s : List Opt) : Prop := ∃ A n c, v = .slice A n c ∧ OptRd wr w.heap.size A n s ∧ n ≤ c ∧ n ≤ 4398046511104 ∧ Below w.heap.size w wr
theorem below_undrew {w w' : World} (h : Below w.drew.heap.size w.drew w') : Below w.heap.size w w' := ⟨h.os, h.tape, h.output, h.size, fun i hi => h.block i hi⟩
theorem SubJ.drewN {w wr : World} {v : Value} {s : List Opt} (h : SubJ w wr v s) (k : Nat) : SubJ w (wr.drewN k) v s := by
  obtain ⟨A, n, c, h1, h2, h3, h4, h5⟩ := h
  exact ⟨A, n, c, h1, h2, h3, h4, below_drewN h5 k⟩
theorem subset_any (A : Option Addr) (n c B : Nat) (s : List Opt) (D : Option Addr) (m d : Nat) (t : List Opt) (w : World) (hr : OptRd w B A n s) (hB : B ≤ w.heap.size) (hnc : n ≤ c) (hn : n ≤ 4398046511104) (hq : OptRd w B D m t) (hm : m ≤ 4398046511104) :
    Calls Tryd.prog 17 #[.slice A n c, .slice D m d] w fun e w' => e = .returned (.bool (decide (t.foldl eat s = []))) ∧ Below w.heap.size w w' := by
  have HR := Lib.hid hr
  have HQ := Lib.hid hq
  clear hr hq
  go_enter Tryd.func17, Tryd.ntmps17
  go_wp2
  go_loopw [0, 9] (fun v i wr => ∃ k : Nat, k ≤ m ∧ i = .int .i64 k ∧ Hid (SubJ w wr v ((t.take k).foldl eat s))) (fun _ i _ => m - (intOf i).toNat)
  case atStart => exact ⟨0, Nat.zero_le _, rfl, A, n, c, rfl, HR.out.wide hB, hnc, hn, Below.refl _ _⟩
  case round =>
    rename_i wr
    obtain ⟨k, hkm, rfl, hJ⟩ := hrel
    have hlen := HQ.out.1
    obtain ⟨A1, n1, c1, rfl, hRs, hnc1, hn1, hBw⟩ := hJ.out
    have s1 := hBw.size
    obtain ⟨r, hr⟩ : ∃ r, (t.take k).foldl eat s = r := ⟨_, rfl⟩
    rw [hr] at hRs
    by_cases hlt : k < m
    · obtain ⟨b, off, rfl, hbl, hc⟩ := HQ.out.2 (by omega)
      obtain ⟨x1, E, kk, cc, x2, hRd, hE, hkc, hkb⟩ := hc k (by omega)
      have hbz : b < w.heap.size := by omega
      obtain ⟨y, hy⟩ : ∃ y, t[k]'(by omega) = y := ⟨_, rfl⟩
      have hstep := eat_take s t k (by omega)
      rw [hy, hr] at hstep
      rw [hy] at x1 hRd
      obtain ⟨K, l⟩ := y
      have d1 : wr.cell? ⟨b, off + k * 2, none⟩ = some (.int .i64 K) := (hBw.cell hbz).trans x1
      have d2 : wr.cell? ⟨b, off + k * 2 + 1, none⟩ = some (.slice E kk cc) := (hBw.cell hbz).trans x2
      have BA : Below wr.heap.size wr (wr.alloc (.cells #[.int .i64 K, .slice E kk cc] 28)) := (Below.refl _ _).alloc (Nat.le_refl _) _
      have BW : Below w.heap.size w (wr.alloc (.cells #[.int .i64 K, .slice E kk cc] 28)) := hBw.alloc s1 _
      rcases r with _ | ⟨⟨J, p⟩, r⟩
      · have h0 : n1 = 0 := hRs.1.symm
        subst h0
        have HN : Hid (SubJ w (wr.alloc (.cells #[.int .i64 K, .slice E kk cc] 28)) (.slice A1 0 c1) ((t.take (k + 1)).foldl eat s)) := by
          rw [hstep]
          exact ⟨A1, 0, c1, rfl, OptRd.nil, hnc1, hn1, BW⟩
        have hd : decide ((0 : Int) < ((0 : Nat) : Int)) = false := by simp
        clear hc x1 x2 hy hstep hJ hRs hBw BA BW hRd hlen hr
        go_wp2
        go_quiet (fail)
        go_wp2
        go_roundw
        case rel => exact ⟨k + 1, by omega, by go_num, HN.out.drewN _⟩
        case measure => simp [intOf]; omega
      · obtain ⟨n2, rfl⟩ : ∃ n2, n1 = n2 + 1 := ⟨n1 - 1, by have := hRs.1; simp at this; omega⟩
        obtain ⟨b1, off1, rfl, hb1, hc1⟩ := hRs.2 (by omega)
        obtain ⟨z1, E1, k1, cc1, z2, hRd1, hE1, hkc1, hkb1⟩ := hc1 0 (by simp)
        rw [Nat.zero_mul, Nat.add_zero] at z1 z2
        have hb1r : b1 < wr.heap.size := by omega
        have hd : decide ((0 : Int) < ((n2 + 1 : Nat) : Int)) = true := by simp
        have AL := Lib.hid (alike_any J K E1 E k1 kk cc1 cc w.heap.size p l (wr.alloc (.cells #[.int .i64 K, .slice E kk cc] 28)).drew (hRd1.below (BA.mono s1)).drew ((hRd.below (BW.mono hB)).wide hB).drew (by show _ ≤ (wr.alloc _).heap.size; simp; omega))
        obtain ⟨o', ho', hsl⟩ := o_tail b1 off1 (n2 + 1) c1 (by omega) hnc1
        have HN : Hid (∀ w3, Below (wr.alloc (.cells #[.int .i64 K, .slice E kk cc] 28)).heap.size (wr.alloc (.cells #[.int .i64 K, .slice E kk cc] 28)) w3 → SubJ w w3 (.slice (some ⟨b1, off1, none⟩) (n2 + 1) c1) ((J, p) :: r) ∧ SubJ w w3 (.slice (some ⟨b1, o', none⟩) n2 (c1 - 1)) r) := by
          intro w3 h3
          have B0 : Below w.heap.size w w3 := BW.trans (h3.mono (by simp; omega))
          have R3 : OptRd w3 w.heap.size (some ⟨b1, off1, none⟩) (n2 + 1) ((J, p) :: r) := (hRs.below BA s1).below h3 (by simp; omega)
          exact ⟨⟨_, _, _, rfl, R3, hnc1, hn1, B0⟩, _, _, _, rfl, R3.tail' hnc1 ho', by omega, by omega, B0⟩
        by_cases hal : J = K ∧ p = l
        · rw [show decide (J = K ∧ p = l) = true by simpa using hal] at AL
          have he : eat ((J, p) :: r) (K, l) = r := by
            show (if (J, p) = (K, l) then r else _) = r
            rw [if_pos (by rw [hal.1, hal.2])]
          rw [he] at hstep
          have HS := Lib.hid hstep
          have HSL := hsl
          clear hc x1 x2 hy hstep hJ hRs hBw BA BW hRd hlen hr hc1 hRd1 ho' hal he hsl
          go_wp2
          go_region_law (go_simp; go_at_call 31; (with_reducible refine AL.out.mono ?_); rintro e w3 ⟨rfl, h3⟩; have H3 := Lib.hid (below_undrew h3); clear h3)
          all_goals
            go_wp2
            go_roundw
            case rel => exact ⟨k + 1, by omega, by go_num, by rw [HS.out]; exact (HN.out _ H3.out).2⟩
            case measure => simp [intOf]; omega
        · rw [show decide (J = K ∧ p = l) = false by simpa using hal] at AL
          have he : eat ((J, p) :: r) (K, l) = (J, p) :: r := by
            show (if (J, p) = (K, l) then r else (J, p) :: r) = (J, p) :: r
            rw [if_neg (fun e => hal (by injection e with e1 e2; exact ⟨e1, e2⟩))]
          rw [he] at hstep
          have HS := Lib.hid hstep
          clear hc x1 x2 hy hstep hJ hRs hBw BA BW hRd hlen hr hc1 hRd1 ho' hal he hsl
          go_wp2
          go_region_law (go_simp; go_at_call 31; (with_reducible refine AL.out.mono ?_); rintro e w3 ⟨rfl, h3⟩; have H3 := Lib.hid (below_undrew h3); clear h3)
          all_goals
            go_wp2
            go_roundw
            case rel => exact ⟨k + 1, by omega, by go_num, by rw [HS.out]; exact (HN.out _ H3.out).1⟩
            case measure => simp [intOf]; omega
    · rw [List.take_of_length_le (by omega)] at hr
      have hr0 := hRs.1
      by_cases h0 : n1 = 0
      · subst h0
        have : r = [] := List.eq_nil_of_length_eq_zero hr0
        subst this
        have HE := Lib.hid hr
        have HB := Lib.hid hBw
        clear hlen hRs hJ hBw hr hr0
        go_wp2
        go_ret
        exact ⟨by rw [HE.out]; rfl, HB.out⟩
      · have hne : r ≠ [] := fun e => h0 (by rw [← hr0, e]; rfl)
        have hd : (((n1 : Nat) : Int) == 0) = false := by simp; omega
        have HE := Lib.hid (And.intro hr hne)
        have HB := Lib.hid hBw
        clear hlen hRs hJ hBw hr hr0 hne
        go_wp2
        go_ret
        exact ⟨by rw [HE.out.1, decide_eq_false HE.out.2]; rfl, HB.out⟩
end Go.Proofs.YtonbdcajepmgbaaDoor
