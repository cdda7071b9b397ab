/-
  ccp.asked: the bits that an option asks for.
-/
import Derived.Test.YtlpboleclehilaaDoorCcSmall
import Derived.Test.YtlpboleclehilaaDoorCcStr
import Derived.Test.YtlpboleclehilaaDoorOpTail
import Derived.Deep.RegionHeld3
namespace Go.Proofs.YtlpboleclehilaaDoor
open Go.RowKit
set_option maxRecDepth 100000
set_option maxHeartbeats 2000000
set_option linter.unusedSimpArgs false
set_option linter.unusedVariables false

theorem beq_any (A D : Option Addr) (n m c d B : Nat) (l k : List UInt8) (w : World) (hr : Rd w B A n l) (hq : Rd w B D m k) :
    Calls Tryd.prog 46 #[.slice A n c, .slice D m d] w fun e w' => e = .returned (.bool (decide (l = k))) ∧ w = w' := by
  have h1 := conv_run hr c
  have h2 := conv_run hq d
  rw [← strOf_beq]
  generalize strOf l = s at *
  generalize strOf k = t at *
  clear hr hq
  go_enter Tryd.func46, Tryd.ntmps46
  go_wp2
  go_ret
  exact ⟨rfl, rfl⟩
theorem asked_any (K : Int) (D : Option Addr) (m c B : Nat) (l : List UInt8) (w : World) (hr : Rd w B D m l) (hB : B ≤ w.heap.size) (hm : m ≤ 140737488351232) :
    Calls Tryd.prog 28 #[.agg #[.int .i64 K, .slice D m c]] w fun e w' => e = .returned (.int .i64 (says K l)) ∧ Below w.heap.size w w' := by
  obtain ⟨W1, hW1⟩ : ∃ W1, w.alloc (.cells #[.int .i64 K, .slice D m c] 61) = W1 := ⟨_, rfl⟩
  have k1 : Blk W1 w.heap.size 61 [.int .i64 K, .slice D m c] := by rw [← hW1]; exact blk_new w _ _
  have B1 : Below w.heap.size w W1 := by rw [← hW1]; exact (Below.refl _ _).alloc (Nat.le_refl _) _
  have s1 : W1.heap.size = w.heap.size + 1 := by rw [← hW1]; simp
  have HW := Lib.hid hW1
  have HK := Lib.hid k1
  have HB1 := Lib.hid B1
  have HRD := Lib.hid (hr.below (B1.mono hB))
  have OF := fun W => ofield1 W K
  obtain ⟨S, hS⟩ : ∃ S, says K l = S := ⟨_, rfl⟩
  have HS := Lib.hid hS
  rw [hS]
  have hrg := says_range K l
  rw [hS] at hrg
  have HRG := Lib.hid hrg
  clear k1 B1 hW1 hr hS hrg
  go_enter Tryd.func28, Tryd.ntmps28
  go_upto_region 1 with (fail)
  rw [HW.out]
  clear HW
  go_wp2
  go_loopw [4] (fun i wr => ∃ (V : World) (k : Nat), V = wr ∧ k ≤ 16 ∧ i = .int .i64 k ∧ Hid (Below W1.heap.size W1 V ∧ (S = 0 ∨ (k : Int) ≤ S))) (fun i _ => 16 - (intOf i).toNat)
  case atStart => exact ⟨_, 0, rfl, by omega, rfl, Below.refl _ _, by have := HRG.out; omega⟩
  case round =>
    obtain ⟨V, k, rfl, hk, rfl, hJ⟩ := hrel
    by_cases hlt : k < 16
    · have hk16 : (k : Int) < 16 := by omega
      have hBV := hJ.out.1
      have kz : Blk V w.heap.size 61 [.int .i64 K, .slice D m c] := (hBV.block _ (by omega)).trans HK.out
      have c0 := kz.cell 0
      have c1 := kz.cell 1
      have CA : Hid (Calls Tryd.prog 41 #[.int .i64 K, .int .i64 k] V.drew fun e w' => e = .returned (.bool (canB K k)) ∧ V.drew = w') := can_any K k V.drew
      by_cases hc : canB K k = true
      · rw [hc] at CA
        have CO : Hid (Calls Tryd.prog 29 #[.int .i64 K, .int .i64 k] V.drew fun e w2 => ∃ g q, e = .returned (.agg #[.int .i64 K, .slice (some ⟨g, 0, none⟩) q q]) ∧ (w2.cell? ⟨w.heap.size, 0, none⟩ = some (.int .i64 K) ∧ w2.cell? ⟨w.heap.size, 1, none⟩ = some (.slice D m c)) ∧
            Hid (Calls Tryd.prog 46 #[.slice D m c, .slice (some ⟨g, 0, none⟩) q q] w2 fun e w3 => e = .returned (.bool (decide (l = dat K k))) ∧ w2 = w3) ∧ Hid (Below W1.heap.size W1 w2)) := by
          refine (option_any K k V.drew).mono ?_
          rintro e w2 ⟨g, rfl, ho, hb⟩
          have hb' : Below V.heap.size V w2 := below_undrew hb
          have hB2 := hBV.trans (hb'.mono hBV.size)
          have kz2 : Blk w2 w.heap.size 61 [.int .i64 K, .slice D m c] := (hb'.block _ (by have := hBV.size; omega)).trans kz
          have hrd := ho.rd (dat_len K k).symm _ (Nat.le_refl _)
          rw [List.take_of_length_le (by rw [dat_len]; omega)] at hrd
          refine ⟨g, szK K, rfl, ⟨kz2.cell 0, kz2.cell 1⟩, Lib.hid (beq_any _ _ _ _ _ _ w2.heap.size l (dat K k) w2 ?_ hrd), Lib.hid hB2⟩
          exact (HRD.out.below (hB2.mono (by omega))).wide (by have := hB2.size; omega)
        by_cases he : l = dat K k
        · have hsk : S = k := by rw [← HS.out, he]; exact says_dat hc
          rw [decide_eq_true he] at CO
          subst hsk
          clear he hc kz
          go_upto_region 4 with (fail)
          go_region_held3 (fun w' => w'.cell? ⟨w.heap.size, 0, none⟩ = some (.int .i64 K) ∧ w'.cell? ⟨w.heap.size, 1, none⟩ = some (.slice D m c)) (go_keep) (first
            | (go_at_call 41; ((with_reducible refine CA.out.mono ?_); rintro e w' ⟨rfl, rfl⟩))
            | (go_at_call 29; ((with_reducible refine CO.out.mono ?_); rintro e w2 ⟨g, q, rfl, ⟨c2, c3⟩, CE, HB2⟩))
            | (go_at_call 46; ((with_reducible refine CE.out.mono ?_); rintro e w3 ⟨rfl, rfl⟩)))
          all_goals
            go_wp2
            go_ret
            exact ⟨rfl, HB1.out.trans (HB2.out.mono HB1.out.size)⟩
        · have hsk : S ≠ k ∨ S = 0 := by
            by_cases h0 : S = 0
            · exact .inr h0
            · refine .inl fun e => he (dat_says (HS.out.trans e) (by omega)).2
          rw [decide_eq_false he] at CO
          have HJ2 : Hid (S = 0 ∨ ((k + 1 : Nat) : Int) ≤ S) := by have := hJ.out.2; show _ ∨ _; omega
          clear he hc kz hsk
          go_upto_region 4 with (fail)
          go_region_held3 (fun w' => w'.cell? ⟨w.heap.size, 0, none⟩ = some (.int .i64 K) ∧ w'.cell? ⟨w.heap.size, 1, none⟩ = some (.slice D m c)) (go_keep) (first
            | (go_at_call 41; ((with_reducible refine CA.out.mono ?_); rintro e w' ⟨rfl, rfl⟩))
            | (go_at_call 29; ((with_reducible refine CO.out.mono ?_); rintro e w2 ⟨g, q, rfl, ⟨c2, c3⟩, CE, HB2⟩))
            | (go_at_call 46; ((with_reducible refine CE.out.mono ?_); rintro e w3 ⟨rfl, rfl⟩)))
          all_goals
            go_wp2
            go_roundw
            case rel => exact ⟨_, k + 1, rfl, by omega, by go_num, HB2.out, HJ2.out⟩
            case measure => simp [intOf]; omega
      · have hc0 : canB K k = false := by simpa using hc
        rw [hc0] at CA
        have hsk : S ≠ k ∨ S = 0 := by
          by_cases h0 : S = 0
          · exact .inr h0
          · refine .inl fun e => hc (dat_says (HS.out.trans e) (by omega)).1
        have HJ2 : Hid (S = 0 ∨ ((k + 1 : Nat) : Int) ≤ S) := by have := hJ.out.2; show _ ∨ _; omega
        have HB2 : Hid (Below W1.heap.size W1 V) := hBV
        have CQ : Hid (∀ n, Calls Tryd.prog 41 #[.int .i64 K, .int .i64 k] (V.drewN n) fun e w' => e = .returned (.bool false) ∧ w' = V.drewN n) := fun n => by
          refine (can_any K k (V.drewN n)).mono ?_
          rintro e w' ⟨rfl, rfl⟩
          rw [hc0]
          exact ⟨rfl, rfl⟩
        clear hc hc0 kz hsk CA
        go_upto_region 4 with (fail)
        go_quiet ((go_at_call 41; exact Calls.quiet_of_same (CQ.out _)))
        go_wp2
        go_roundw
        case rel => exact ⟨_, k + 1, rfl, by omega, by go_num, below_drewN HB2.out _, HJ2.out⟩
        case measure => simp [intOf]; omega
    · have hk16 : k = 16 := by omega
      subst hk16
      have h0 : S = 0 := by have := hJ.out.2; have := HRG.out; omega
      have HB2 := Lib.hid hJ.out.1
      subst h0
      go_wp2
      go_ret
      exact ⟨rfl, HB1.out.trans (HB2.out.mono HB1.out.size)⟩
end Go.Proofs.YtlpboleclehilaaDoor
