/-
  tetherlaw04.Md5Texts: the walk, for what is not too long.
-/
import Derived.Test.YtpdmopfnllfomaaDoorMdAwake
import Derived.Test.YtpdmopfnllfomaaDoorMdUnhex
import Derived.Test.YtpdmopfnllfomaaDoorMdRUnhex
import Derived.Test.YtpdmopfnllfomaaDoorMdLent
namespace Go.Proofs.YtpdmopfnllfomaaDoor
open Go.RowKit
set_option maxRecDepth 100000
set_option maxHeartbeats 1000000
set_option linter.unusedSimpArgs false
set_option linter.unusedVariables false

theorem strOf_list (l : List UInt8) : (strOf l).toList = l := by
  rw [ByteArray.toList_eq]
  show (strOfNums _).data.toList = l
  rw [strOfNums_data, List.map_map]
  conv => rhs; rw [← List.map_id l]
  refine List.map_congr_left fun c _ => ?_
  simp
theorem same2_any (A D : Option Addr) (n m c d B : Nat) (l k : List UInt8) (w : World) (hr : Rd w B A n l) (hq : Rd w B D m k) :
    Calls Tryd.prog 17 #[.slice A n c, .slice D m d] w fun e w' => e = .returned (.bool (decide (l = k))) ∧ w = w' := by
  have h1 := conv_run hr c
  have h2 := conv_run hq d
  have e : ((strOf l).toList == (strOf k).toList) = decide (l = k) := by
    rw [strOf_list, strOf_list]
    by_cases h : l = k
    · simp [h]
    · simp [h]
  generalize decide (l = k) = z at *
  generalize strOf l = s at *
  generalize strOf k = t at *
  clear hr hq
  go_enter Tryd.func17, Tryd.ntmps17
  go_wp2
  go_ret
  exact ⟨rfl, rfl⟩
theorem own_form_rd_t {w : World} {base : Nat} {v : Value} {l : List UInt8} (h : Own w base v l) :
    ∃ A c, v = .slice A l.length c ∧ Rd w w.heap.size A l.length l := by
  rcases h.form with ⟨rfl, rfl⟩ | ⟨g, cap, rfl, _, _, hc⟩
  · exact ⟨none, 0, rfl, Rd.nil⟩
  · have h2 := h.rd rfl l.length (Nat.le_refl _)
    rw [List.take_of_length_le (Nat.le_refl _)] at h2
    exact ⟨some ⟨g, 0, none⟩, cap, rfl, h2⟩
/-- what both read of a text -/
theorem unhex_key (s : ByteArray) (hs : s.size ≤ 4194304) : ∃ (k0 : Int) (N : Nat) (l2 : List UInt8),
    (∀ W, TabE W → Calls Tryd.prog 14 #[.string s] W fun e w' => ∃ D d, e = .returned (.tuple #[.slice D N d, .int .i64 k0]) ∧ Rd w' w'.heap.size D N l2 ∧ Below W.heap.size W w') ∧
    (∀ W, Calls Tryd.prog 15 #[.string s] W fun e w' => ∃ D d, e = .returned (.tuple #[.slice D N d, .int .i64 k0]) ∧ Rd w' w'.heap.size D N l2 ∧ Below W.heap.size W w') := by
  by_cases hgood : s.data.toList.length % 2 = 0 ∧ s.data.toList.all isDig = true
  · refine ⟨0, (dec s.data.toList).length, dec s.data.toList, fun W hE => ?_, fun W => ?_⟩
    · refine (unhex4_any s _ W rfl hs hE).mono ?_
      rintro e w' ⟨hB, ⟨rfl, hno⟩ | ⟨v, rfl, ho, _⟩⟩
      · exact absurd hgood hno
      · obtain ⟨D, d, rfl, hrd⟩ := own_form_rd_t ho
        exact ⟨D, d, rfl, hrd, hB⟩
    · refine (runhex_any s _ W rfl hs).mono ?_
      rintro e w' ⟨hB, ⟨rfl, hno⟩ | ⟨v, rfl, ho, _⟩⟩
      · exact absurd hgood hno
      · obtain ⟨D, d, rfl, hrd⟩ := own_form_rd_t ho
        exact ⟨D, d, rfl, hrd, hB⟩
  · refine ⟨3, 0, [], fun W hE => ?_, fun W => ?_⟩
    · refine (unhex4_any s _ W rfl hs hE).mono ?_
      rintro e w' ⟨hB, ⟨rfl, hno⟩ | ⟨v, rfl, ho, hy⟩⟩
      · exact ⟨none, 0, rfl, Rd.nil, hB⟩
      · exact absurd hy hgood
    · refine (runhex_any s _ W rfl hs).mono ?_
      rintro e w' ⟨hB, ⟨rfl, hno⟩ | ⟨v, rfl, ho, hy⟩⟩
      · exact ⟨none, 0, rfl, Rd.nil, hB⟩
      · exact absurd hy hgood

theorem md5texts_walk (A C : Option Addr) (n c m d : Nat) (l k : List UInt8) (s : ByteArray) (w : World) (hr : Rd w w.heap.size A n l) (hq : Rd w w.heap.size C m k) (hc : n ≤ c) (hd : m ≤ d) (hnil : A = none → c = 0) (hn : c ≤ 1048576) (hm : d ≤ 1048576) (hs : s.size ≤ 1048576) (hK : TabK w) (hS : TabS w) (hE : TabE w) :
    Calls Tryd.prog 4 #[.slice A n c, .slice C m d, .string s] w fun e w' => e = .returned (.bool true) ∧ Below w.heap.size w w' := by
  have hl := hr.1
  obtain ⟨k0, N, l2, hU, hR⟩ := unhex_key s (by omega)
  have hlen : (hexS l).length = 2 * n := by rw [hexS_length, hl]
  obtain ⟨t, ht⟩ : ∃ t : ByteArray, t = ⟨(hexS l).toArray⟩ := ⟨_, rfl⟩
  have htl : hexS l = t.data.toList := by rw [ht]
  have hts : t.size ≤ 4194304 := by
    rw [ht]
    show (hexS l).toArray.size ≤ _
    rw [List.size_toArray, hlen]
    omega
  have H3 := Lib.hid (fun W (hB : Below w.heap.size w W) => hex_any A n c l W ((hr.below hB).wide hB.size) hc (by omega))
  have H5 := Lib.hid (fun W (hB : Below w.heap.size w W) => rhex_any A n c l W ((hr.below hB).wide hB.size) hc (by omega))
  have H4 : Hid (∀ W, TabE W → Calls Tryd.prog 14 #[.string t] W fun e w' => ∃ D d, e = .returned (.tuple #[.slice D n d, .int .i64 0]) ∧ Rd w' w'.heap.size D n l ∧ Below W.heap.size W w') := by
    show ∀ W, _ → Calls _ _ _ W _
    intro W hE
    refine (unhex4_any t (hexS l) W htl hts hE).mono ?_
    rintro e w' ⟨hB, ⟨rfl, hno⟩ | ⟨v, rfl, ho, _⟩⟩
    · exact absurd ⟨by omega, all_hex l⟩ hno
    · rw [dec_hex] at ho
      obtain ⟨D, d, rfl, hrd⟩ := own_form_rd_t ho
      rw [hl] at hrd
      exact ⟨D, d, by rw [hl], hrd, hB⟩
  rw [← ht] at H3 H5
  have H1 := Lib.hid hU
  have H2 := Lib.hid hR
  have HR := Lib.hid hr
  have HQ := Lib.hid hq
  have HL := Lib.hid hl
  have HK := Lib.hid hK
  have HS := Lib.hid hS
  have HE := Lib.hid hE
  clear hU hR hr hq hl hlen ht htl hts hK hS hE
  go_enter Tryd.func4, Tryd.ntmps4
  go_wp2_with fail
  refine (H1.out _ HE.out).mono ?_
  rintro e w1 ⟨D1, d1, rfl, r1, h1⟩
  have B1 := Lib.hid h1
  have R1 := Lib.hid r1
  clear h1 r1
  go_wp2_with fail
  refine (H2.out _).mono ?_
  rintro e w2 ⟨D2, d2, rfl, r2, h2⟩
  have B2 := Lib.hid (B1.out.trans (h2.mono B1.out.size))
  have R2 := Lib.hid r2
  have Q1 := Lib.hid ((R1.out.below h2).wide h2.size)
  clear h2 r2 R1
  go_wp2_with fail
  refine (H3.out _ B2.out).mono ?_
  rintro e w3 ⟨rfl, h3⟩
  have B3 := Lib.hid (B2.out.trans (h3.mono B2.out.size))
  have P1 := Lib.hid ((Q1.out.below h3).wide h3.size)
  have P2 := Lib.hid ((R2.out.below h3).wide h3.size)
  clear h3 Q1 R2
  go_wp2_with fail
  refine (H4.out _ (HE.out.kept B3.out)).mono ?_
  rintro e w4 ⟨D4, d4, rfl, r4, h4⟩
  have B4 := Lib.hid (B3.out.trans (h4.mono B3.out.size))
  have N1 := Lib.hid ((P1.out.below h4).wide h4.size)
  have N2 := Lib.hid ((P2.out.below h4).wide h4.size)
  have R4 := Lib.hid r4
  clear h4 r4 P1 P2
  have S1 := Lib.hid (same2_any D1 D2 N N d1 d2 _ l2 l2 w4 N1.out N2.out)
  rw [decide_eq_true (rfl : l2 = l2)] at S1
  go_wp2_with fail
  refine S1.out.mono ?_
  rintro e w5 ⟨rfl, rfl⟩
  go_wp2_with fail
  refine (H5.out _ B4.out).mono ?_
  rintro e w6 ⟨rfl, h6⟩
  have B6 := Lib.hid (B4.out.trans (h6.mono B4.out.size))
  have R6 := Lib.hid ((R4.out.below h6).wide h6.size)
  clear h6 R4
  have A6 := Lib.hid ((HR.out.below B6.out).wide B6.out.size)
  have C6 := Lib.hid ((HQ.out.below B6.out).wide B6.out.size)
  have S2 := Lib.hid (same2_any D4 A n n d4 c _ l l w6 R6.out A6.out)
  rw [decide_eq_true (rfl : l = l)] at S2
  have E1 := Lib.hid (equal_any A C n m c d w6.heap.size l k w6 A6.out C6.out (by unfold maxLen; omega) (by unfold maxLen; omega))
  have S3 := Lib.hid (fun q => same2_any A C n m c d _ l k (w6.drewN q) (A6.out.drewN q) (C6.out.drewN q))
  obtain ⟨z, hz⟩ : ∃ z, z = decide (l = k) := ⟨_, rfl⟩
  rw [← hz] at E1 S3
  clear hz
  go_wp2_with fail
  refine S2.out.mono ?_
  rintro e w7 ⟨rfl, rfl⟩
  go_wp2_with fail
  refine E1.out.mono ?_
  rintro e w7 ⟨rfl, q, rfl⟩
  go_wp2_with fail
  refine (S3.out q).mono ?_
  rintro e w7 ⟨rfl, rfl⟩
  have hzz : (z == z) = true := by simp
  have B7 := Lib.hid (below_drewN B6.out q)
  have LA := Lib.hid (lent2_any A n c _ l (w6.drewN q) (A6.out.drewN q) hnil (by omega))
  go_wp2_with fail
  refine LA.out.mono ?_
  rintro e w8 ⟨g, cap, rfl, hcap, ho, h8⟩
  have hrd := ho.rd (by simp [HL.out]) n (by omega)
  rw [List.take_append_of_le_length (by rw [HL.out]; exact Nat.le_refl _), List.take_of_length_le (by rw [HL.out]; exact Nat.le_refl _)] at hrd
  have B8 := Lib.hid (B7.out.trans (h8.mono B7.out.size))
  have A8 := Lib.hid ((HR.out.below B8.out).wide B8.out.size)
  have E2 := Lib.hid (equal_any A (some ⟨g, 0, none⟩) n n c cap w8.heap.size l l w8 A8.out hrd (by unfold maxLen; omega) (by unfold maxLen; omega))
  rw [decide_eq_true (rfl : l = l)] at E2
  clear h8 ho hrd
  go_wp2_with fail
  refine E2.out.mono ?_
  rintro e w9 ⟨rfl, q2, rfl⟩
  have B9 := Lib.hid (below_drewN B8.out q2)
  have AW := Lib.hid (awake_yes _ (HK.out.kept B9.out) (HS.out.kept B9.out))
  go_wp2_with fail
  refine AW.out.mono ?_
  rintro e w10 ⟨rfl, h10⟩
  have B10 := Lib.hid (B9.out.trans (h10.mono B9.out.size))
  clear h10
  go_wp2
  go_ret
  exact ⟨rfl, B10.out⟩
end Go.Proofs.YtpdmopfnllfomaaDoor
