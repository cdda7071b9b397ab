/-
  tetherlaw01.OctetDigits is true for what is not too long, and writes nothing that was there.
-/
import Derived.Test.YtdnheiefbecaeaaDoorUnhex2
import Derived.Test.YtdnheiefbecaeaaDoorSame
import Derived.Test.YtdnheiefbecaeaaDoorKnown
namespace Go.Proofs.YtdnheiefbecaeaaDoor
open Go.RowKit
set_option maxRecDepth 100000
set_option maxHeartbeats 1000000
set_option linter.unusedSimpArgs false
set_option linter.unusedVariables false

theorem own_form_rd_d {w : World} {base : Nat} {v : Value} {l : List UInt8} (h : Own w base v l) :
    ∃ A c, v = .slice A l.length c ∧ Rd w w.heap.size A l.length l := by
  rcases h.form with ⟨rfl, rfl⟩ | ⟨g, cap, rfl, _, _, hc⟩
  · exact ⟨none, 0, rfl, Rd.nil⟩
  · have h2 := h.rd rfl l.length (Nat.le_refl _)
    rw [List.take_of_length_le (Nat.le_refl _)] at h2
    exact ⟨some ⟨g, 0, none⟩, cap, rfl, h2⟩

theorem octetdigits_walk (A : Option Addr) (n c : Nat) (l : List UInt8) (s : ByteArray) (w : World) (hr : Rd w w.heap.size A n l) (hc : n ≤ c) (hn : c ≤ 1048576) (hs : s.size ≤ 1048576) (hT : TabD w) :
    Calls Tryd.prog 3 #[.slice A n c, .string s] w fun e w' => e = .returned (.bool true) ∧ Below w.heap.size w w' := by
  have hl := hr.1
  have H1 := Lib.hid (hex_any A n c l w hr hc (by omega) hT)
  have H5 := Lib.hid (fun W (hB : Below w.heap.size w W) => rhex_any A n c l W ((hr.below hB).wide hB.size) hc (by omega))
  have hlen : (hexS l).length = 2 * n := by rw [hexS_length, hl]
  obtain ⟨t, ht⟩ : ∃ t : ByteArray, t = ⟨(hexS l).toArray⟩ := ⟨_, rfl⟩
  have htl : hexS l = t.data.toList := by rw [ht]
  have hts : t.size ≤ 4194304 := by
    rw [ht]
    show (hexS l).toArray.size ≤ _
    rw [List.size_toArray, hlen]
    omega
  have H2 : Hid (∀ W, Calls Tryd.prog 15 #[.string t] W fun e w' => ∃ D d, e = .returned (.tuple #[.slice D n d, .int .i64 0]) ∧ Rd w' w'.heap.size D n l ∧ Below W.heap.size W w') := by
    show ∀ W, Calls _ _ _ W _
    intro W
    refine (unhex_any t (hexS l) W htl hts).mono ?_
    rintro e w' ⟨hB, ⟨rfl, hno⟩ | ⟨v, rfl, ho, _⟩⟩
    · exact absurd ⟨by omega, all_hex l⟩ hno
    · rw [dec_hex] at ho
      obtain ⟨D, d, rfl, hrd⟩ := own_form_rd_d ho
      rw [hl] at hrd
      exact ⟨D, d, by rw [hl], hrd, hB⟩
  rw [← ht] at H1 H5
  have HR := Lib.hid hr
  have AW := Lib.hid known_yes
  have S1 := Lib.hid (fun (D : Option Addr) d W B (h1 : Rd W B D n l) (h2 : Rd W B A n l) => same_yes D A n d c l W B h1 h2 (by unfold maxLen; omega))
  by_cases hgood : s.data.toList.length % 2 = 0 ∧ s.data.toList.all isDig = true
  · have hdl : (dec s.data.toList).length ≤ 4194304 := by
      rw [dec_len (s.data.toList.length / 2) _ (by omega)]
      have : s.data.toList.length = s.size := by simp
      omega
    obtain ⟨N, hN⟩ : ∃ N, N = (dec s.data.toList).length := ⟨_, rfl⟩
    have H3 : Hid (∀ W, Calls Tryd.prog 15 #[.string s] W fun e w' => ∃ D d, e = .returned (.tuple #[.slice D N d, .int .i64 0]) ∧ Rd w' w'.heap.size D N (dec s.data.toList) ∧ Below W.heap.size W w') := by
      show ∀ W, Calls _ _ _ W _
      intro W
      refine (unhex_any s _ W rfl (by omega)).mono ?_
      rintro e w' ⟨hB, ⟨rfl, hno⟩ | ⟨v, rfl, ho, _⟩⟩
      · exact absurd hgood hno
      · obtain ⟨D, d, rfl, hrd⟩ := own_form_rd_d ho
        rw [← hN] at hrd
        exact ⟨D, d, by rw [hN], hrd, hB⟩
    have H4 : Hid (∀ W, Calls Tryd.prog 16 #[.string s] W fun e w' => ∃ D d, e = .returned (.tuple #[.slice D N d, .int .i64 0]) ∧ Rd w' w'.heap.size D N (dec s.data.toList) ∧ Below W.heap.size W w') := by
      show ∀ W, Calls _ _ _ W _
      intro W
      refine (runhex_any s _ W rfl (by omega)).mono ?_
      rintro e w' ⟨hB, ⟨rfl, hno⟩ | ⟨v, rfl, ho, _⟩⟩
      · exact absurd hgood hno
      · obtain ⟨D, d, rfl, hrd⟩ := own_form_rd_d ho
        rw [← hN] at hrd
        exact ⟨D, d, by rw [hN], hrd, hB⟩
    generalize dec s.data.toList = l2 at *
    have S2 := Lib.hid (fun (D E : Option Addr) d e W B (h1 : Rd W B D N l2) (h2 : Rd W B E N l2) => same_yes D E N d e l2 W B h1 h2 (by unfold maxLen; omega))
    clear hr hl hlen ht htl hts hgood hN hdl hT
    go_enter Tryd.func3, Tryd.ntmps3
    go_wp2_with fail
    refine (H1.out).mono ?_
    rintro e w1 ⟨rfl, h1⟩
    have B1 := Lib.hid h1
    clear h1
    go_wp2_with fail
    refine (H2.out _).mono ?_
    rintro e w2 ⟨D2, d2, rfl, r2, h2⟩
    have B2 := Lib.hid (B1.out.trans (h2.mono B1.out.size))
    have R2 := Lib.hid r2
    clear h2 r2
    go_wp2_with fail
    refine (H3.out _).mono ?_
    rintro e w3 ⟨D3, d3, rfl, r3, h3⟩
    have B3 := Lib.hid (B2.out.trans (h3.mono B2.out.size))
    have R3 := Lib.hid r3
    have Q2 := Lib.hid ((R2.out.below h3).wide h3.size)
    clear h3 r3 R2
    go_wp2_with fail
    refine (H4.out _).mono ?_
    rintro e w4 ⟨D4, d4, rfl, r4, h4⟩
    have B4 := Lib.hid (B3.out.trans (h4.mono B3.out.size))
    have R4 := Lib.hid r4
    have P2 := Lib.hid ((Q2.out.below h4).wide h4.size)
    have Q3 := Lib.hid ((R3.out.below h4).wide h4.size)
    clear h4 r4 Q2 R3
    go_wp2_with fail
    refine (H5.out _ B4.out).mono ?_
    rintro e w5 ⟨rfl, h5⟩
    have B5 := Lib.hid (B4.out.trans (h5.mono B4.out.size))
    have N2 := Lib.hid ((P2.out.below h5).wide h5.size)
    have P3 := Lib.hid ((Q3.out.below h5).wide h5.size)
    have Q4 := Lib.hid ((R4.out.below h5).wide h5.size)
    have PA := Lib.hid ((HR.out.below B5.out).wide B5.out.size)
    clear h5 P2 Q3 R4
    go_wp2_with fail
    refine (S1.out _ _ _ _ N2.out PA.out).mono ?_
    rintro e w6 ⟨rfl, q1, rfl⟩
    go_wp2_with fail
    refine (S2.out _ _ _ _ _ _ (P3.out.drewN q1) (Q4.out.drewN q1)).mono ?_
    rintro e w6 ⟨rfl, q2, rfl⟩
    go_wp2_with fail
    refine (AW.out _).mono ?_
    rintro e w7 ⟨rfl, hB7⟩
    have B7 := Lib.hid hB7
    clear hB7
    go_wp2
    go_ret
    exact ⟨rfl, (below_drewN B5.out _).trans (B7.out.mono (below_drewN B5.out _).size)⟩
  · have H3 : Hid (∀ W, Calls Tryd.prog 15 #[.string s] W fun e w' => e = .returned (.tuple #[.slice none 0 0, .int .i64 3]) ∧ Below W.heap.size W w') := by
      show ∀ W, Calls _ _ _ W _
      intro W
      refine (unhex_any s _ W rfl (by omega)).mono ?_
      rintro e w' ⟨hB, ⟨rfl, hno⟩ | ⟨v, rfl, ho, hy⟩⟩
      · exact ⟨rfl, hB⟩
      · exact absurd hy hgood
    have H4 : Hid (∀ W, Calls Tryd.prog 16 #[.string s] W fun e w' => e = .returned (.tuple #[.slice none 0 0, .int .i64 3]) ∧ Below W.heap.size W w') := by
      show ∀ W, Calls _ _ _ W _
      intro W
      refine (runhex_any s _ W rfl (by omega)).mono ?_
      rintro e w' ⟨hB, ⟨rfl, hno⟩ | ⟨v, rfl, ho, hy⟩⟩
      · exact ⟨rfl, hB⟩
      · exact absurd hy hgood
    have S2 := Lib.hid (fun W => same_yes none none 0 0 0 [] W 0 Rd.nil Rd.nil (by unfold maxLen; omega))
    clear hr hl hlen ht htl hts hgood hT
    go_enter Tryd.func3, Tryd.ntmps3
    go_wp2_with fail
    refine (H1.out).mono ?_
    rintro e w1 ⟨rfl, h1⟩
    have B1 := Lib.hid h1
    clear h1
    go_wp2_with fail
    refine (H2.out _).mono ?_
    rintro e w2 ⟨D2, d2, rfl, r2, h2⟩
    have B2 := Lib.hid (B1.out.trans (h2.mono B1.out.size))
    have R2 := Lib.hid r2
    clear h2 r2
    go_wp2_with fail
    refine (H3.out _).mono ?_
    rintro e w3 ⟨rfl, h3⟩
    have B3 := Lib.hid (B2.out.trans (h3.mono B2.out.size))
    have Q2 := Lib.hid ((R2.out.below h3).wide h3.size)
    clear h3 R2
    go_wp2_with fail
    refine (H4.out _).mono ?_
    rintro e w4 ⟨rfl, h4⟩
    have B4 := Lib.hid (B3.out.trans (h4.mono B3.out.size))
    have P2 := Lib.hid ((Q2.out.below h4).wide h4.size)
    clear h4 Q2
    go_wp2_with fail
    refine (H5.out _ B4.out).mono ?_
    rintro e w5 ⟨rfl, h5⟩
    have B5 := Lib.hid (B4.out.trans (h5.mono B4.out.size))
    have N2 := Lib.hid ((P2.out.below h5).wide h5.size)
    have PA := Lib.hid ((HR.out.below B5.out).wide B5.out.size)
    clear h5 P2
    go_wp2_with fail
    refine (S1.out _ _ _ _ N2.out PA.out).mono ?_
    rintro e w6 ⟨rfl, q1, rfl⟩
    go_wp2_with fail
    refine (S2.out _).mono ?_
    rintro e w6 ⟨rfl, q2, rfl⟩
    go_wp2_with fail
    refine (AW.out _).mono ?_
    rintro e w7 ⟨rfl, hB7⟩
    have B7 := Lib.hid hB7
    clear hB7
    go_wp2
    go_ret
    exact ⟨rfl, (below_drewN B5.out _).trans (B7.out.mono (below_drewN B5.out _).size)⟩
end Go.Proofs.YtdnheiefbecaeaaDoor
