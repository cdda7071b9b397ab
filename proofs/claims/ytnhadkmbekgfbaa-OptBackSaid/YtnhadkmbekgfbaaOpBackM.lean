/-
  OptBack: a packet's bytes, whatever stands behind; cut short.
-/
import Derived.Test.YtnhadkmbekgfbaaOpOptionsA
import Derived.Test.YtnhadkmbekgfbaaOpBytes
import Derived.Test.YtnhadkmbekgfbaaSameAny
import Derived.Test.YtnhadkmbekgfbaaOpSameP
import Derived.Test.YtnhadkmbekgfbaaAppBig
namespace Go.Proofs.Ytnhadkmbekgfbaa
open Go.RowKit
set_option maxRecDepth 100000
set_option maxHeartbeats 4000000
set_option linter.unusedSimpArgs false
set_option linter.unusedVariables false

theorem putB_pair (m : Nat) (h : m < 65536) : putB m 2 = [UInt8.ofNat (m / 256), UInt8.ofNat (m % 256)] := by
  show (([] : List UInt8) ++ [UInt8.ofNat (m / 256 % 256)]) ++ [UInt8.ofNat (m % 256)] = _
  rw [show m / 256 % 256 = m / 256 by omega]
  rfl
theorem pkB_is (C I : Int) (l : List UInt8) (hl : l.length ≤ 16380) : pkB C I l = UInt8.ofNat C.toNat :: UInt8.ofNat I.toNat :: UInt8.ofNat ((l.length + 4) / 256) :: UInt8.ofNat ((l.length + 4) % 256) :: l := by
  unfold pkB
  rw [putB_pair _ (by omega)]
  rfl
theorem upN_cons (a b c d : UInt8) (r : List UInt8) : upN (a :: b :: c :: d :: r) = 256 * (c.toNat : Int) + (d.toNat : Int) := by
  unfold upN
  rw [num_two]
  rfl
theorem pk_more (C I : Int) (l more : List UInt8) (hC : isB C) (hI : isB I) (hl : l.length ≤ 16380) :
    upE (pkB C I l ++ more) = 0 ∧ num (pkB C I l ++ more) 1 = C ∧ num ((pkB C I l ++ more).drop 1) 1 = I ∧ ((pkB C I l ++ more).drop 4).take (upN (pkB C I l ++ more) - 4).toNat = l := by
  obtain ⟨c1, c2⟩ := hC
  obtain ⟨i1, i2⟩ := hI
  rw [pkB_is C I l hl]
  simp only [List.cons_append]
  have hN : upN (UInt8.ofNat C.toNat :: UInt8.ofNat I.toNat :: UInt8.ofNat ((l.length + 4) / 256) :: UInt8.ofNat ((l.length + 4) % 256) :: (l ++ more)) = ((l.length + 4 : Nat) : Int) := by
    rw [upN_cons, UInt8.toNat_ofNat', UInt8.toNat_ofNat']
    omega
  refine ⟨?_, ?_, ?_, ?_⟩
  · unfold upE
    rw [hN]
    simp only [List.length_cons, List.length_append]
    rw [if_neg (by omega), if_neg (by omega), if_neg (by omega)]
  · rw [num_one]
    show ((UInt8.ofNat C.toNat).toNat : Int) = C
    rw [UInt8.toNat_ofNat']
    omega
  · rw [num_one]
    show ((UInt8.ofNat I.toNat).toNat : Int) = I
    rw [UInt8.toNat_ofNat']
    omega
  · rw [hN]
    show (l ++ more).take (((l.length + 4 : Nat) : Int) - 4).toNat = l
    rw [show (((l.length + 4 : Nat) : Int) - 4).toNat = l.length by omega, List.take_left]
theorem pk_less (C I : Int) (l : List UInt8) (hl : l.length ≤ 16380) (j : Nat) (hj : j < l.length + 4) : upE ((pkB C I l).take j) = 8 := by
  rw [pkB_is C I l hl]
  match j, hj with
  | 0, _ => rfl
  | 1, _ => rfl
  | 2, _ => rfl
  | 3, _ => rfl
  | j + 4, hj =>
    simp only [List.take_succ_cons]
    unfold upE
    rw [upN_cons, UInt8.toNat_ofNat', UInt8.toNat_ofNat']
    simp only [List.length_cons, List.length_take]
    rw [if_neg (by omega), if_neg (by omega), if_pos (by omega)]
theorem pkB_len (C I : Int) (l : List UInt8) (hl : l.length ≤ 16380) : (pkB C I l).length = l.length + 4 := by
  rw [pkB_is C I l hl]
  simp
def PkBox (w : World) (b : Nat) (C I : Int) (S : Value) : Prop := w.cell? ⟨b, 0, none⟩ = some (.int .i64 C) ∧ w.cell? ⟨b, 1, none⟩ = some (.int .i64 I) ∧ w.cell? ⟨b, 2, none⟩ = some S
/-- a packet that can be written -/
def PkYes (w w2 : World) (C I : Int) (A0 : Option Addr) (n0 c0 : Nat) (A2 : Option Addr) (n2 c2 : Nat) (x : Int) (A : Option Addr) (n c : Nat) : Prop :=
  ∃ v1 w3, (Builtin.append_ #[52, 52] 52 #[.slice none 0 0, .slice A n c]).run Try.prog w2 = .ok v1 w3 ∧
  ∃ F m f w4, (Builtin.append_ #[52, 52] 52 #[v1, .slice A2 n2 c2]).run Try.prog w3 = .ok (.slice F m f) w4 ∧
  Calls Try.prog 28 #[.slice F m f] w4 fun e w5 => ∃ D dd, e = .returned (.tuple #[.agg #[.int .i64 C, .int .i64 I, .slice D n0 dd], .int .i64 0]) ∧ PkBox (w5.alloc (.cells #[.int .i64 C, .int .i64 I, .slice D n0 dd] 54)) w.heap.size C I (.slice A0 n0 c0) ∧
  Calls Try.prog 29 #[.agg #[.int .i64 C, .int .i64 I, .slice A0 n0 c0], .agg #[.int .i64 C, .int .i64 I, .slice D n0 dd]] (w5.alloc (.cells #[.int .i64 C, .int .i64 I, .slice D n0 dd] 54)) fun e w6 => e = .returned (.bool true) ∧
  Calls Try.prog 30 #[.int .i64 x, .int .i64 n] w6 fun e w7 => ∃ j : Nat, e = .returned (.int .i64 j) ∧ j < n ∧
  Calls Try.prog 28 #[.slice A j c] w7 fun e w8 => ∃ D m dd, e = .returned (.tuple #[.agg #[.int .i64 0, .int .i64 0, .slice D m dd], .int .i64 8]) ∧ Below w.heap.size w w8
theorem pk_yes (A0 : Option Addr) (n0 c0 : Nat) (l0 : List UInt8) (C I : Int) (A2 : Option Addr) (n2 c2 : Nat) (l2 : List UInt8) (x : Int) (w : World) (hr0 : Rd w w.heap.size A0 n0 l0) (z0 : A0 = none → c0 = 0) (hc0 : n0 ≤ 140737488351232) (hr2 : Rd w w.heap.size A2 n2 l2) (z2 : A2 = none → c2 = 0) (hc2 : n2 ≤ 140737488351232) (hx : -9223372036854775808 ≤ x ∧ x ≤ 9223372036854775807) :
    Calls Try.prog 27 #[.agg #[.int .i64 C, .int .i64 I, .slice A0 n0 c0]] (w.alloc (.cells #[.int .i64 C, .int .i64 I, .slice A0 n0 c0] 54)) fun e w2 => ∃ A n c E, e = .returned (.tuple #[.slice A n c, .int .i64 E]) ∧ Below w.heap.size w w2 ∧
      (¬ E = 0 ∨ E = 0 ∧ 4 ≤ n ∧ n ≤ c ∧ n ≤ 16384 ∧ (∃ g, A = some ⟨g, 0, none⟩) ∧ PkYes w w2 C I A0 n0 c0 A2 n2 c2 x A n c) := by
  have hl0 := hr0.1
  have hl2 := hr2.1
  obtain ⟨W1, hW1⟩ : ∃ W1, W1 = w.alloc (.cells #[.int .i64 C, .int .i64 I, .slice A0 n0 c0] 54) := ⟨_, rfl⟩
  have B1 : Below w.heap.size w W1 := by rw [hW1]; exact (Below.refl _ _).alloc (Nat.le_refl _) _
  have s1 : W1.heap.size = w.heap.size + 1 := by rw [hW1]; simp
  have k1 : Blk W1 w.heap.size 54 [.int .i64 C, .int .i64 I, .slice A0 n0 c0] := by rw [hW1]; exact blk_new w _ _
  rw [← hW1]
  clear hW1
  refine (pack_any A0 n0 c0 w.heap.size l0 C I W1 (hr0.below B1) (by omega) z0 (by omega)).mono ?_
  rintro e w2 ⟨v, rfl, ho, b2⟩
  have B2 := B1.trans (b2.mono (by omega))
  have s2 := b2.size
  obtain ⟨A, c, rfl, rA, bA⟩ := own_rdv1 ho
  refine ⟨A, _, c, _, rfl, B2, ?_⟩
  by_cases hE : pkE C I l0.length = 0
  · refine .inr ⟨hE, ?_⟩
    obtain ⟨hC, hI, hn⟩ : isB C ∧ isB I ∧ l0.length ≤ 16380 := by
      unfold pkE at hE
      by_cases h : isB C ∧ isB I
      · rw [if_pos h] at hE
        by_cases h2 : 16380 < l0.length
        · rw [if_pos h2] at hE; omega
        · exact ⟨h.1, h.2, by omega⟩
      · rw [if_neg h] at hE; omega
    have hO := (pk_ok hC hI hn).2
    rw [hO] at ho rA ⊢
    have hpl := pkB_len C I l0 hn
    obtain ⟨u1, u2, u3, u4⟩ := pk_more C I l0 l2 hC hI hn
    have ul := pk_less C I l0 hn
    obtain ⟨b, hb⟩ : ∃ b, pkB C I l0 = b := ⟨_, rfl⟩
    rw [hb] at ho rA hpl u1 u2 u3 u4 ul ⊢
    obtain ⟨n, hbn⟩ : ∃ n, b.length = n := ⟨_, rfl⟩
    rw [hbn] at ho rA ⊢
    obtain ⟨g', eg⟩ : ∃ g', A = some ⟨g', 0, none⟩ := by
      rcases ho.form with ⟨e, h⟩ | ⟨q, cap, e, _⟩
      · rw [h] at hpl; simp at hpl
      · injection e with e1 e2 e3
        exact ⟨q, e1⟩
    have hnc := ho.len.2.2
    refine ⟨by omega, hnc, by omega, ⟨g', eg⟩, ?_⟩
    have hs2 : w.heap.size + 1 ≤ w2.heap.size := by omega
    -- c
    obtain ⟨v1, w3, r3, o3, g3⟩ := append_big (Own.nil w2 w2.heap.size) c rA (fun e => by rw [eg] at e; cases e) (by simp; omega) (Nat.le_refl _)
    rw [List.nil_append] at o3
    have B3 : Below w2.heap.size w2 w3 := (Below.refl _ _).grown g3 (Nat.le_refl _) (fun q e => by simp [Value.ownBlock] at e)
    have s3 := B3.size
    have B03 := B2.trans (B3.mono (by omega))
    obtain ⟨v2, w4, r4, o4, g4⟩ := append_big o3 c2 (hr2.below B03) z2 (by omega) s3
    have B4 : Below w2.heap.size w2 w4 := B3.grown g4 s3 (fun q e => (o3.block q e).1)
    have B04 := B2.trans (B4.mono (by omega))
    obtain ⟨F, f, rfl, rF, _⟩ := own_rdv1 o4
    have s4 := B4.size
    refine ⟨v1, w3, r3, F, _, f, w4, r4, ?_⟩
    have hlen : (b ++ l2).length ≤ 140737488420864 := by rw [List.length_append]; omega
    refine (unpack_any F _ f w4.heap.size (b ++ l2) w4 rF (Nat.le_refl _) hlen).mono ?_
    rintro e w5 ⟨P, rfl, B5, -, hyes⟩
    obtain ⟨D, m, dd, rfl, oD⟩ := hyes u1
    rw [u1, u2, u3]
    rw [u4] at oD
    have hm := oD.len.1
    rw [hl0] at hm
    subst hm
    have B25 : Below w2.heap.size w2 w5 := B4.trans (B5.mono s4)
    have s5 := B5.size
    obtain ⟨W5, hW5⟩ : ∃ W5, W5 = w5.alloc (.cells #[.int .i64 C, .int .i64 I, .slice D m dd] 54) := ⟨_, rfl⟩
    have B5a : Below w5.heap.size w5 W5 := by rw [hW5]; exact (Below.refl _ _).alloc (Nat.le_refl _) _
    have s5a := B5a.size
    have B25a : Below w2.heap.size w2 W5 := B25.trans (B5a.mono (by omega))
    have B05a := B2.trans (B25a.mono (by omega))
    have hbx : Blk W5 w.heap.size 54 [.int .i64 C, .int .i64 I, .slice A0 m c0] := (B25a.block _ (by omega)).trans ((b2.block _ (by omega)).trans k1)
    have rD : Rd W5 W5.heap.size D m l0 := ((oD.later B5a).rdAll)
    refine ⟨D, dd, rfl, ?_, ?_⟩
    · rw [← hW5]
      exact ⟨hbx.cell 0, hbx.cell 1, hbx.cell 2⟩
    rw [← hW5]
    refine (samePacket_yes A0 D m c0 dd W5.heap.size l0 C I W5 ((hr0.below B05a).wide (by omega)) rD (Nat.le_refl _) (by omega)).mono ?_
    rintro e w6 ⟨rfl, B6⟩
    refine ⟨rfl, (count_any x n w6 hx (by omega) (by omega)).mono ?_⟩
    rintro e w7 ⟨⟨j, rfl, hj⟩, rfl⟩
    refine ⟨j, rfl, hj, ?_⟩
    have s6 := B6.size
    have B26 : Below w2.heap.size w2 w6 := B25a.trans (B6.mono (by omega))
    have rA6 : Rd w6 w2.heap.size A j (b.take j) := by
      have h := (ho.rdAll).below B26
      rw [eg] at h ⊢
      have h2 := Rd.sub (p := 0) (s := j) h (by omega)
      simpa using h2
    refine (unpack_any A j c w2.heap.size (b.take j) w6 rA6 (by omega) (by omega)).mono ?_
    rintro e w8 ⟨P, rfl, B8, hno, -⟩
    rw [ul j (by omega)] at hno ⊢
    rw [hno (by omega)]
    exact ⟨_, _, _, rfl, (B2.trans (B26.mono (by omega))).trans (B8.mono (by omega))⟩
  · exact .inl hE
end Go.Proofs.Ytnhadkmbekgfbaa
