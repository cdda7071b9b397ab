/-
  OptSubsets: the law's walk.
-/
import Derived.Test.YtonbdcajepmgbaaOpSubset
import Derived.LoopTactic
namespace Go.Proofs.Ytonbdcajepmgbaa
open Go.RowKit
set_option maxRecDepth 100000
set_option maxHeartbeats 4000000
set_option linter.unusedSimpArgs false
set_option linter.unusedVariables false

/-- a list that is read, as a subset's argument -/
def LArg (w : World) (A : Option Addr) (n c : Nat) (s : List Opt) : Prop := OptRd w w.heap.size A n s ∧ n ≤ c ∧ n ≤ 4398046510976
theorem LArg.later {w w' : World} {A : Option Addr} {n c : Nat} {s : List Opt} (h : LArg w A n c s) (hB : Below w.heap.size w w') : LArg w' A n c s := ⟨(h.1.below hB (Nat.le_refl _)).wide hB.size, h.2⟩
theorem LArg.drewN {w : World} {A : Option Addr} {n c : Nat} {s : List Opt} (h : LArg w A n c s) (k : Nat) : LArg (w.drewN k) A n c s := h
theorem woo_all (ks : List Int) (s : List Opt) : (woo ks s).length ≤ s.length := (woo_sub ks s).length_le
theorem without_arg (A : Option Addr) (n c : Nat) (s : List Opt) (D : Option Addr) (m d : Nat) (ks : List Int) (w : World) (h : LArg w A n c s) (hk : RdI w w.heap.size D m ks) (hm : m ≤ 1152921504606846976) :
    Calls Try.prog 36 #[.slice A n c, .slice D m d] w fun e w' => ∃ A1 n1 c1, e = .returned (.slice A1 n1 c1) ∧ LArg w' A1 n1 c1 (woo ks s) ∧ Below w.heap.size w w' := by
  refine (without_any A n c w.heap.size s D m d ks w h.1 (Nat.le_refl _) (by have := h.2.2; omega) hk hm).mono ?_
  rintro e w' ⟨v, rfl, ho, hB⟩
  obtain ⟨A1, c1, rfl, hr, _, hc⟩ := ho.rd (fun o ho => h.1.bytes o (List.mem_filter.1 ho).1)
  have := woo_all ks s
  have := h.1.1
  have := h.2.2
  exact ⟨A1, _, c1, rfl, ⟨hr, hc, by omega⟩, hB⟩
theorem subset_arg (A : Option Addr) (n c : Nat) (s : List Opt) (D : Option Addr) (m d : Nat) (t : List Opt) (w : World) (h : LArg w A n c s) (k : LArg w D m d t) (he : t.foldl eat s = []) :
    Calls Try.prog 37 #[.slice A n c, .slice D m d] w fun e w' => e = .returned (.bool true) ∧ Below w.heap.size w w' := by
  have := subset_any A n c w.heap.size s D m d t w h.1 (Nat.le_refl _) h.2.1 (by have := h.2.2; omega) k.1 (by have := k.2.2; omega)
  rw [decide_eq_true he] at this
  exact this
theorem larg_nil (w : World) : LArg w none 0 0 [] := ⟨OptRd.nil, Nat.le_refl _, by omega⟩
/-- the five questions, one behind the other -/
def Subs5 (w wx : World) (A : Option Addr) (n c : Nat) (A1 : Option Addr) (n1 c1 : Nat) (A2 : Option Addr) (n2 c2 : Nat) : Prop :=
  Calls Try.prog 37 #[.slice A1 n1 c1, .slice A n c] wx fun e w3 => e = .returned (.bool true) ∧
    Calls Try.prog 37 #[.slice A2 n2 c2, .slice A1 n1 c1] w3 fun e w4 => e = .returned (.bool true) ∧
      Calls Try.prog 37 #[.slice A2 n2 c2, .slice A n c] w4 fun e w5 => e = .returned (.bool true) ∧
        Calls Try.prog 37 #[.slice none 0 0, .slice A n c] w5 fun e w6 => e = .returned (.bool true) ∧
          Calls Try.prog 37 #[.slice A n c, .slice A n c] w6 fun e w7 => e = .returned (.bool true) ∧
            Calls Try.prog 35 #[] w7 fun e w8 => e = .returned (.bool true) ∧ Below w.heap.size w w8
theorem subs_five (w wx : World) (A : Option Addr) (n c : Nat) (s : List Opt) (A1 : Option Addr) (n1 c1 : Nat) (A2 : Option Addr) (n2 c2 : Nat) (ks js : List Int) (h : LArg wx A n c s) (h1 : LArg wx A1 n1 c1 (woo ks s)) (h2 : LArg wx A2 n2 c2 (woo js (woo ks s))) (hB : Below w.heap.size w wx) :
    Subs5 w wx A n c A1 n1 c1 A2 n2 c2 := by
  refine (subset_arg _ _ _ _ _ _ _ _ _ h1 h (eat_woo ks s)).mono ?_
  rintro e w3 ⟨rfl, b3⟩
  have q3 := hB.trans (b3.mono hB.size)
  refine ⟨rfl, (subset_arg _ _ _ _ _ _ _ _ _ (h2.later b3) (h1.later b3) (eat_woo js _)).mono ?_⟩
  rintro e w4 ⟨rfl, b4⟩
  have q4 := q3.trans (b4.mono q3.size)
  have B4 := b3.trans (b4.mono b3.size)
  refine ⟨rfl, (subset_arg _ _ _ _ _ _ _ _ _ (h2.later B4) (h.later B4) (eat_woo2 ks js s)).mono ?_⟩
  rintro e w5 ⟨rfl, b5⟩
  have q5 := q4.trans (b5.mono q4.size)
  have B5 := B4.trans (b5.mono B4.size)
  refine ⟨rfl, (subset_arg _ _ _ _ _ _ _ _ _ (larg_nil _) (h.later B5) (eat_nil s)).mono ?_⟩
  rintro e w6 ⟨rfl, b6⟩
  have q6 := q5.trans (b6.mono q5.size)
  have B6 := B5.trans (b6.mono B5.size)
  refine ⟨rfl, (subset_arg _ _ _ _ _ _ _ _ _ (h.later B6) (h.later B6) (eat_self s)).mono ?_⟩
  rintro e w7 ⟨rfl, b7⟩
  have q7 := q6.trans (b7.mono q6.size)
  refine ⟨rfl, (known_yes w7).mono ?_⟩
  rintro e w8 ⟨rfl, b8⟩
  exact ⟨rfl, q7.trans (b8.mono q7.size)⟩
theorem optsubsets_walk (A : Option Addr) (n c : Nat) (s : List Opt) (D1 : Option Addr) (m1 d1 : Nat) (ks : List Int) (D2 : Option Addr) (m2 d2 : Nat) (js : List Int) (w : World) (h : LArg w A n c s)
    (hk : RdI w w.heap.size D1 m1 ks) (hm1 : m1 ≤ 1152921504606846976) (hj : RdI w w.heap.size D2 m2 js) (hm2 : m2 ≤ 1152921504606846976) :
    Calls Try.prog 7 #[.slice A n c, .slice D1 m1 d1, .slice D2 m2 d2] w fun e w' => e = .returned (.bool true) ∧ Below w.heap.size w w' := by
  have N : Hid (Calls Try.prog 36 #[.slice A n c, .slice D1 m1 d1] w fun e w1 => ∃ A1 n1 c1, e = .returned (.slice A1 n1 c1) ∧
      Calls Try.prog 36 #[.slice A1 n1 c1, .slice D2 m2 d2] w1 fun e w2 => ∃ A2 n2 c2, e = .returned (.slice A2 n2 c2) ∧ n2 ≤ 4398046510976 ∧ OptRd w2 w2.heap.size A2 n2 (woo js (woo ks s)) ∧ Below w.heap.size w w2 ∧
        ∀ q, Subs5 w (w2.drewN q) A n c A1 n1 c1 A2 n2 c2) := by
    refine (without_arg A n c s D1 m1 d1 ks w h hk hm1).mono ?_
    rintro e w1 ⟨A1, n1, c1, rfl, h1, b1⟩
    refine ⟨A1, n1, c1, rfl, (without_arg A1 n1 c1 _ D2 m2 d2 js w1 h1 ((hj.below b1 (Nat.le_refl _)).wide b1.size) hm2).mono ?_⟩
    rintro e w2 ⟨A2, n2, c2, rfl, h2, b2⟩
    have B2 := b1.trans (b2.mono b1.size)
    exact ⟨A2, n2, c2, rfl, h2.2.2, h2.1, B2, fun q => subs_five w _ A n c s A1 n1 c1 A2 n2 c2 ks js ((h.later B2).drewN q) ((h1.later b2).drewN q) (h2.drewN q) (below_drewN B2 q)⟩
  have HJ := Lib.hid hj
  have HW := Lib.hid (woo_none js (woo ks s))
  clear h hk hj hm1
  go_enter Try.func7, Try.ntmps7
  go_wp2_with (first
    | (go_at_call 36; ((with_reducible refine N.out.mono ?_); rintro e w1 ⟨A1, n1, c1, rfl, n2⟩; have N2 := Lib.hid n2; clear n2))
    | (go_at_call 36; ((with_reducible refine N2.out.mono ?_); rintro e w2 ⟨A2, n2, c2, rfl, hn2, hr2, hb2, n3⟩; have N3 := Lib.hid n3; have HR2 := Lib.hid hr2; have HB2 := Lib.hid hb2; clear n3 hr2 hb2)))
  have hj2 : m2 ≤ 9223372036854775807 := by omega
  go_loopw [9] (fun i wr => ∃ k q : Nat, k ≤ n2 ∧ i = .int .i64 k ∧ wr = w2.drewN q) (fun i _ => n2 - (intOf i).toNat)
  case atStart => exact ⟨0, 0, Nat.zero_le _, rfl, rfl⟩
  case round =>
    obtain ⟨k, q, hk2, rfl, rfl⟩ := hrel
    by_cases hlt : k < n2
    · have hl2 := HR2.out.1
      obtain ⟨b, off, rfl, hbl, hc⟩ := HR2.out.2 (by omega)
      have x1 := (hc k (by omega)).1
      obtain ⟨K, hK⟩ : ∃ K, ((woo js (woo ks s))[k]'(by omega)).1 = K := ⟨_, rfl⟩
      rw [hK] at x1
      have hno : js.contains K = false := by rw [← hK]; exact HW.out _ (List.getElem_mem _)
      have HNO := Lib.hid hno
      clear hc hno hK hl2
      go_wp2
      go_loopw [10] (fun i wr => ∃ j q : Nat, j ≤ m2 ∧ i = .int .i64 j ∧ wr = w2.drewN q) (fun i _ => m2 - (intOf i).toNat)
      case atStart => exact ⟨0, q, Nat.zero_le _, rfl, rfl⟩
      case round =>
        obtain ⟨j, q2, hj3, rfl, rfl⟩ := hrel
        by_cases hjt : j < m2
        · obtain ⟨b2, off2, rfl, hbl2, hc2⟩ := HJ.out.2 (by omega)
          have y1 := (HB2.out.cell (p := ⟨b2, off2 + j, none⟩) hbl2).trans (hc2 j hjt)
          obtain ⟨J, hJ⟩ : ∃ J, numAt js j = J := ⟨_, rfl⟩
          have hne : (K == J) = false := by
            rw [← hJ]
            simp only [beq_eq_false_iff_ne, ne_eq]
            intro e
            have h1 := HNO.out
            rw [e] at h1
            have : numAt js j ∈ js := mem_numAt.2 ⟨j, by rw [HJ.out.1]; exact hjt, rfl⟩
            simp [this] at h1
          rw [hJ] at y1
          clear hc2 hJ
          go_wp2
          go_quiet (fail)
          go_wp2
          go_roundw
          case rel => exact ⟨j + 1, _, by omega, by go_num, rfl⟩
          case measure => simp [intOf]; omega
        · go_wp2
          go_roundw
          case rel => exact ⟨k + 1, _, by omega, by go_num, rfl⟩
          case measure => simp [intOf]; omega
    · have n4 := N3.out q
      unfold Subs5 at n4
      have N4 := Lib.hid n4
      clear n4
      go_wp2_with (first
        | (go_at_call 37; ((with_reducible refine N4.out.mono ?_); rintro e w3 ⟨rfl, n5⟩; have N5 := Lib.hid n5; clear n5))
        | (go_at_call 37; ((with_reducible refine N5.out.mono ?_); rintro e w4 ⟨rfl, n6⟩; have N6 := Lib.hid n6; clear n6))
        | (go_at_call 37; ((with_reducible refine N6.out.mono ?_); rintro e w5 ⟨rfl, n7⟩; have N7 := Lib.hid n7; clear n7))
        | (go_at_call 37; ((with_reducible refine N7.out.mono ?_); rintro e w6 ⟨rfl, n8⟩; have N8 := Lib.hid n8; clear n8))
        | (go_at_call 37; ((with_reducible refine N8.out.mono ?_); rintro e w7 ⟨rfl, n9⟩; have N9 := Lib.hid n9; clear n9))
        | (go_at_call 35; ((with_reducible refine N9.out.mono ?_); rintro e w8 ⟨rfl, hb⟩; have HB := Lib.hid hb; clear hb)))
      go_ret
      exact ⟨rfl, HB.out⟩
end Go.Proofs.Ytonbdcajepmgbaa
