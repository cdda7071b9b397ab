/-
  hdlc: what is escaped is held again; a turned bit is told.
-/
import Derived.Test.YtmdlpbgelgeiaaaDoorHdIt
import Derived.Test.YtmdlpbgelgeiaaaDoorBurst0
namespace Go.Proofs.YtmdlpbgelgeiaaaDoor
open Go.RowKit
set_option maxRecDepth 100000
set_option maxHeartbeats 1000000
set_option linter.unusedSimpArgs false
set_option linter.unusedVariables false

theorem turn_nums : ∀ n, n < 128 → (n < 32 ∨ n = 125 ∨ n = 126) → 32 ≤ n ^^^ 32 ∧ n ^^^ 32 ≠ 125 ∧ n ^^^ 32 ≠ 126 := by decide
theorem kd_turn (a : Int) (c : UInt8) (h : kd a c.toNat ≠ 0) : kd a (c ^^^ 32).toNat = 0 := by
  have hc : c.toNat < 32 ∨ c.toNat = 125 ∨ c.toNat = 126 := by
    unfold kd at h
    by_cases h1 : c.toNat = 126
    · exact .inr (.inr h1)
    · by_cases h2 : c.toNat = 125
      · exact .inr (.inl h2)
      · rw [if_neg h1, if_neg h2] at h
        by_cases h3 : c.toNat < 32 ∧ nmd a c.toNat = true
        · exact .inl h3.1
        · rw [if_neg h3] at h; exact absurd rfl h
  have e : (c ^^^ 32).toNat = c.toNat ^^^ 32 := UInt8.toNat_xor c 32
  obtain ⟨x1, x2, x3⟩ := turn_nums c.toNat (by omega) hc
  rw [e]
  unfold kd
  rw [if_neg x3, if_neg x2, if_neg (by omega)]
theorem kd_125 (a : Int) : kd a (125 : UInt8).toNat = 2 := rfl
theorem kd_126 (a : Int) : kd a (126 : UInt8).toNat = 3 := rfl
theorem xor_back (c : UInt8) : c ^^^ 32 ^^^ 32 = c := by rw [UInt8.xor_assoc, UInt8.xor_self, UInt8.xor_zero]
theorem esc1 (a : Int) (M : Nat) (p q : Bool) (c : UInt8) (s : LSt) (ht : s.turns = false) (hl : s.held.length ≤ M) :
    runS a M p q s (escB a c) = { s with held := s.held ++ [c], opn := false } ∧ frs a M p q s (escB a c) = [] := by
  have not125 : ∀ d : UInt8, kd a d.toNat = 0 → d ≠ 125 := fun d h e => by rw [e, kd_125] at h; cases h
  have plainS : ∀ (t : LSt) (d : UInt8), kd a d.toNat = 0 → t.held.length ≤ M → stp1 a M p q t d = { t with opn := false, turns := false, held := t.held ++ [turnB t.turns d] } ∧ out1 a M p q t d = [] := fun t d h hl => by
    refine ⟨?_, by unfold out1; rw [if_neg (by rintro ⟨e, _⟩; omega)]⟩
    unfold stp1
    rw [if_neg (by omega), if_neg (by omega)]
    unfold tkS
    rw [if_neg (by rintro ⟨e, _⟩; exact not125 d h e)]
    have e1 : decide (d = 125) = false := by simpa using not125 d h
    rw [e1]
    unfold addL
    rw [if_pos hl]
  by_cases hk : kd a c.toNat = 0
  · rw [escB_plain hk]
    obtain ⟨h1, h2⟩ := plainS s c hk hl
    refine ⟨?_, by show out1 _ _ _ _ _ _ ++ [] = []; rw [h2]; rfl⟩
    show stp1 a M p q s c = _
    rw [h1, ht]
    have : s.turns = false := ht
    cases s
    simp only at this
    subst this
    rfl
  · rw [escB_not hk]
    have hd := kd_turn a c hk
    have e1 : stp1 a M p q s 125 = { s with opn := true, turns := true } := by
      unfold stp1
      rw [if_neg (by rw [kd_125]; omega), if_neg (by rw [kd_125]; omega)]
      unfold tkS
      rw [if_pos ⟨rfl, ht⟩]
    have o1 : out1 a M p q s 125 = [] := by unfold out1; rw [if_neg (by rintro ⟨e, _⟩; rw [kd_125] at e; omega)]
    obtain ⟨h1, h2⟩ := plainS { s with opn := true, turns := true } (c ^^^ 32) hd hl
    refine ⟨?_, ?_⟩
    · show stp1 a M p q (stp1 a M p q s 125) (c ^^^ 32) = _
      rw [e1, h1]
      show ({ s with opn := false, turns := false, held := s.held ++ [turnB true (c ^^^ 32)] } : LSt) = _
      have : s.turns = false := ht
      have e3 : turnB true (c ^^^ 32) = c := by unfold turnB; rw [if_pos rfl, xor_back]
      rw [e3]
      cases s
      simp only at this
      subst this
      rfl
    · show out1 a M p q s 125 ++ (out1 a M p q (stp1 a M p q s 125) (c ^^^ 32) ++ []) = []
      rw [o1, e1, h2]
      rfl
theorem run_esc (a : Int) (M : Nat) (p q : Bool) : ∀ (l : List UInt8) (s : LSt), s.turns = false → s.held.length + l.length ≤ M + 1 → (l ≠ [] ∨ s.opn = false) →
    runS a M p q s (escL a l) = { s with held := s.held ++ l, opn := false } ∧ frs a M p q s (escL a l) = []
  | [], s, ht, hl, ho => by
    have : s.opn = false := by rcases ho with h | h; exact absurd rfl h; exact h
    refine ⟨?_, rfl⟩
    show s = _
    rw [List.append_nil]
    cases s
    simp only at this
    subst this
    rfl
  | c :: l, s, ht, hl, _ => by
    rw [List.length_cons] at hl
    obtain ⟨h1, h2⟩ := esc1 a M p q c s ht (by omega)
    show runS a M p q s (escB a c ++ escL a l) = _ ∧ frs a M p q s (escB a c ++ escL a l) = []
    rw [runS_append, frs_append, h1, h2]
    obtain ⟨h3, h4⟩ := run_esc a M p q l { s with held := s.held ++ [c], opn := false } ht (by simp only [List.length_append, List.length_singleton]; omega) (.inr rfl)
    rw [h3, h4]
    exact ⟨by simp, rfl⟩
/-- bytes between two flags -/
def lineL (a : Int) (l : List UInt8) : List UInt8 := [126] ++ escL a l ++ [126]
theorem flag_first (a : Int) (M : Nat) (p q : Bool) (s : LSt) (hs : s.held = [] ∧ s.opn = false) (m : List UInt8) : runS a M p q s (126 :: m) = runS a M p q (rstS s) m ∧ frs a M p q s (126 :: m) = frs a M p q (rstS s) m := by
  have e1 : stp1 a M p q s 126 = rstS s := by
    unfold stp1
    rw [if_neg (by rw [kd_126]; omega), if_pos (kd_126 a)]
    unfold endS
    rw [if_neg (by rw [hs.2]; decide), if_pos (by rw [hs.1]; rfl)]
  have e2 : out1 a M p q s 126 = [] := by
    unfold out1
    rw [if_neg]
    rintro ⟨_, e⟩
    unfold endB at e
    rw [if_pos (.inr (.inl (by rw [hs.1]; decide)))] at e
    cases e
  refine ⟨by show runS a M p q (stp1 a M p q s 126) m = _; rw [e1], by show out1 _ _ _ _ _ _ ++ frs a M p q (stp1 a M p q s 126) m = _; rw [e1, e2]; rfl⟩
theorem flag_last (a : Int) (M : Nat) (p q : Bool) (s : LSt) (ho : s.opn = false) (h4 : 4 ≤ s.held.length) (hM : s.held.length ≤ M) :
    stp1 a M p q s 126 = jdS p q (rstS s) s.held ∧ out1 a M p q s 126 = if jdK p q s.held = 0 then [(frP s.held, frI s.held)] else [] := by
  have n0 : ¬ s.opn = true := by rw [ho]; decide
  have n1 : ¬ s.held.length = 0 := by omega
  have n2 : ¬ s.held.length < 4 := by omega
  have n3 : ¬ M < s.held.length := by omega
  refine ⟨?_, ?_⟩
  · unfold stp1
    rw [if_neg (by rw [kd_126]; omega), if_pos (kd_126 a)]
    unfold endS
    rw [if_neg n0, if_neg n1, if_neg n2, if_neg n3]
  · have eB : endB M p q s = (jdK p q s.held == 0) := by
      unfold endB
      rw [if_neg]
      rintro (h | h | h)
      · exact n0 h
      · exact n2 h
      · exact n3 h
    unfold out1
    rw [eB]
    by_cases hj : jdK p q s.held = 0
    · rw [if_pos ⟨kd_126 a, by simpa using hj⟩, if_pos hj]
    · rw [if_neg (by rintro ⟨_, h⟩; exact hj (by simpa using h)), if_neg hj]
theorem run_line (a : Int) (M : Nat) (p q : Bool) (l : List UInt8) (h4 : 4 ≤ l.length) (hM : l.length ≤ M) :
    runS a M p q st0 (lineL a l) = jdS p q st0 l ∧ frs a M p q st0 (lineL a l) = if jdK p q l = 0 then [(frP l, frI l)] else [] := by
  have hne : l ≠ [] := by intro e; rw [e] at h4; simp at h4
  have e0 : lineL a l = 126 :: (escL a l ++ [126]) := rfl
  obtain ⟨f1, f2⟩ := flag_first a M p q st0 ⟨rfl, rfl⟩ (escL a l ++ [126])
  rw [e0, f1, f2, runS_append, frs_append]
  obtain ⟨r1, r2⟩ := run_esc a M p q l (rstS st0) rfl (by show 0 + l.length ≤ M + 1; omega) (.inl hne)
  rw [r1, r2]
  have eh : (rstS st0).held ++ l = l := rfl
  rw [eh]
  obtain ⟨s, hs⟩ : ∃ s : LSt, s = { rstS st0 with held := l, opn := false } := ⟨_, rfl⟩
  rw [← hs]
  obtain ⟨x1, x2⟩ := flag_last a M p q s (by rw [hs]) (by rw [hs]; exact h4) (by rw [hs]; exact hM)
  have ehl : s.held = l := by rw [hs]
  have ers : rstS s = st0 := by rw [hs]; rfl
  rw [ehl] at x2
  refine ⟨?_, ?_⟩
  · show stp1 a M p q s 126 = _
    rw [x1, ers, ehl]
  · show out1 a M p q s 126 ++ [] = _
    rw [List.append_nil, x2]
theorem turned_sum (m : List UInt8) (k : Nat) (hk : k < 8 * (sumd m).length) : crc P16 65535 (turnBit (sumd m) k) ≠ 61624 := by
  have h := crc_turn P16 65535 (sumd m) k 0 (by omega)
  rw [Nat.add_zero, Nat.pow_zero] at h
  rw [h]
  have hg : crc P16 65535 (sumd m) = 61624 := good16 m
  rw [hg]
  intro e
  have hz := xor_none e
  have := stps_none (p := P16) (k := 15) (by decide) (by decide) (8 * (sumd m).length - k) 1 (by decide) hz
  omega
end Go.Proofs.YtmdlpbgelgeiaaaDoor
