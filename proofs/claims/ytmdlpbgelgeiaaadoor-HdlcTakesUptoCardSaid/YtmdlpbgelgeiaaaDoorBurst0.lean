/-
  Plain arithmetic of the register: powers of two, bytes 0.
  Plain arithmetic: a turned bit turns the register behind bytes by a register of its own; turned bits within as many as the register has never come to nothing.
-/
import Derived.Test.YtmdlpbgelgeiaaaDoorCrc
namespace Go.Proofs.YtmdlpbgelgeiaaaDoor
set_option linter.unusedSimpArgs false
set_option linter.unusedVariables false

theorem stp_two (p j : Nat) : stp p (2 ^ (j + 1)) = 2 ^ j := by
  unfold stp
  rw [Nat.pow_succ, if_neg (by omega), Nat.xor_zero]
  omega
theorem stp_zero (p : Nat) : stp p 0 = 0 := by
  unfold stp
  simp
theorem stps_two (p k : Nat) : ∀ m, m ≤ k → stps p m (2 ^ k) = 2 ^ (k - m) := by
  intro m
  induction m with
  | zero => intro _; rfl
  | succ m ih =>
    intro h
    rw [stps_succ, ih (by omega), show k - m = (k - (m + 1)) + 1 by omega, stp_two]
theorem crc_zeros (p : Nat) : ∀ n r, crc p r (List.replicate n 0) = stps p (8 * n) r
  | 0, _ => rfl
  | n + 1, r => by
    show crc p (stps p 8 (r ^^^ 0)) (List.replicate n 0) = _
    rw [Nat.xor_zero, crc_zeros p n, ← stps_add]
    congr 1
    omega
theorem zip_zeros : ∀ l : List UInt8, List.zipWith (· ^^^ ·) (List.replicate l.length 0) l = l
  | [] => rfl
  | c :: l => by
    show (0 ^^^ c) :: List.zipWith (· ^^^ ·) (List.replicate l.length 0) l = _
    rw [zip_zeros l]
    simp
theorem crc_at (p r s : Nat) (l : List UInt8) : crc p (r ^^^ s) l = stps p (8 * l.length) r ^^^ crc p s l := by
  have h := crc_xor p (List.replicate l.length 0) l r s (by simp)
  rw [zip_zeros, crc_zeros] at h
  exact h
end Go.Proofs.YtmdlpbgelgeiaaaDoor
namespace Go.Proofs.YtmdlpbgelgeiaaaDoor
set_option linter.unusedSimpArgs false
set_option linter.unusedVariables false

/-- the byte with bit t alone -/
def oneBit (t : Nat) : UInt8 := UInt8.ofNat (2 ^ t)
theorem oneBit_nat (t : Nat) (h : t < 8) : (oneBit t).toNat = 2 ^ t := by
  unfold oneBit
  have : 2 ^ t < 2 ^ 8 := Nat.pow_lt_pow_right (by omega) h
  rw [UInt8.toNat_ofNat']
  exact Nat.mod_eq_of_lt (by omega)
/-- bytes with bit k (from the first byte's lowest one on) turned -/
def turnBit (l : List UInt8) (k : Nat) : List UInt8 := l.set (k / 8) (l.getD (k / 8) 0 ^^^ oneBit (k % 8))
theorem turnBit_length (l : List UInt8) (k : Nat) : (turnBit l k).length = l.length := by unfold turnBit; exact List.length_set ..
theorem crc_set (p : Nat) (x : UInt8) : ∀ (l : List UInt8) (j r : Nat), j < l.length → crc p r (l.set j (l.getD j 0 ^^^ x)) = crc p r l ^^^ stps p (8 * (l.length - j)) x.toNat
  | [], j, _, h => absurd h (Nat.not_lt_zero j)
  | c :: l, 0, r, _ => by
    show crc p (stps p 8 (r ^^^ (c ^^^ x).toNat)) l = crc p (stps p 8 (r ^^^ c.toNat)) l ^^^ _
    rw [UInt8.toNat_xor, show r ^^^ (c.toNat ^^^ x.toNat) = x.toNat ^^^ (r ^^^ c.toNat) by ac_rfl, stps_xor, crc_at, ← stps_add, Nat.xor_comm]
    congr 2
    simp only [List.length_cons]
    omega
  | c :: l, j + 1, r, h => by
    have hj : j < l.length := by simpa using h
    show crc p (stps p 8 (r ^^^ c.toNat)) (l.set j (l.getD j 0 ^^^ x)) = crc p (stps p 8 (r ^^^ c.toNat)) l ^^^ _
    rw [crc_set p x l j _ hj]
    congr 2
    simp only [List.length_cons]
    omega
theorem stps_down (p t m : Nat) : stps p (t + m) (2 ^ t) = stps p m 1 := by
  rw [stps_add, stps_two p t t (Nat.le_refl _), Nat.sub_self, Nat.pow_zero]
theorem crc_turn (p r : Nat) (l : List UInt8) (a i : Nat) (h : a + i < 8 * l.length) : crc p r (turnBit l (a + i)) = crc p r l ^^^ stps p (8 * l.length - a) (2 ^ i) := by
  unfold turnBit
  rw [crc_set p _ l _ r (by omega), oneBit_nat _ (Nat.mod_lt _ (by omega))]
  congr 1
  have e1 : 8 * (l.length - (a + i) / 8) = (a + i) % 8 + (8 * l.length - (a + i)) := by omega
  have e2 : 8 * l.length - a = i + (8 * l.length - (a + i)) := by omega
  rw [e1, e2, stps_down, stps_down]
theorem stp_none {p k x : Nat} (hp : 2 ^ k ≤ p) (hx : x < 2 ^ (k + 1)) (h : stp p x = 0) : x = 0 := by
  unfold stp at h
  rcases Nat.mod_two_eq_zero_or_one x with e | e
  · rw [if_neg (by omega), Nat.xor_zero] at h
    omega
  · rw [if_pos e] at h
    have e2 : x / 2 = p := by
      have : x / 2 ^^^ p ^^^ p = 0 ^^^ p := by rw [h]
      rw [Nat.xor_assoc, Nat.xor_self, Nat.xor_zero, Nat.zero_xor] at this
      exact this
    rw [Nat.pow_succ] at hx
    omega
theorem stps_none {p k : Nat} (hp : 2 ^ k ≤ p) (hp2 : p < 2 ^ (k + 1)) : ∀ n x, x < 2 ^ (k + 1) → stps p n x = 0 → x = 0
  | 0, _, _, h => h
  | n + 1, x, hx, h => stp_none hp hx (stps_none hp hp2 n _ (stp_lt hp2 hx) h)
theorem xor_bit_lt {c i : Nat} (h : c < 2 ^ i) : c ^^^ 2 ^ i < 2 ^ (i + 1) ∧ c ^^^ 2 ^ i ≠ 0 := by
  refine ⟨Nat.xor_lt_two_pow (by rw [Nat.pow_succ]; omega) (Nat.pow_lt_pow_right (by omega) (by omega)), fun e => ?_⟩
  have e2 : c = 2 ^ i := by
    have : c ^^^ 2 ^ i ^^^ 2 ^ i = 0 ^^^ 2 ^ i := by rw [e]
    rw [Nat.xor_assoc, Nat.xor_self, Nat.xor_zero, Nat.zero_xor] at this
    exact this
  omega
theorem xor_none {a b : Nat} (h : a ^^^ b = a) : b = 0 := by
  have : a ^^^ (a ^^^ b) = a ^^^ a := by rw [h]
  rw [← Nat.xor_assoc, Nat.xor_self, Nat.zero_xor] at this
  exact this
/-- l' is l with bits turned that come to c, told by s -/
structure Turned (p r K a : Nat) (l l' : List UInt8) (i : Nat) (s : Bool) : Prop where
  len : l'.length = l.length
  acc : ∃ c, c < 2 ^ i ∧ c < 2 ^ (K + 1) ∧ s = decide (c ≠ 0) ∧ crc p r l' = crc p r l ^^^ stps p (8 * l.length - a) c
theorem Turned.start (p r K a : Nat) (l : List UInt8) : Turned p r K a l l 0 false :=
  ⟨rfl, 0, by simp, Nat.two_pow_pos _, by simp, by
    have : ∀ n, stps p n 0 = 0 := by
      intro n
      induction n with
      | zero => rfl
      | succ n ih => rw [stps_succ, ih, stp_zero]
    rw [this, Nat.xor_zero]⟩
theorem Turned.on {p r K a : Nat} {l l' : List UInt8} {i : Nat} {s : Bool} (h : Turned p r K a l l' i s) : Turned p r K a l l' (i + 1) s := by
  obtain ⟨hl, c, h1, h2, h3, h4⟩ := h
  exact ⟨hl, c, by rw [Nat.pow_succ]; omega, h2, h3, h4⟩
theorem Turned.turn {p r K a : Nat} {l l' : List UInt8} {i : Nat} {s : Bool} (h : Turned p r K a l l' i s) (hi : i ≤ K) (hk : a + i < 8 * l.length) : Turned p r K a l (turnBit l' (a + i)) (i + 1) true := by
  obtain ⟨hl, c, h1, h2, h3, h4⟩ := h
  obtain ⟨g1, g2⟩ := xor_bit_lt h1
  refine ⟨(turnBit_length _ _).trans hl, c ^^^ 2 ^ i, g1, Nat.lt_of_lt_of_le g1 (Nat.pow_le_pow_right (by omega) (by omega)), by simpa using g2, ?_⟩
  rw [crc_turn p r l' a i (by rw [hl]; exact hk), h4, hl, stps_xor, Nat.xor_assoc]
theorem Turned.told {p r K a : Nat} {l l' : List UInt8} {i : Nat} {s : Bool} (hp : 2 ^ K ≤ p) (hp2 : p < 2 ^ (K + 1)) (h : Turned p r K a l l' i s) : decide (crc p r l' ≠ crc p r l) = s := by
  obtain ⟨hl, c, h1, h2, rfl, h4⟩ := h
  rw [h4, decide_eq_decide]
  constructor
  · intro e ec
    subst ec
    apply e
    have : ∀ n, stps p n 0 = 0 := by
      intro n
      induction n with
      | zero => rfl
      | succ n ih => rw [stps_succ, ih, stp_zero]
    rw [this, Nat.xor_zero]
  · intro e e2
    exact e (stps_none hp hp2 _ _ h2 (xor_none e2))
end Go.Proofs.YtmdlpbgelgeiaaaDoor
