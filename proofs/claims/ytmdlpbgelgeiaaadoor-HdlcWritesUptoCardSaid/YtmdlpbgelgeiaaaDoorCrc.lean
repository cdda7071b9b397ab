/-
  Plain arithmetic: a register of some polynomial, bit by bit; four bits at once by a table; it is linear.
-/
import Derived.Test.YtmdlpbgelgeiaaaDoorMath
namespace Go.Proofs.YtmdlpbgelgeiaaaDoor
set_option linter.unusedSimpArgs false
set_option linter.unusedVariables false

/-- one bit goes out of the register -/
def stp (p r : Nat) : Nat := r / 2 ^^^ (if r % 2 = 1 then p else 0)
def stps (p : Nat) : Nat → Nat → Nat
  | 0, r => r
  | n + 1, r => stps p n (stp p r)
/-- the register behind bytes -/
def crc (p : Nat) : Nat → List UInt8 → Nat
  | r, [] => r
  | r, c :: l => crc p (stps p 8 (r ^^^ c.toNat)) l
def P16 : Nat := 33800
def P32 : Nat := 3988292384

theorem stp_xor (p a b : Nat) : stp p (a ^^^ b) = stp p a ^^^ stp p b := by
  have h1 : (a ^^^ b) / 2 = a / 2 ^^^ b / 2 := by
    have := Nat.shiftRight_xor_distrib (a := a) (b := b) (i := 1)
    simpa [Nat.shiftRight_eq_div_pow] using this
  have h2 : (a ^^^ b) % 2 = (a % 2 + b % 2) % 2 := by
    have := Nat.xor_mod_two_pow (a := a) (b := b) (n := 1)
    rw [Nat.pow_one] at this
    rw [this]
    rcases Nat.mod_two_eq_zero_or_one a with h | h <;> rcases Nat.mod_two_eq_zero_or_one b with h' | h' <;> rw [h, h'] <;> rfl
  unfold stp
  rw [h1, h2]
  rcases Nat.mod_two_eq_zero_or_one a with h | h <;> rcases Nat.mod_two_eq_zero_or_one b with h' | h' <;> rw [h, h']
  · simp
  · simp [Nat.xor_assoc]
  · simp only [Nat.reduceAdd, Nat.reduceMod, Nat.zero_ne_one, if_false, if_true, Nat.xor_zero]
    ac_rfl
  · simp only [Nat.reduceAdd, Nat.reduceMod, Nat.zero_ne_one, if_false, if_true, Nat.xor_zero]
    rw [show a / 2 ^^^ p ^^^ (b / 2 ^^^ p) = a / 2 ^^^ b / 2 ^^^ (p ^^^ p) by ac_rfl, Nat.xor_self, Nat.xor_zero]
theorem stps_xor (p : Nat) : ∀ n a b, stps p n (a ^^^ b) = stps p n a ^^^ stps p n b
  | 0, _, _ => rfl
  | n + 1, a, b => by rw [stps, stp_xor, stps_xor p n]; rfl
theorem stps_add (p : Nat) : ∀ n m a, stps p (n + m) a = stps p m (stps p n a)
  | 0, m, a => by rw [Nat.zero_add]; rfl
  | n + 1, m, a => by rw [show n + 1 + m = (n + m) + 1 by omega, stps, stps_add p n m]; rfl
theorem stps_succ (p n a : Nat) : stps p (n + 1) a = stp p (stps p n a) := stps_add p n 1 a
theorem crc_xor (p : Nat) : ∀ (a b : List UInt8) (r s : Nat), a.length = b.length → crc p (r ^^^ s) (List.zipWith (· ^^^ ·) a b) = crc p r a ^^^ crc p s b
  | [], [], _, _, _ => rfl
  | x :: a, y :: b, r, s, h => by
    have hl : a.length = b.length := by simpa using h
    show crc p (stps p 8 (r ^^^ s ^^^ (x ^^^ y).toNat)) (List.zipWith (· ^^^ ·) a b) = _
    rw [UInt8.toNat_xor, show r ^^^ s ^^^ (x.toNat ^^^ y.toNat) = (r ^^^ x.toNat) ^^^ (s ^^^ y.toNat) by ac_rfl, stps_xor, crc_xor p a b _ _ hl]
    rfl
theorem crc_append (p : Nat) : ∀ (a b : List UInt8) (r : Nat), crc p r (a ++ b) = crc p (crc p r a) b
  | [], _, _ => rfl
  | x :: a, b, r => crc_append p a b _

theorem stp_lt {p r k : Nat} (hp : p < 2 ^ k) (hr : r < 2 ^ k) : stp p r < 2 ^ k := by
  unfold stp
  refine Nat.xor_lt_two_pow (by omega) ?_
  split
  · exact hp
  · exact Nat.two_pow_pos k
theorem stps_lt {p k : Nat} (hp : p < 2 ^ k) : ∀ n r, r < 2 ^ k → stps p n r < 2 ^ k
  | 0, _, h => h
  | n + 1, r, h => stps_lt hp n _ (stp_lt hp h)
theorem crc_lt {p k : Nat} (hp : p < 2 ^ k) (hk : 8 ≤ k) : ∀ (l : List UInt8) (r : Nat), r < 2 ^ k → crc p r l < 2 ^ k
  | [], _, h => h
  | c :: l, r, h => crc_lt hp hk l _ (stps_lt hp 8 _ (Nat.xor_lt_two_pow h (by
    have := c.toNat_lt
    have : 2 ^ 8 ≤ 2 ^ k := Nat.pow_le_pow_right (by omega) hk
    omega)))

/-- four bits at once -/
theorem stps_even (p q : Nat) : stps p 4 (16 * q) = q := by
  have h : ∀ x, stp p (2 * x) = x := by
    intro x
    unfold stp
    rw [if_neg (by omega), Nat.xor_zero]
    omega
  show stp p (stp p (stp p (stp p (16 * q)))) = q
  rw [show 16 * q = 2 * (8 * q) by omega, h, show 8 * q = 2 * (4 * q) by omega, h, show 4 * q = 2 * (2 * q) by omega, h, h]
theorem nibble (p : Nat) (T : Nat → Nat) (hT : ∀ i, i < 16 → stps p 4 i = T i) (r : Nat) : r / 16 ^^^ T (r % 16) = stps p 4 r := by
  have e : r = 16 * (r / 16) ^^^ r % 16 := by
    have h := Nat.two_pow_add_eq_or_of_lt (i := 4) (show r % 16 < 2 ^ 4 by omega) (r / 16)
    have hx : 2 ^ 4 * (r / 16) ^^^ r % 16 = 2 ^ 4 * (r / 16) + r % 16 := by
      apply Nat.eq_of_testBit_eq
      intro i
      rw [h, Nat.testBit_xor, Nat.testBit_or]
      by_cases hi : i < 4
      · have h4 : decide (4 ≤ i) = false := by simpa using hi
        rw [Nat.testBit_two_pow_mul, h4]
        simp
      · have : (r % 16).testBit i = false := Nat.testBit_lt_two_pow (Nat.lt_of_lt_of_le (show r % 16 < 2 ^ 4 by omega) (Nat.pow_le_pow_right (by omega) (by omega)))
        rw [this]
        simp
    have h16 : (2 : Nat) ^ 4 = 16 := rfl
    rw [h16] at hx
    omega
  conv => rhs; rw [e]
  rw [stps_xor, stps_even, hT (r % 16) (by omega)]

def L16 : List Int := [0, 4225, 8450, 12675, 16900, 21125, 25350, 29575, 33800, 38025, 42250, 46475, 50700, 54925, 59150, 63375]
def L32 : List Int := [0, 498536548, 997073096, 651767980, 1994146192, 1802195444, 1303535960, 1342533948, 3988292384, 4027552580, 3604390888, 3412177804, 2607071920, 2262029012, 2685067896, 3183342108]
def T16 (i : Nat) : Nat := (L16.getD i 0).toNat
def T32 (i : Nat) : Nat := (L32.getD i 0).toNat
theorem tab16 : ∀ i, i < 16 → stps P16 4 i = T16 i := by decide
theorem tab32 : ∀ i, i < 16 → stps P32 4 i = T32 i := by decide
theorem tab16_int : ∀ i, i < 16 → L16.getD i 0 = (T16 i : Int) := by decide
theorem tab32_int : ∀ i, i < 16 → L32.getD i 0 = (T32 i : Int) := by decide
theorem tab16_lt : ∀ i, i < 16 → T16 i < 65536 := by decide
theorem tab32_lt : ∀ i, i < 16 → T32 i < 4294967296 := by decide
end Go.Proofs.YtmdlpbgelgeiaaaDoor
