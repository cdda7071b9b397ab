/-
  ip.Sum's arithmetic: pairs summed, the overflow added; pairs in another order.
-/
import Derived.Test.YtjkdlmielckaaaaDoorProg
namespace Go.Proofs.YtjkdlmielckaaaaDoor
def sumI : Bool → List UInt8 → Nat
  | _, [] => 0
  | e, a :: r => (if e then a.toNat * 256 else a.toNat) + sumI (!e) r
/-- is the place even? -/
def evn (k : Nat) : Bool := k % 2 == 0
theorem evn_succ (k : Nat) : evn (k + 1) = !evn k := by
  unfold evn
  rcases Nat.mod_two_eq_zero_or_one k with h | h
  · have : (k + 1) % 2 = 1 := by omega
    simp [h, this]
  · have : (k + 1) % 2 = 0 := by omega
    simp [h, this]
theorem sumI_append (l m : List UInt8) : ∀ e, sumI e (l ++ m) = sumI e l + sumI (e == evn l.length) m := by
  induction l with
  | nil => intro e; cases e <;> simp [sumI, evn]
  | cons a r ih =>
    intro e
    simp only [List.cons_append, sumI, ih, List.length_cons, evn_succ]
    have : (e == !evn r.length) = ((!e) == evn r.length) := by cases e <;> cases evn r.length <;> rfl
    rw [this]; omega
theorem sumI_le (l : List UInt8) : ∀ e, sumI e l ≤ 65280 * l.length := by
  induction l with
  | nil => intro e; simp [sumI]
  | cons a r ih =>
    intro e
    have := ih (!e)
    have ha : a.toNat < 256 := a.toNat_lt
    simp only [sumI, List.length_cons]
    split <;> omega
/-- the sum of l's first k bytes, as pairs -/
def sumK (l : List UInt8) (k : Nat) : Nat := sumI true (l.take k)
theorem sumK_succ (l : List UInt8) (k : Nat) (h : k < l.length) : sumK l (k + 1) = sumK l k + (if k % 2 = 0 then l[k].toNat * 256 else l[k].toNat) := by
  unfold sumK
  rw [List.take_succ_eq_append_getElem h, sumI_append, List.length_take, Nat.min_eq_left (by omega)]
  unfold evn
  rcases Nat.mod_two_eq_zero_or_one k with h2 | h2 <;> simp [h2, sumI]
/-- a sum, its overflow added -/
def fold16 (n : Nat) : Nat := if n = 0 then 0 else (n - 1) % 65535 + 1
theorem fold16_small (n : Nat) (h : n ≤ 65535) : fold16 n = n := by
  unfold fold16; split <;> omega
theorem fold16_step (n : Nat) (h : 65535 < n) : fold16 (n / 65536 + n % 65536) = fold16 n := by
  unfold fold16
  rw [if_neg (by omega), if_neg (by omega)]
  omega
theorem fold16_less (n : Nat) (h : 65535 < n) : n / 65536 + n % 65536 < n := by omega
theorem fold16_le (n : Nat) : fold16 n ≤ 65535 := by unfold fold16; split <;> omega
/-- the checksum of l -/
def sumZ (l : List UInt8) : Nat := 65535 - fold16 (sumI true l)
theorem sumZ_le (l : List UInt8) : sumZ l ≤ 65535 := by unfold sumZ; omega
/-- bytes with their checksum behind come to 0 -/
theorem sumZ_behind (l : List UInt8) (h : l.length % 2 = 0) (x y : UInt8) (hx : x.toNat = sumZ l / 256) (hy : y.toNat = sumZ l % 256) : sumZ (l ++ [x, y]) = 0 := by
  have he : evn l.length = true := by unfold evn; simp [h]
  have e : sumI true (l ++ [x, y]) = sumI true l + sumZ l := by
    rw [sumI_append, he]
    simp only [sumI, beq_self_eq_true, if_true, Bool.not_true, hx, hy]
    simp
    omega
  show 65535 - fold16 (sumI true (l ++ [x, y])) = 0
  rw [e]
  unfold sumZ fold16
  split
  · split <;> omega
  · split
    · omega
    · omega
/-- the pair at place k counts -/
def pairAt (l : List UInt8) (k : Nat) : Nat := (l[2 * k]?.getD 0).toNat * 256 + (l[2 * k + 1]?.getD 0).toNat
def sumTo (f : Nat → Nat) : Nat → Nat
  | 0 => 0
  | n + 1 => sumTo f n + f n
theorem sumTo_congr {f g : Nat → Nat} : ∀ n, (∀ k, k < n → f k = g k) → sumTo f n = sumTo g n
  | 0, _ => rfl
  | n + 1, h => by simp only [sumTo]; rw [sumTo_congr n (fun k hk => h k (by omega)), h n (by omega)]
theorem sumTo_shift (f : Nat → Nat) : ∀ n, sumTo (fun k => f (k + 1)) n + f 0 = sumTo f n + f n
  | 0 => by simp [sumTo]
  | n + 1 => by simp only [sumTo]; have := sumTo_shift f n; omega
theorem sumTo_turn (f : Nat → Nat) (p : Nat) (hp : 0 < p) : ∀ t, sumTo (fun k => f ((k + t) % p)) p = sumTo f p
  | 0 => sumTo_congr p (fun k hk => by rw [Nat.add_zero, Nat.mod_eq_of_lt hk])
  | t + 1 => by
    have h := sumTo_shift (fun k => f ((k + t) % p)) p
    have h2 := sumTo_turn f p hp t
    have e : (p + t) % p = (0 + t) % p := by rw [Nat.add_mod_left, Nat.zero_add]
    simp only [e] at h
    have h3 : sumTo (fun k => f ((k + (t + 1)) % p)) p = sumTo (fun k => f ((k + 1 + t) % p)) p := sumTo_congr p (fun k _ => by rw [show k + (t + 1) = k + 1 + t by omega])
    omega
theorem sumI_pairs (l : List UInt8) (n : Nat) (h : 2 * n ≤ l.length) : sumI true (l.take (2 * n)) = sumTo (pairAt l) n := by
  induction n with
  | zero => simp [sumI, sumTo]
  | succ n ih =>
    have h1 := sumK_succ l (2 * n) (by omega)
    have h2 := sumK_succ l (2 * n + 1) (by omega)
    unfold sumK at h1 h2
    rw [show 2 * (n + 1) = 2 * n + 1 + 1 by omega, h2, h1, ih (by omega)]
    simp only [sumTo, pairAt]
    rw [if_pos (by omega), if_neg (by omega), List.getElem?_eq_getElem (by omega), List.getElem?_eq_getElem (by omega)]
    simp only [Option.getD_some]
    omega
/-- the first n pairs of a turned list -/
def turnK (l : List UInt8) (p : Nat) (t : Nat) : Nat → List UInt8
  | 0 => []
  | n + 1 => turnK l p t n ++ [l[2 * ((n + t) % p)]?.getD 0, l[2 * ((n + t) % p) + 1]?.getD 0]
theorem turnK_length (l : List UInt8) (p t : Nat) : ∀ n, (turnK l p t n).length = 2 * n
  | 0 => rfl
  | n + 1 => by simp only [turnK, List.length_append, turnK_length l p t n, List.length_cons, List.length_nil]; omega
theorem turnK_sum (l : List UInt8) (p t : Nat) : ∀ n, sumI true (turnK l p t n) = sumTo (fun k => pairAt l ((k + t) % p)) n
  | 0 => rfl
  | n + 1 => by
    have he : evn (2 * n) = true := by unfold evn; simp
    simp only [turnK, sumI_append, turnK_length, turnK_sum l p t n, he, sumTo, pairAt]
    simp [sumI]
theorem sumZ_turn (l : List UInt8) (p t : Nat) (h : l.length = 2 * p) : sumZ (turnK l p t p) = sumZ l := by
  unfold sumZ
  rw [turnK_sum]
  rcases Nat.eq_zero_or_pos p with rfl | hp
  · simp only [sumTo]
    rw [show l = [] from List.eq_nil_of_length_eq_zero (by omega)]
    rfl
  · have e := sumI_pairs l p (by omega)
    rw [← h, List.take_length] at e
    rw [sumTo_turn _ p hp, ← e]
theorem tmod_mul (a p : Int) : ∃ q, a.tmod p = a + p * q := ⟨-(a.tdiv p), by have := Int.tmod_add_mul_tdiv a p; rw [Int.mul_neg]; omega⟩
theorem turn_at (i p : Nat) (t : Int) (hp : 0 < p) : ((((i : Int) + t.tmod p).tmod p) + p).tmod p = (((i + (t % (p : Int)).toNat) % p : Nat) : Int) := by
  have h1 : -(p : Int) < ((i : Int) + t.tmod p).tmod p := by
    have := Int.lt_tmod_of_pos ((i : Int) + t.tmod p) (b := (p : Int)) (by omega)
    exact this
  rw [Int.tmod_eq_emod_of_nonneg (by omega)]
  obtain ⟨q1, e1⟩ := tmod_mul ((i : Int) + t.tmod p) p
  obtain ⟨q2, e2⟩ := tmod_mul t p
  rw [e1, e2]
  have h0 : 0 ≤ t % (p : Int) := Int.emod_nonneg _ (by omega)
  have h3 : (((t % (p : Int)).toNat : Nat) : Int) = t % (p : Int) := Int.toNat_of_nonneg h0
  rw [Int.natCast_emod, Int.natCast_add, h3, Int.add_emod_emod]
  rw [show (i : Int) + (t + p * q2) + p * q1 + p = (i + t) + p * (q2 + q1 + 1) by rw [Int.mul_add, Int.mul_add]; omega]
  rw [Int.add_mul_emod_self_left]
end Go.Proofs.YtjkdlmielckaaaaDoor
