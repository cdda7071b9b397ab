/-
  Plain: bytes as hexadecimal digits, and back.
-/
import Derived.Test.YtmdlpbgelgeiaaaDoorMath
namespace Go.Proofs.YtmdlpbgelgeiaaaDoor
set_option linter.unusedSimpArgs false
set_option linter.unusedVariables false

/-- the digit of a number below 16 -/
def dig (n : Nat) : UInt8 := UInt8.ofNat (if n < 10 then 48 + n else 87 + n)
def hexS : List UInt8 → List UInt8
  | [] => []
  | c :: l => dig (c.toNat / 16) :: dig (c.toNat % 16) :: hexS l
theorem hexS_length : ∀ l, (hexS l).length = 2 * l.length
  | [] => rfl
  | c :: l => by
    rw [hexS, List.length_cons, List.length_cons, hexS_length l, List.length_cons]
    omega
theorem hexS_append : ∀ a b, hexS (a ++ b) = hexS a ++ hexS b
  | [], _ => rfl
  | c :: a, b => by
    show _ :: _ :: hexS (a ++ b) = _
    rw [hexS_append a b]
    rfl
theorem take_next (l : List UInt8) (k : Nat) (h : k < l.length) : l.take (k + 1) = l.take k ++ [l.getD k 0] := by
  rw [List.take_add_one, List.getElem?_eq_getElem h, List.getD_eq_getElem?_getD, List.getElem?_eq_getElem h]
  rfl
theorem hexS_next (l : List UInt8) (k : Nat) (h : k < l.length) : hexS (l.take (k + 1)) = hexS (l.take k) ++ [dig ((l.getD k 0).toNat / 16), dig ((l.getD k 0).toNat % 16)] := by
  rw [take_next l k h, hexS_append]
  rfl
/-- is it a digit -/
def isDig (c : UInt8) : Bool := (48 ≤ c.toNat && c.toNat ≤ 57) || (97 ≤ c.toNat && c.toNat ≤ 102) || (65 ≤ c.toNat && c.toNat ≤ 70)
/-- what it says (16: it is none) -/
def digVal (c : UInt8) : Nat := if 48 ≤ c.toNat ∧ c.toNat ≤ 57 then c.toNat - 48 else if 97 ≤ c.toNat ∧ c.toNat ≤ 102 then c.toNat - 87 else if 65 ≤ c.toNat ∧ c.toNat ≤ 70 then c.toNat - 55 else 16
theorem digVal_lt {c : UInt8} (h : isDig c = true) : digVal c < 16 := by
  unfold isDig at h
  unfold digVal
  simp only [Bool.or_eq_true, Bool.and_eq_true, decide_eq_true_eq] at h
  split
  · omega
  · split
    · omega
    · split
      · omega
      · omega
theorem dig_all : ∀ n, n < 16 → isDig (dig n) = true ∧ digVal (dig n) = n := by decide
def dec : List UInt8 → List UInt8
  | a :: b :: l => UInt8.ofNat (16 * digVal a + digVal b) :: dec l
  | _ => []
theorem dec_hex : ∀ l, dec (hexS l) = l
  | [] => rfl
  | c :: l => by
    have hc := c.toNat_lt
    rw [hexS, dec, dec_hex l, (dig_all _ (by omega)).2, (dig_all _ (by omega)).2]
    congr 1
    rw [show 16 * (c.toNat / 16) + c.toNat % 16 = c.toNat by omega]
    exact UInt8.ofNat_toNat
theorem all_hex : ∀ l, (hexS l).all isDig = true
  | [] => rfl
  | c :: l => by
    have hc := c.toNat_lt
    rw [hexS, List.all_cons, List.all_cons, all_hex l, (dig_all _ (by omega)).1, (dig_all _ (by omega)).1]
    rfl
theorem dec_pair : ∀ (k : Nat) (l : List UInt8), 2 * k + 1 < l.length → dec (l.take (2 * k + 2)) = dec (l.take (2 * k)) ++ [UInt8.ofNat (16 * digVal (l.getD (2 * k) 0) + digVal (l.getD (2 * k + 1) 0))]
  | 0, a :: b :: l, _ => rfl
  | k + 1, a :: b :: l, h => by
    have h2 : 2 * k + 1 < l.length := by simp only [List.length_cons] at h; omega
    have e := dec_pair k l h2
    rw [show 2 * (k + 1) + 2 = (2 * k + 2) + 1 + 1 by omega, show 2 * (k + 1) = 2 * k + 1 + 1 by omega]
    simp only [List.take_succ_cons, dec, e, List.cons_append]
    congr 1
  | 0, [], h => by simp at h
  | 0, [_], h => by simp at h
  | k + 1, [], h => by simp at h
  | k + 1, [_], h => by simp at h
theorem dec_len : ∀ (k : Nat) (l : List UInt8), l.length = 2 * k → (dec l).length = k
  | 0, l, h => by
    rw [List.eq_nil_of_length_eq_zero h]
    rfl
  | k + 1, a :: b :: l, h => by
    rw [dec, List.length_cons, dec_len k l (by simp only [List.length_cons] at h; omega)]
  | k + 1, [], h => by simp at h
  | k + 1, [_], h => by simp only [List.length_cons, List.length_nil] at h; omega
theorem not_all {l : List UInt8} {j : Nat} (hj : j < l.length) (h : isDig (l.getD j 0) = false) : l.all isDig = false := by
  rw [← Bool.not_eq_true]
  intro e
  have := List.all_eq_true.1 e (l.getD j 0) (by
    rw [List.getD_eq_getElem?_getD, List.getElem?_eq_getElem hj]
    exact List.getElem_mem hj)
  rw [h] at this
  cases this
theorem all_next {l : List UInt8} {k : Nat} (hk : k < l.length) (h : (l.take k).all isDig = true) (h2 : isDig (l.getD k 0) = true) : (l.take (k + 1)).all isDig = true := by
  rw [take_next l k hk, List.all_append, h, List.all_cons, h2]
  rfl
end Go.Proofs.YtmdlpbgelgeiaaaDoor
