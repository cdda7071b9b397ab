/-
  hdlc: what bytes mean on a line, in numbers.
-/
import Derived.Test.YtmdlpbgelgeiaaaDoorPuts16
namespace Go.Proofs.YtmdlpbgelgeiaaaDoor
open Go.RowKit
set_option maxRecDepth 100000
set_option maxHeartbeats 1000000
set_option linter.unusedSimpArgs false
set_option linter.unusedVariables false

/-- does the map name the byte -/
def nmd (a : Int) (i : Nat) : Bool := decide (a / 2 ^ i % 2 = 1)
/-- what a byte means: 0 itself, 1 named, 2 the escape, 3 the flag -/
def kd (a : Int) (i : Nat) : Nat := if i = 126 then 3 else if i = 125 then 2 else if i < 32 ∧ nmd a i = true then 1 else 0
def kdF (a : Int) (k i : Nat) : Nat := if i < k ∧ nmd a i = true then 1 else 0
def kdK (a : Int) (k : Nat) : List Value := (List.range 256).map fun i => .int .u8 (kdF a k i : Nat)
def kdL (a : Int) : List Value := (List.range 256).map fun i => .int .u8 (kd a i : Nat)
theorem kdK_length (a : Int) (k : Nat) : (kdK a k).length = 256 := by simp [kdK]
theorem kdL_length (a : Int) : (kdL a).length = 256 := by simp [kdL]
theorem kdK_zero (a : Int) : kdK a 0 = kdK 0 0 := by
  unfold kdK kdF
  simp
theorem kdK_get (a : Int) (k i : Nat) (h : i < 256) : (kdK a k)[i]? = some (.int .u8 (kdF a k i : Nat)) := by simp [kdK, h]
theorem kdL_get (a : Int) (i : Nat) (h : i < 256) : (kdL a)[i]? = some (.int .u8 (kd a i : Nat)) := by simp [kdL, h]
theorem kdK_yes (a : Int) (k : Nat) (h : k < 32) (hn : nmd a k = true) : (kdK a k).set k (.int .u8 1) = kdK a (k + 1) := by
  apply List.ext_getElem (by simp [kdK])
  intro i h1 h2
  rw [List.getElem_set]
  have e1 : i < 256 := by simpa [kdK] using h2
  by_cases e : k = i
  · subst e
    simp [kdK, kdF, hn]
  · rw [if_neg e]
    have : (i < k + 1) ↔ (i < k) := by omega
    simp [kdK, kdF, this]
theorem kdK_no (a : Int) (k : Nat) (hn : nmd a k = false) : kdK a k = kdK a (k + 1) := by
  apply List.ext_getElem (by simp [kdK])
  intro i h1 h2
  by_cases e : k = i
  · subst e
    simp [kdK, kdF, hn]
  · have : (i < k + 1) ↔ (i < k) := by omega
    simp [kdK, kdF, this]
theorem kdK_end (a : Int) : ((kdK a 32).set 125 (.int .u8 2)).set 126 (.int .u8 3) = kdL a := by
  apply List.ext_getElem (by simp [kdK, kdL])
  intro i h1 h2
  rw [List.getElem_set, List.getElem_set]
  have e1 : i < 256 := by simpa [kdL] using h2
  by_cases e : i = 126
  · subst e; simp [kdL, kd]
  · by_cases e2 : i = 125
    · subst e2; simp [kdL, kd]
    · rw [if_neg (Ne.symm e), if_neg (Ne.symm e2)]
      simp [kdK, kdL, kd, kdF, e, e2]
theorem kdL_one (a : Int) : ∀ u ∈ kdL a, u.oneCell' = true := by
  intro u hu
  simp [kdL] at hu
  obtain ⟨i, _, rfl⟩ := hu
  rfl
/-- a byte as it goes over the line -/
def escB (a : Int) (c : UInt8) : List UInt8 := if kd a c.toNat = 0 then [c] else [125, c ^^^ 32]
def escL (a : Int) : List UInt8 → List UInt8
  | [] => []
  | c :: l => escB a c ++ escL a l
theorem escL_append (a : Int) : ∀ l m, escL a (l ++ m) = escL a l ++ escL a m
  | [], m => rfl
  | c :: l, m => by show escB a c ++ escL a (l ++ m) = escB a c ++ escL a l ++ escL a m; rw [escL_append a l m, List.append_assoc]
theorem escB_le (a : Int) (c : UInt8) : (escB a c).length ≤ 2 := by unfold escB; split <;> simp
theorem escL_le (a : Int) : ∀ l, (escL a l).length ≤ 2 * l.length
  | [] => by simp [escL]
  | c :: l => by
    have h1 := escB_le a c
    have h2 := escL_le a l
    show (escB a c ++ escL a l).length ≤ _
    rw [List.length_append, List.length_cons]
    omega
theorem escL_next (a : Int) (l : List UInt8) (k : Nat) (h : k < l.length) : escL a (l.take (k + 1)) = escL a (l.take k) ++ escB a (l.getD k 0) := by
  rw [List.take_succ_eq_append_getElem h, escL_append]
  have e : l.getD k 0 = l[k] := by rw [List.getD_eq_getElem?_getD, List.getElem?_eq_getElem h]; rfl
  rw [e]
  show _ ++ (escB a l[k] ++ []) = _
  rw [List.append_nil]
theorem escB_plain {a : Int} {c : UInt8} (h : kd a c.toNat = 0) : escB a c = [c] := by unfold escB; rw [if_pos h]
theorem escB_not {a : Int} {c : UInt8} (h : kd a c.toNat ≠ 0) : escB a c = [125, c ^^^ 32] := by unfold escB; rw [if_neg h]
theorem xor32 (c : UInt8) : bits .xor .u8 (c.toNat : Int) 32 = ((c ^^^ 32).toNat : Int) := by
  have h := c.toNat_lt
  have h2 := u8_xor (c.toNat : Int) 32 (by omega) (by omega) (by omega) (by omega)
  rw [h2]
  simp
end Go.Proofs.YtmdlpbgelgeiaaaDoor
