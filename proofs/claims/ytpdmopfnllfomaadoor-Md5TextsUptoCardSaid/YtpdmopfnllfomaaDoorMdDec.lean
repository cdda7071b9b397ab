/-
  A byte more of what digits say.
-/
import Derived.Test.YtpdmopfnllfomaaDoorMdHex
import Derived.Test.YtpdmopfnllfomaaDoorMdLent
namespace Go.Proofs.YtpdmopfnllfomaaDoor
open Go.RowKit
set_option maxRecDepth 100000
set_option linter.unusedSimpArgs false
set_option linter.unusedVariables false
theorem at_list (s : ByteArray) (k : Nat) (h : k < s.size) : s[k]'h = s.data.toList.getD k 0 := by
  have h2 : k < s.data.size := h
  rw [List.getD_eq_getElem?_getD, List.getElem?_eq_getElem (by simpa using h2)]
  rfl
theorem not_dig {c : UInt8} (h : ¬ isDig c = true) : isDig c = false := by rwa [Bool.not_eq_true] at h
theorem of_pair (a b : Nat) (ha : a < 16) (hb : b < 16) : (16 * (a : Int) + (b : Int)) = ((UInt8.ofNat (16 * a + b)).toNat : Int) := by
  rw [UInt8.toNat_ofNat', Nat.mod_eq_of_lt (by omega)]
  omega
/-- a byte more -/
theorem dec_grow {w : World} {v : Value} {l : List UInt8} (k m : Nat) (c : UInt8) (hk : k < m) (hn : m ≤ 2097152) (hl : l.length = 2 * m) (W : World) (hW : Below w.heap.size w W) (ho : Own W w.heap.size v (dec (l.take (2 * k)))) (x : Int)
    (hx : x = (c.toNat : Int)) :
    ∃ v2 w2, (Builtin.append_ #[22, 22] 22 #[v, .slice (some ⟨W.heap.size, 0, none⟩) 1 1]).run Tryd.prog (W.alloc (.cells #[.int .u8 x] 5)) = .ok v2 w2 ∧ Own w2 w.heap.size v2 (dec (l.take (2 * k)) ++ [c]) ∧ Below w.heap.size w w2 := by
  have hsz := hW.size
  have hlen : (dec (l.take (2 * k))).length ≤ 2097152 := by
    rw [dec_len k _ (by rw [List.length_take]; omega)]
    omega
  obtain ⟨v2, w2, r2, o2, g2, b2⟩ := append_run (ho.alloc (.cells #[.int .u8 x] 5)) 1 (rd_one W c x hx) (by simp) (by omega) (by simp; omega)
  exact ⟨v2, w2, r2, o2, (hW.alloc hsz _).grown g2 (by simp; omega) (fun j hj => (ho.block j hj).1)⟩


end Go.Proofs.YtpdmopfnllfomaaDoor
