/-
  hdlc.Encode of any frame; a number below another.
-/
import Derived.Test.YtmdlpbgelgeiaaaDoorHdEnc
namespace Go.Proofs.YtmdlpbgelgeiaaaDoor
open Go.RowKit
set_option maxRecDepth 100000
set_option maxHeartbeats 2000000
set_option linter.unusedSimpArgs false
set_option linter.unusedVariables false

def encX (P : Int) (n : Nat) (a : Int) (p q : Bool) (l : List UInt8) : List UInt8 := if bodyE P n a = 0 then encL P a p q l else []
theorem bodyL_len {P a : Int} {n : Nat} {p q : Bool} {l : List UInt8} (hl : l.length = n) (he : bodyE P n a = 0) : (bodyL P p q l).length ≤ 16390 := by
  have h1 := hdL_le P p q
  have h2 := (bodyE_ok he).2.1
  unfold bodyL sumd
  rw [List.length_append, List.length_append, low16_length]
  omega
theorem encX_len (P : Int) (n : Nat) (a : Int) (p q : Bool) (l : List UInt8) (hl : l.length = n) : (encX P n a p q l).length ≤ 40000 := by
  unfold encX
  by_cases he : bodyE P n a = 0
  · rw [if_pos he]
    have h1 := bodyL_len (p := p) (q := q) hl he
    have h2 := escL_le (accmOf P a) (bodyL P p q l)
    unfold encL
    rw [List.length_append, List.length_append]
    simp only [List.length_singleton]
    omega
  · rw [if_neg he]; simp
theorem Own.asSlice {w : World} {base : Nat} {v : Value} {l : List UInt8} (h : Own w base v l) : ∃ A n c, v = .slice A n c := by
  rcases h.form with ⟨e, _⟩ | ⟨g, cap, e, _⟩
  · exact ⟨_, _, _, e⟩
  · exact ⟨_, _, _, e⟩
/-- an answer of bytes of the call's own and a number -/
def AnsB (w : World) (E : Int) (L : List UInt8) (e : Ending) (w' : World) : Prop := ∃ A n c, e = .returned (.tuple #[.slice A n c, .int .i64 E]) ∧ Own w' w.heap.size (.slice A n c) L ∧ Below w.heap.size w w'
theorem encode_un (P : Int) (A : Option Addr) (n c B : Nat) (l : List UInt8) (a : Int) (p q : Bool) (w : World) (hr : Rd w B A n l) (hB : B ≤ w.heap.size) (hnil : A = none → c = 0) (hnc : n ≤ c) (hT : Tab16 w) :
    Calls Tryd.prog 11 #[.agg #[.int .i64 P, .slice A n c], .agg #[.int .i64 a, .bool p, .bool q]] w (AnsB w (bodyE P n a) (encX P n a p q l)) := by
  unfold encX
  by_cases he : bodyE P n a = 0
  · rw [if_pos he]
    refine (encode_ok P A n c B l a p q w hr hB hnil hnc he hT).mono ?_
    rintro e w' ⟨v, rfl, o, b⟩
    obtain ⟨A2, n2, c2, rfl⟩ := o.asSlice
    exact ⟨A2, n2, c2, by rw [he], o, b⟩
  · rw [if_neg he]
    refine (encode_bad P A n c a p q w he).mono ?_
    rintro e w' ⟨rfl, b⟩
    exact ⟨none, 0, 0, rfl, Own.nil _ _, b⟩
theorem hdcount_any (x : Int) (m : Nat) (w : World) (hx : -9223372036854775808 ≤ x ∧ x ≤ 9223372036854775807) (h0 : 0 < m) (hm : m ≤ 4611686018427387904) :
    Calls Tryd.prog 32 #[.int .i64 x, .int .i64 (m : Int)] w fun e w' => (∃ j : Nat, e = .returned (.int .i64 (j : Int)) ∧ j < m) ∧ w = w' := by
  have h1 : -(m : Int) < x.tmod m := Int.lt_tmod_of_pos x (by omega)
  have h2 : x.tmod m < m := Int.tmod_lt_of_pos x (by omega)
  obtain ⟨r, hr⟩ : ∃ r, x.tmod m = r := ⟨_, rfl⟩
  rw [hr] at h1 h2
  have hb1 := hx.1
  have hb2 := hx.2
  by_cases hn : r < 0
  · obtain ⟨j, hj⟩ := Int.eq_ofNat_of_zero_le (show 0 ≤ r + m by omega)
    have HJ := Lib.hid hj
    clear hj
    go_enter Tryd.func32, Tryd.ntmps32
    go_wp2
    go_ret
    exact ⟨⟨j, by rw [← HJ.out]; rfl, by have := HJ.out; omega⟩, rfl⟩
  · obtain ⟨j, hj⟩ := Int.eq_ofNat_of_zero_le (show 0 ≤ r by omega)
    have HJ := Lib.hid hj
    clear hj
    go_enter Tryd.func32, Tryd.ntmps32
    go_wp2
    go_ret
    exact ⟨⟨j, by rw [← HJ.out]; rfl, by have := HJ.out; omega⟩, rfl⟩
end Go.Proofs.YtmdlpbgelgeiaaaDoor
