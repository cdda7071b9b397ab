/-
  tetherlaw01.OctetNumbers is true, whatever it is asked, and writes nothing that was there.
-/
import Derived.Test.YtamcoppfjmggcaaSpec
import Derived.Test.YtamcoppfjmggcaaKnown
namespace Go.Proofs.Ytamcoppfjmggcaa
open Go.RowKit
set_option maxRecDepth 100000
set_option linter.unusedSimpArgs false
set_option linter.unusedVariables false

theorem numbers_walk (A : Option Addr) (n c : Nat) (l : List UInt8) (x s p : Int) (w : World) (hr : Rd w w.heap.size A n l) (hnil : A = none → c = 0) (hc : n ≤ c) (hn : c ≤ 140737488351232) (hx0 : 0 ≤ x) (hx1 : x < 18446744073709551616) :
    Calls Try.prog 3 #[.slice A n c, .int .u64 x, .int .i64 s, .int .i64 p] w fun e w' => e = .returned (.bool true) ∧ Below w.heap.size w w' := by
  have hl := hr.1
  have L := Lib.hid (lent_any A n c l w hr hnil (by omega))
  have X0 := Lib.hid hx0
  have X1 := Lib.hid hx1
  have HR := Lib.hid hr
  have HL := Lib.hid hl
  clear hr hl hx0 hx1
  go_enter Try.func3, Try.ntmps3
  go_wp2_with fail
  refine (L.out).mono ?_
  rintro e w1 ⟨g, cap, rfl, ho, hB⟩
  have hlen : n + 1 = (l ++ [77]).length := by rw [List.length_append, HL.out]; rfl
  have hrd := ho.rd hlen n (by omega)
  rw [List.take_append_of_le_length (by have := HL.out; omega), List.take_of_length_le (by have := HL.out; omega)] at hrd
  have hcap : n + 1 ≤ cap ∧ w.heap.size ≤ g ∧ g < w1.heap.size := by
    rcases ho.form with ⟨e, _⟩ | ⟨g', cap', e, h1, h2, h3⟩
    · cases e
    · injection e with e1 e2 e3
      injection e1 with e1
      injection e1 with e1
      omega
  obtain ⟨hcap, hg1, hg2⟩ := hcap
  have P1 := Lib.hid (put_all (some ⟨g, 0, none⟩) n cap x s l w1 hrd X0.out X1.out (by omega))
  have O1 := Lib.hid ho
  have B1 := Lib.hid hB
  clear ho hB hrd hlen
  go_wp2_with fail
  refine (P1.out).mono ?_
  rintro e w2 ⟨v, rfl, ho, hB⟩
  have hs1 := B1.out.size
  have hs2 := hB.size
  have B2 := Lib.hid (B1.out.trans (hB.mono hs1))
  have R2 := Lib.hid (HR.out.below B2.out)
  have O2 := Lib.hid (O1.out.later hB)
  have P2 := Lib.hid (refput_all A n c x s l w2 (R2.out.wide (by omega)) hnil X0.out X1.out (by omega))
  have V2 := Lib.hid ho
  clear ho hB
  go_wp2_with fail
  refine (P2.out).mono ?_
  rintro e w3 ⟨u, rfl, ho, hB⟩
  have hs3 := hB.size
  have B3 := Lib.hid (B2.out.trans (hB.mono (by omega)))
  have R3 := Lib.hid (R2.out.later (by omega) hB)
  have O3 := Lib.hid (O2.out.later hB)
  have V3 := Lib.hid (V2.out.later hB)
  have hle : (putList l x s).length ≤ 140737488351240 := by
    have := HL.out
    unfold putList
    split
    · rename_i h
      rw [List.length_append, putB_length]
      have := h.1
      omega
    · simp
  have P3 := Lib.hid (same_own v u w1.heap.size w2.heap.size (putList l x s) w3 V3.out ho (by omega))
  clear ho hB
  have hee : (putErr x s != putErr x s) = false := by simp
  go_wp2_with fail
  refine (P3.out).mono ?_
  rintro e w4 ⟨rfl, k, rfl⟩
  have P4 := Lib.hid (spoil_own v w1.heap.size (putList l x s) (w3.drewN k) (V3.out.drewN k) (show w1.heap.size ≤ w3.heap.size by omega) hle)
  go_wp2_with fail
  refine (P4.out).mono ?_
  rintro e w5 ⟨rfl, hG⟩
  have hs5 : w3.heap.size ≤ w5.heap.size := hG.size
  have hvb : ∀ q, v.ownBlock = some q → w1.heap.size ≤ q := fun q hq => (V3.out.block q hq).1
  have B5 := Lib.hid ((below_drewN B3.out k).grown hG (show w.heap.size ≤ w3.heap.size by omega) (fun q hq => by have := hvb q hq; omega))
  have R5 := Lib.hid ((R3.out.drewN k).grown hG (show w.heap.size ≤ w3.heap.size by omega) (fun q hq => by have := hvb q hq; omega))
  have O5 := Lib.hid ((O3.out.drewN k).grown hG (.inr (by
    intro e
    have := hvb g e.symm
    omega)))
  have hlen : n + 1 = (l ++ [77]).length := by rw [List.length_append, HL.out]; rfl
  have hrd := O5.out.rd hlen n (by omega)
  rw [List.take_append_of_le_length (by have := HL.out; omega), List.take_of_length_le (by have := HL.out; omega)] at hrd
  have P5 := Lib.hid (get_all (some ⟨g, 0, none⟩) n cap p s l w5 w5.heap.size hrd (by omega) (by omega))
  have P6 := Lib.hid (refget_all A n c p s l w5 w.heap.size R5.out (by omega))
  have P7 := Lib.hid (kept_any A g n c cap w.heap.size w.heap.size l w5 O5.out R5.out (by omega))
  have hgg : (getVal l p s == getVal l p s) = true := by simp
  have hge : (getErr l p s == getErr l p s) = true := by simp
  clear hG hlen hrd hvb hs1 hs2 hs3 hle hee
  go_wp2_with fail
  refine (P5.out).mono ?_
  rintro e w6 ⟨rfl, rfl⟩
  go_wp2_with fail
  refine (P6.out).mono ?_
  rintro e w6 ⟨rfl, rfl⟩
  go_wp2_with fail
  refine (P7.out).mono ?_
  rintro e w6 ⟨rfl, q, rfl⟩
  go_wp2_with fail
  refine (known_yes _).mono ?_
  rintro e w7 ⟨rfl, hB7⟩
  have B7 := Lib.hid ((below_drewN B5.out q).trans (hB7.mono (show w.heap.size ≤ w5.heap.size from B5.out.size)))
  clear hB7
  go_wp2
  go_ret
  exact ⟨rfl, B7.out⟩
end Go.Proofs.Ytamcoppfjmggcaa
