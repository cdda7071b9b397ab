/-
  tetherlaw04.Md5Sums: the walk.
-/
import Derived.Test.YtpdmopfnllfomaaDoorMdEq
import Derived.Test.YtpdmopfnllfomaaDoorMdRefSum
namespace Go.Proofs.YtpdmopfnllfomaaDoor
open Go.RowKit Go.Shelf
set_option maxRecDepth 100000
set_option maxHeartbeats 1000000
set_option linter.unusedSimpArgs false
set_option linter.unusedVariables false

theorem md5sums_walk (A : Option Addr) (n c B : Nat) (l : List UInt8) (w : World) (hr : Rd w B A n l) (hB : B ≤ w.heap.size) (hnil : A = none → c = 0) (hm : n ≤ 140737488351240) (hK : TabK w) (hS : TabS w) :
    Calls Tryd.prog 3 #[.slice A n c] w fun e w' => e = .returned (.bool true) ∧ Below w.heap.size w w' := by
  obtain ⟨V, hV0⟩ : ∃ V, V = mdOver (mdPad l) ((mdPad l).length / 64) := ⟨_, rfl⟩
  have hV := Lib.hid hV0
  clear hV0
  have LA := Lib.hid (lent2_any A n c B l w hr hnil hm)
  have HR := Lib.hid hr
  have HK := Lib.hid hK
  have HS := Lib.hid hS
  have HL : Hid (l.length = n) := hr.1
  clear hr hK hS
  go_enter Tryd.func3, Tryd.ntmps3
  go_wp2_with fail
  refine LA.out.mono ?_
  rintro e w1 ⟨g, cap, rfl, hcap, ho, hb1⟩
  have hs1 := hb1.size
  have hrd := ho.rd (by simp [HL.out]) n (by omega)
  rw [List.take_append_of_le_length (by rw [HL.out]; exact Nat.le_refl _), List.take_of_length_le (by rw [HL.out]; exact Nat.le_refl _)] at hrd
  have SA := Lib.hid (sum_any (some ⟨g, 0, none⟩) n cap w1.heap.size l w1 hrd (Nat.le_refl _) (by omega) (fun h => nomatch h) hm (HK.out.kept hb1) (HS.out.kept hb1))
  rw [← hV.out] at SA
  have HO := Lib.hid ho
  have B1 := Lib.hid hb1
  clear ho hb1 hrd
  go_wp2_with fail
  refine SA.out.mono ?_
  rintro e w2 ⟨rfl, hb2⟩
  have hs2 := hb2.size
  have B2 := Lib.hid (B1.out.trans (hb2.mono hs1))
  have HO2 := Lib.hid (HO.out.later hb2)
  have RA := Lib.hid (rsum_any A n c B l w2 (HR.out.later hB B2.out) (by omega) hnil hm)
  rw [← hV.out] at RA
  clear hb2
  go_wp2_with fail
  refine RA.out.mono ?_
  rintro e w3 ⟨rfl, hb3⟩
  have hs3 := hb3.size
  have B3 := Lib.hid (B2.out.trans (hb3.mono (by omega)))
  have KA := Lib.hid (kept2_any A g n c cap w.heap.size B l w3 (HO2.out.later hb3) (HR.out.later hB B3.out) hm)
  have AW := Lib.hid (awake_yes w3 (HK.out.kept B3.out) (HS.out.kept B3.out))
  have EQ := fun W => eq16_same V W
  clear hb3
  go_wp2_with fail
  refine KA.out.mono ?_
  rintro e w4 ⟨rfl, rfl⟩
  go_wp2_with fail
  refine AW.out.mono ?_
  rintro e w5 ⟨rfl, hb5⟩
  have B5 := Lib.hid (B3.out.trans (hb5.mono (by omega)))
  clear hb5
  go_wp2
  go_ret
  exact ⟨rfl, B5.out⟩
end Go.Proofs.YtpdmopfnllfomaaDoor
