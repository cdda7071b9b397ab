/-
  The law AutoTable: the walk.
-/
import Derived.Test.YtpkmddagcfjadaaDoorAuWhole
import Derived.Test.YtpkmddagcfjadaaDoorAuNames
namespace Go.Proofs.YtpkmddagcfjadaaDoor
open Go.RowKit
set_option maxRecDepth 100000
set_option maxHeartbeats 2000000
set_option linter.unusedSimpArgs false
set_option linter.unusedVariables false

/-- a slice that is being written over -/
def SpoilJ (W wr : World) (v : Value) (n : Nat) : Prop := W.grownBy wr v.ownBlock ∧ (0 < n → ∃ g c cs, v = .slice (some ⟨g, 0, none⟩) n c ∧ Blk wr g 3 cs ∧ n ≤ cs.length ∧ ∀ j, j < n → ∃ z, cs[j]? = some (.int .i64 z))
theorem spoil_start {w W : World} {base n c : Nat} {A : Option Addr} {l : List Int} (h : OwnI w base (.slice A n c) l) (hb : Below w.heap.size w W) : SpoilJ W W (.slice A n c) n := by
  refine ⟨World.grownBy.refl _ _, fun hn => ?_⟩
  rcases (h.later hb).2 with ⟨e, h0⟩ | ⟨g, cap, cur, e, hbg, hg, hc, hm, hs, ht⟩
  · injection e with e1 e2
    omega
  · injection e with e1 e2 e3
    subst e1; subst e2; subst e3
    refine ⟨g, _, cur.toList, rfl, by unfold Blk; rw [hg], by simp; omega, fun j hj => ⟨numAt l j, ?_⟩⟩
    have := congrArg (·[j]?) ht
    simp only [List.getElem?_take_of_lt (show j < l.length * 1 by omega), List.getElem?_map, numAt_some hj] at this
    exact this
theorem spoil_step {W wr : World} {g n c j : Nat} (h : SpoilJ W wr (.slice (some ⟨g, 0, none⟩) n c) n) (hj : j < n) (z : Int) : SpoilJ W (wr.setCell ⟨g, j, none⟩ (.int .i64 z)) (.slice (some ⟨g, 0, none⟩) n c) n := by
  refine ⟨?_, fun hn => ?_⟩
  · have h1 := h.1
    have e : (Value.slice (some ⟨g, 0, none⟩) n c).ownBlock = some g := rfl
    rw [e] at h1 ⊢
    exact grown_set h1 j _
  · obtain ⟨g', c', cs, e, hb, hl, hc⟩ := h.2 hn
    injection e with e1 e2 e3
    injection e1 with e1
    injection e1 with e1
    subst e1; subst e3
    refine ⟨g, _, _, rfl, hb.set_ j _, by rw [List.length_set]; exact hl, fun i hi => ?_⟩
    by_cases hij : j = i
    · subst hij
      exact ⟨z, by rw [List.getElem?_set_self (by omega)]⟩
    · obtain ⟨y, hy⟩ := hc i hi
      exact ⟨y, by rw [List.getElem?_set_ne hij, hy]⟩
theorem spoil_cell {W wr : World} {A : Option Addr} {n c j : Nat} (h : SpoilJ W wr (.slice A n c) n) (hj : j < n) : ∃ g, A = some ⟨g, 0, none⟩ ∧ (∃ z, wr.cell? ⟨g, j, none⟩ = some (.int .i64 z)) ∧ wr.frozen? ⟨g, j, none⟩ = false := by
  obtain ⟨g', c', cs, e, hb, hl, hc⟩ := h.2 (by omega)
  injection e with e1 e2 e3
  obtain ⟨z, hz⟩ := hc j hj
  exact ⟨g', e1, ⟨z, (hb.cell j).trans hz⟩, hb.frozen j⟩
theorem autotable_walk (s x : Int) (w : World) (hT : TabA w) (hN : TabN w) (hV : TabV w) :
    Calls Tryd.prog 3 #[.int .i64 s, .int .i64 x] w fun e w' => e = .returned (.bool true) ∧ Below w.heap.size w w' := by
  have hgt := hT.lt
  have hne : ∀ z : Int, (z != z) = false := by simp
  have hnb : ∀ b : Bool, (b != b) = false := by simp
  have hnl : ∀ b : List UInt8, (b != b) = false := by simp
  obtain ⟨N1, hN1⟩ : ∃ N : ByteArray, (⟨(nameS s).toArray⟩ : ByteArray) = N := ⟨_, rfl⟩
  obtain ⟨N2, hN2⟩ : ∃ N : ByteArray, (⟨(nameV x).toArray⟩ : ByteArray) = N := ⟨_, rfl⟩
  obtain ⟨bR, hbR⟩ : ∃ b, runsB s = b := ⟨_, rfl⟩
  obtain ⟨ns, hns⟩ : ∃ z, nxS s x = z := ⟨_, rfl⟩
  obtain ⟨ne, hne2⟩ : ∃ z, nxE s x = z := ⟨_, rfl⟩
  have K1 : Hid (∀ W, Below w.heap.size w W → Calls Tryd.prog 12 #[.int .i64 s, .int .i64 x] W fun r w' => ∃ A m c, r = .returned (.tuple #[.int .i64 ns, .slice A m c, .int .i64 ne]) ∧ OwnI w' W.heap.size (.slice A m c) (nxA s x) ∧ Below W.heap.size W w') := by
    show ∀ W, _ → _
    intro W hW
    refine (next_any s x W (hT.keptB hW hgt)).mono ?_
    rintro e w2 ⟨v2, rfl, o2, b2⟩
    obtain ⟨A2, m2, c2, rfl⟩ := ownI_shape o2
    exact ⟨_, _, _, by rw [hns, hne2], o2, b2⟩
  have K2 : Hid (∀ W, Calls Tryd.prog 13 #[.int .i64 s, .int .i64 x] W fun r w' => ∃ A m c, r = .returned (.tuple #[.int .i64 ns, .slice A m c, .int .i64 ne]) ∧ OwnI w' W.heap.size (.slice A m c) (nxA s x) ∧ Below W.heap.size W w') := by
    show ∀ W, _
    intro W
    refine (rnext_any s x W).mono ?_
    rintro e w2 ⟨v2, rfl, o2, b2⟩
    obtain ⟨A2, m2, c2, rfl⟩ := ownI_shape o2
    exact ⟨_, _, _, by rw [hns, hne2], o2, b2⟩
  have K3 : Hid (∀ W, Below w.heap.size w W → Calls Tryd.prog 15 #[.int .i64 s] W fun r w' => r = .returned (.string N1) ∧ W = w') := by
    show ∀ W, _ → _
    intro W hW
    rw [← hN1]
    exact stateName_any s W (hN.keptB hW hN.lt)
  have K4 : Hid (∀ W, Calls Tryd.prog 16 #[.int .i64 s] W fun r w' => r = .returned (.string N1) ∧ Below W.heap.size W w') := by
    show ∀ W, _
    intro W
    rw [← hN1]
    exact rstateName_any s W
  have K5 : Hid (∀ W, Below w.heap.size w W → Calls Tryd.prog 17 #[.int .i64 x] W fun r w' => r = .returned (.string N2) ∧ W = w') := by
    show ∀ W, _ → _
    intro W hW
    rw [← hN2]
    exact eventName_any x W (hV.keptB hW hV.lt)
  have K6 : Hid (∀ W, Calls Tryd.prog 18 #[.int .i64 x] W fun r w' => r = .returned (.string N2) ∧ Below W.heap.size W w') := by
    show ∀ W, _
    intro W
    rw [← hN2]
    exact reventName_any x W
  have K7 : Hid (∀ W, Calls Tryd.prog 19 #[.int .i64 s] W fun r w' => r = .returned (.bool bR) ∧ W = w') := by
    show ∀ W, _
    intro W
    rw [← hbR]
    exact runs_any s W
  have K8 : Hid (∀ W, Calls Tryd.prog 20 #[.int .i64 s] W fun r w' => r = .returned (.bool bR) ∧ W = w') := by
    show ∀ W, _
    intro W
    rw [← hbR]
    exact rruns_any s W
  have K9 : Hid (∀ W, Below w.heap.size w W → Calls Tryd.prog 21 #[] W fun e w' => e = .returned (.bool true) ∧ Below w.heap.size w w') := by
    show ∀ W, _ → _
    intro W hW
    refine (awake_any W (hT.keptB hW hT.lt) (hN.keptB hW hN.lt)).mono ?_
    rintro e w7 ⟨rfl, b7⟩
    exact ⟨rfl, hW.trans (b7.mono hW.size)⟩
  have hlen := nxA_length s x
  obtain ⟨l, hl⟩ : ∃ l, nxA s x = l := ⟨_, rfl⟩
  rw [hl] at K1 K2 hlen
  clear hT hN hV hN1 hN2 hbR hns hne2 hl hgt
  go_enter Tryd.func3, Tryd.ntmps3
  go_wp2_with (first
    | (go_at_call 12; ((with_reducible refine (K1.out _ (Below.refl _ _)).mono ?_); rintro e w1 ⟨A1, m1, c1, rfl, o1, b1⟩; have O1 := Lib.hid o1; have B1 := Lib.hid b1; clear o1 b1))
    | (go_at_call 12; ((with_reducible refine (K1.out _ B1.out).mono ?_); rintro e w2 ⟨A2, m2, c2, rfl, o2, b2⟩; have O2 := Lib.hid o2; have B2 := Lib.hid (B1.out.trans (b2.mono B1.out.size)); have B12 := Lib.hid b2; clear o2 b2))
    | (go_at_call 13; ((with_reducible refine (K2.out _).mono ?_); rintro e w3 ⟨A3, m3, c3, rfl, o3, b3⟩; have O3 := Lib.hid o3; have B3 := Lib.hid (B2.out.trans (b3.mono B2.out.size)); have B23 := Lib.hid b3; clear o3 b3))
    | (go_at_call 14; ((with_reducible refine (numbers_two O1.out O3.out (B12.out.trans (B23.out.mono B12.out.size)) (by omega)).mono ?_); rintro e w4 ⟨rfl, k4, rfl⟩))
    | (go_at_call 15; ((with_reducible refine (K3.out _ (below_drewN B3.out _)).mono ?_); rintro e w5 ⟨rfl, rfl⟩))
    | (go_at_call 16; ((with_reducible refine (K4.out _).mono ?_); rintro e w6 ⟨rfl, b6⟩; have B6 := Lib.hid b6; clear b6))
    | (go_at_call 17; ((with_reducible refine (K5.out _ ((below_drewN B3.out _).trans (B6.out.mono (below_drewN B3.out _).size))).mono ?_); rintro e w7 ⟨rfl, rfl⟩))
    | (go_at_call 18; ((with_reducible refine (K6.out _).mono ?_); rintro e w8 ⟨rfl, b8⟩; have B8 := Lib.hid b8; clear b8))
    | (go_at_call 19; ((with_reducible refine (K7.out _).mono ?_); rintro e w9 ⟨rfl, rfl⟩))
    | (go_at_call 20; ((with_reducible refine (K8.out _).mono ?_); rintro e w9 ⟨rfl, rfl⟩)))
  have b38 := (below_drewN (Below.refl w3.heap.size w3) k4).trans (B6.out.trans (B8.out.mono B6.out.size))
  have SP := Lib.hid (spoil_start O1.out ((B12.out.trans (B23.out.mono B12.out.size)).trans (b38.mono (Nat.le_trans B12.out.size B23.out.size))))
  have P2 := Lib.hid (O2.out.later (B23.out.trans (b38.mono B23.out.size)))
  have P3 := Lib.hid (O3.out.later b38)
  have PB := Lib.hid (B3.out.trans (b38.mono B3.out.size))
  have F1 := Lib.hid O1.out.form.2
  have M1 : Hid (m1 = l.length) := O1.out.rd.1.1.symm
  have hm1 : m1 ≤ 3 := by have := M1.out; omega
  have Z12 := B12.out.size
  have Z23 := B23.out.size
  have Z1 := B1.out.size
  clear b38 O1 O2 O3 B12 B23 B6 B8 B1 B2 B3 K1 K2 K3 K4 K5 K6 K7 K8
  rename World => W8
  go_loopw [73] (fun i wr => ∃ k : Nat, k ≤ m1 ∧ i = .int .i64 k ∧ SpoilJ W8 wr (.slice A1 m1 c1) m1) (fun i _ => m1 - (intOf i).toNat)
  case atStart => exact ⟨0, Nat.zero_le _, rfl, SP.out⟩
  case round =>
    rename_i wr
    obtain ⟨k, hk, rfl, hj⟩ := hrel
    by_cases hlt : k < m1
    · obtain ⟨g, rfl, ⟨z, hz⟩, hf⟩ := spoil_cell hj hlt
      have NX := Lib.hid (spoil_step hj hlt 99)
      clear hj SP
      go_wp2
      go_roundw
      case rel => exact ⟨k + 1, by omega, by go_num, NX.out⟩
      case measure => simp [intOf]; omega
    · have hfar : ∀ q, (Value.slice A1 m1 c1).ownBlock = some q → w.heap.size ≤ q := fun q e => (F1.out q e).1
      have q2 := P2.out.grown hj.1 (by
        rcases h : (Value.slice A2 m2 c2).ownBlock with _ | q
        · exact .inl rfl
        · have h2 := P2.out.form.2 q h
          exact .inr (fun e => by have := (F1.out q e.symm).2; omega))
      have q3 := P3.out.grown hj.1 (by
        rcases h : (Value.slice A3 m3 c3).ownBlock with _ | q
        · exact .inl rfl
        · have h2 := P3.out.form.2 q h
          exact .inr (fun e => by have := (F1.out q e.symm).2; omega))
      have hB := PB.out.grown hj.1 PB.out.size hfar
      have NN := Lib.hid (numbers_two q2 q3 (Below.refl _ _) (by omega))
      have HB := Lib.hid hB
      clear hj q2 q3 hB hfar SP P2 P3
      go_wp2_with (first
        | (go_at_call 14; ((with_reducible refine NN.out.mono ?_); rintro e w4 ⟨rfl, k5, rfl⟩))
        | (go_at_call 21; ((with_reducible refine (K9.out _ (below_drewN HB.out _)).mono ?_); rintro e w7 ⟨rfl, b7⟩; have B7 := Lib.hid b7; clear b7)))
      go_ret
      exact ⟨rfl, B7.out⟩
end Go.Proofs.YtpkmddagcfjadaaDoor
