/-
  PapMeet: the law's walk.
-/
import Derived.Test.YtglboagjmbjehaaPaMeetM
import Derived.Test.YtglboagjmbjehaaSeRFault
import Derived.Outline
namespace Go.Proofs.Ytglboagjmbjehaa
open Go.RowKit Go.Shelf
set_option maxRecDepth 100000
set_option maxHeartbeats 4000000
set_option linter.unusedSimpArgs false
set_option linter.unusedVariables false

/-- how many are lost -/
theorem lost_nat (z : Int) : ∃ L : Nat, L ≤ 8 ∧ (z.tmod 9 + 9).tmod 9 = (L : Int) := by
  have h1 : -9 < z.tmod 9 := by
    have := Int.lt_tmod_of_pos z (b := 9) (by omega)
    omega
  have h2 := Int.tmod_lt_of_pos z (b := 9) (by omega)
  have h3 : (z.tmod 9 + 9).tmod 9 = (z.tmod 9 + 9) % 9 := Int.tmod_eq_emod_of_nonneg (by omega)
  rw [h3]
  exact ⟨((z.tmod 9 + 9) % 9).toNat, by omega, by omega⟩
/-- the beginning: what can't be -/
theorem meet_no {name word server : ByteArray} {A : Option Addr} {n c B : Nat} {ss : List Sec} {w : World} (hn : name.size ≤ maxLen) (hw : word.size ≤ maxLen) (hs : server.size ≤ maxLen) (h : SecRd w B A n ss) (hB : B ≤ w.heap.size) (hno : ¬ (nprE name word 10 = 0 ∧ nameB server = true ∧ (chk ss).1 = 0)) :
    Calls Try.prog 6 #[.string server, .slice A n c] w fun e W1 => ∃ (p : Option Addr) (e1 i : Int), e = .returned (.tuple #[.pointer p, .int .i64 e1, .int .i64 i]) ∧
      Calls Try.prog 19 #[.string name, .string word, .int .i64 10] W1 fun e W2 => ∃ (q : Option Addr) (e2 : Int), e = .returned (.tuple #[.pointer q, .int .i64 e2]) ∧ Below w.heap.size w W2 ∧ ((e1 != 0) = true ∨ ((e1 != 0) = false ∧ (e2 != 0) = true)) := by
  refine (newServer_any server A n c B ss w hs h hB).mono ?_
  rintro e W1 ⟨b1, h1⟩
  have key : ∀ {p : Option Addr} {e1 i : Int}, e = .returned (.tuple #[.pointer p, .int .i64 e1, .int .i64 i]) → ((e1 != 0) = true ∨ ((e1 != 0) = false ∧ nprE name word 10 ≠ 0)) → ∃ (p : Option Addr) (e1 i : Int), e = .returned (.tuple #[.pointer p, .int .i64 e1, .int .i64 i]) ∧
      Calls Try.prog 19 #[.string name, .string word, .int .i64 10] W1 fun e W2 => ∃ (q : Option Addr) (e2 : Int), e = .returned (.tuple #[.pointer q, .int .i64 e2]) ∧ Below w.heap.size w W2 ∧ ((e1 != 0) = true ∨ ((e1 != 0) = false ∧ (e2 != 0) = true)) := by
    intro p e1 i he hor
    refine ⟨p, e1, i, he, (pnewPeer_any name word 10 W1 hn hw).mono ?_⟩
    rintro e W2 ⟨b2, h2⟩
    rcases h2 with ⟨h3, rfl⟩ | ⟨h3, g, hg, rfl, hb⟩
    · exact ⟨_, _, rfl, step_to b1 b2, hor.imp id fun h => ⟨h.1, by simpa using h3⟩⟩
    · exact ⟨_, _, rfl, step_to b1 b2, hor.imp id fun h => absurd h3 h.2⟩
  rcases h1 with ⟨h2, rfl⟩ | ⟨h2, h3, rfl⟩ | ⟨h2, h3, g, tb, -, -, rfl, -⟩
  · exact key rfl (.inl (by decide))
  · exact key rfl (.inl (by simpa using h3))
  · exact key rfl (.inr ⟨by decide, fun h4 => hno ⟨h4, h2, h3⟩⟩)
theorem meet_yes {name word server : ByteArray} {A : Option Addr} {n c B : Nat} {ss : List Sec} {w : World} {r : Bool} (hn : name.size ≤ maxLen) (hw : word.size ≤ maxLen) (hs : server.size ≤ maxLen) (h : SecRd w B A n ss) (hB : B ≤ w.heap.size) (y1 : nprE name word 10 = 0) (y2 : nameB server = true) (y3 : (chk ss).1 = 0) (hr : judgeB server ss name word = r) :
    Calls Try.prog 6 #[.string server, .slice A n c] w fun e W1 => ∃ g tb, e = .returned (.tuple #[.pointer (some ⟨g, 0, none⟩), .int .i64 0, .int .i64 0]) ∧
      Calls Try.prog 19 #[.string name, .string word, .int .i64 10] W1 fun e W2 => ∃ gp, e = .returned (.tuple #[.pointer (some ⟨gp, 0, none⟩), .int .i64 0]) ∧
        Calls Try.prog 29 #[.slice A n c, .string name, .string server, .string word] W2 fun e W3 => ∃ z : Int, e = .returned (.int .i64 z) ∧ (z == 0) = r ∧ MeetJ w W3 g tb gp server ss name word r 0 none := by
  have n1 : nameB name = true := by
    unfold nprE at y1
    cases h : nameB name
    · rw [h] at y1; simp at y1
    · rfl
  have n2 : nameB word = true := by
    unfold nprE at y1
    cases h : nameB word
    · rw [n1, h] at y1; simp at y1
    · rfl
  have z1 : name.size ≤ 64 := by simp [nameB] at n1; exact n1.2.1
  have z2 : word.size ≤ 64 := by simp [nameB] at n2; exact n2.2.1
  refine (newServer_any server A n c B ss w hs h hB).mono ?_
  rintro e W1 ⟨b1, h1⟩
  rcases h1 with ⟨h2, -⟩ | ⟨-, h3, -⟩ | ⟨h2, h3, g, tb, hg, hgt, rfl, hsv⟩
  · rw [y2] at h2; cases h2
  · exact absurd y3 h3
  refine ⟨g, tb, rfl, (pnewPeer_any name word 10 W1 hn hw).mono ?_⟩
  rintro e W2 ⟨b2, h4⟩
  rcases h4 with ⟨h5, -⟩ | ⟨-, gp, hgp, rfl, hb⟩
  · exact absurd y1 h5
  refine ⟨gp, rfl, (rcheck_any A n c B ss name server word W2 (h.below (step_to b1 b2) hB) (by have := b1.size; have := b2.size; omega)).mono ?_⟩
  rintro e W3 ⟨rfl, b3⟩
  have hgl := Blk.lt hsv.blk
  refine ⟨_, rfl, ?_, ⟨step_to (step_to b1 b2) b3, ⟨hg, hgt, by omega⟩, ?_, (b3.block _ (Blk.lt hb)).trans hb, .inl rfl, hr, z1, z2, hs⟩⟩
  · rw [← hr]
    unfold judgeB
    rw [n1]
    simp [Bool.beq_eq_decide_eq]
  · exact (hsv.later b2).later b3
def MeetL (w W : World) (g tb gp : Nat) (server : ByteArray) (ss : List Sec) (name word : ByteArray) (r : Bool) (L k : Nat) : Prop :=
  (k ≤ L ∧ ∃ v, MeetJ w W g tb gp server ss name word r k v) ∨ (k = L + 1 ∧ EndJ w W g tb server ss name r)
theorem papmeet_walk (name word server : ByteArray) (A : Option Addr) (n c : Nat) (ss : List Sec) (lost : Int) (w : World) (hn : name.size ≤ maxLen) (hw : word.size ≤ maxLen) (hs : server.size ≤ maxLen) (h : SecRd w w.heap.size A n ss) (hl : -9223372036854775808 ≤ lost ∧ lost ≤ 9223372036854775807) :
    Calls Try.prog 5 #[.string name, .string word, .string server, .slice A n c, .int .i64 lost] w fun e w' => e = .returned (.bool true) ∧ Below w.heap.size w w' := by
  by_cases hy : nprE name word 10 = 0 ∧ nameB server = true ∧ (chk ss).1 = 0
  · obtain ⟨r, hr⟩ : ∃ r, judgeB server ss name word = r := ⟨_, rfl⟩
    have NC := Lib.hid (meet_yes (c := c) hn hw hs h (Nat.le_refl _) hy.1 hy.2.1 hy.2.2 hr)
    clear hy hr h hn hw hs
    obtain ⟨hl1, hl2⟩ := hl
    go_enter Try.func5, Try.ntmps5
    go_wp2_with (first
      | (go_at_call 6; ((with_reducible refine NC.out.mono ?_); rintro e W1 ⟨g, tb, rfl, n1⟩; have N1 := Lib.hid n1; clear n1 NC))
      | (go_at_call 19; ((with_reducible refine N1.out.mono ?_); rintro e W2 ⟨gp, rfl, n1⟩; have N2 := Lib.hid n1; clear n1 N1))
      | (go_at_call 29; ((with_reducible refine N2.out.mono ?_); rintro e W3 ⟨z, rfl, hz, n1⟩; have HZ := Lib.hid hz; have N3 := Lib.hid n1; clear n1 N2 hz)))
    obtain ⟨L, hL8, hL⟩ := lost_nat lost
    have h1 : -9 < lost.tmod 9 := by
      have := Int.lt_tmod_of_pos lost (b := 9) (by omega)
      omega
    have h2 := Int.tmod_lt_of_pos lost (b := 9) (by omega)
    have hwr : wrap64 (lost.tmod 9 + 9) = lost.tmod 9 + 9 := by
      unfold wrap64
      omega
    rw [hwr, hL, HZ.out]
    clear hwr hL HZ h1 h2 hl1 hl2
    cases r
    · go_loopw [17] (fun i wr => ∃ k : Nat, i = .int .i64 k ∧ Hid (MeetL w wr g tb gp server ss name word false L k)) (fun i _ => L + 1 - (intOf i).toNat)
      case atStart => exact ⟨0, rfl, .inl ⟨Nat.zero_le _, none, N3.out⟩⟩
      case round =>
        rename_i wr
        obtain ⟨k, rfl, hM⟩ := hrel
        clear N3
        rcases hM.out with ⟨hk, v, hJ⟩ | ⟨rfl, hE⟩
        · have SC := msend_any hJ (by omega)
          unfold MSendC TakC LastC at SC
          simp only [reduceIte, Bool.false_eq_true] at SC
          push_cast at SC
          have SC := Lib.hid SC
          clear hJ hM
          by_cases hlt : k < L
          · by_cases hev : (k : Int) % 2 = 0
            · have e2 : ((k : Int) % 2 == 0) = true := by simpa using hev
              clear hev
              go_wp2_with (first
                | (go_at_call 21; ((with_reducible refine SC.out.mono ?_); rintro e W4 ⟨D, kd, dd, rfl, V, hV, hbk, hJ2, n4⟩; have HV := Lib.hid hV; have J2 := Lib.hid hJ2; clear hV hbk hJ2 n4 SC))
                | (rw [HV.out]))
              go_roundw
              case rel => exact ⟨k + 1, by go_num, .inl ⟨by omega, v, J2.out⟩⟩
              case measure => simp [intOf]; omega
            · have e2 : ((k : Int) % 2 == 0) = false := by simpa using hev
              clear hev
              go_wp2_with (first
                | (go_at_call 21; ((with_reducible refine SC.out.mono ?_); rintro e W4 ⟨D, kd, dd, rfl, V, hV, hbk, -, n4⟩; have HV := Lib.hid hV; have N4 := Lib.hid n4; have u0 := hbk.cell 0; have u1 := hbk.cell 1; have u2 := hbk.cell 2; clear hV hbk n4 SC))
                | (rw [HV.out])
                | (go_at_call 13; ((with_reducible refine N4.out.mono ?_); rintro e W5 ⟨D5, k5, d5, rfl, U, hU, hbk, hJ2, n5⟩; have HU := Lib.hid hU; have J2 := Lib.hid hJ2; have N5 := Lib.hid n5; have ST := Lib.hid (meet_state hJ2.sv); clear hU hbk hJ2 n5 N4))
                | (rw [HU.out])
                | (go_at_call 17; ((with_reducible refine ST.out.mono ?_); rintro e w' ⟨rfl, rfl⟩)))
              go_roundw
              case rel => exact ⟨k + 1, by go_num, .inl ⟨by omega, _, J2.out⟩⟩
              case measure => simp [intOf]; omega
          · obtain rfl : k = L := by omega
            go_wp2_with (first
              | (go_at_call 21; ((with_reducible refine SC.out.mono ?_); rintro e W4 ⟨D, kd, dd, rfl, V, hV, hbk, -, n4⟩; have HV := Lib.hid hV; have N4 := Lib.hid n4; have u0 := hbk.cell 0; have u1 := hbk.cell 1; have u2 := hbk.cell 2; clear hV hbk n4 SC))
              | (rw [HV.out])
              | (go_at_call 13; ((with_reducible refine N4.out.mono ?_); rintro e W5 ⟨D5, k5, d5, rfl, U, hU, hbk, hJ2, n5⟩; have HU := Lib.hid hU; have N5 := Lib.hid n5; have u3 := hbk.cell 0; have u4 := hbk.cell 1; have u5 := hbk.cell 2; have ST := Lib.hid (meet_state hJ2.sv); clear hU hbk hJ2 n5 N4))
              | (rw [HU.out])
              | (go_at_call 17; ((with_reducible refine ST.out.mono ?_); rintro e w' ⟨rfl, rfl⟩))
              | (go_at_call 23; ((with_reducible refine N5.out.mono ?_); rintro e W6 ⟨rfl, hps, hE⟩; have PS := Lib.hid hps; have HE := Lib.hid hE; clear hps hE N5))
              | (go_at_call 27; ((with_reducible refine PS.out.mono ?_); rintro e w' ⟨rfl, rfl⟩)))
            go_roundw
            case rel => exact ⟨k + 1, by go_num, .inr ⟨rfl, HE.out⟩⟩
            case measure => simp [intOf] <;> omega
        · have wh := meet_who hE.sv
          obtain ⟨s, hs⟩ : ∃ s, whoR false name = s := ⟨_, rfl⟩
          rw [hs] at wh
          have s0 : s.toList.isEmpty = true := str_nil (by rw [← hs]; rfl)
          have WH := Lib.hid wh
          clear wh hs
          have AW := Lib.hid (awake_yes wr)
          have FB := Lib.hid hE.bel
          clear hE hM
          go_wp2_with (first
            | (go_at_call 18; ((with_reducible refine WH.out.mono ?_); rintro e w' ⟨rfl, rfl⟩))
            | (go_at_call 9; ((with_reducible refine AW.out.mono ?_); rintro e X1 ⟨rfl, n1⟩; have T1 := Lib.hid n1; clear n1)))
          go_ret
          exact ⟨rfl, step_to FB.out T1.out⟩
    · go_loopw [17] (fun i wr => ∃ k : Nat, i = .int .i64 k ∧ Hid (MeetL w wr g tb gp server ss name word true L k)) (fun i _ => L + 1 - (intOf i).toNat)
      case atStart => exact ⟨0, rfl, .inl ⟨Nat.zero_le _, none, N3.out⟩⟩
      case round =>
        rename_i wr
        obtain ⟨k, rfl, hM⟩ := hrel
        clear N3
        rcases hM.out with ⟨hk, v, hJ⟩ | ⟨rfl, hE⟩
        · have SC := msend_any hJ (by omega)
          unfold MSendC TakC LastC at SC
          simp only [reduceIte, Bool.false_eq_true] at SC
          push_cast at SC
          have SC := Lib.hid SC
          clear hJ hM
          by_cases hlt : k < L
          · by_cases hev : (k : Int) % 2 = 0
            · have e2 : ((k : Int) % 2 == 0) = true := by simpa using hev
              clear hev
              go_wp2_with (first
                | (go_at_call 21; ((with_reducible refine SC.out.mono ?_); rintro e W4 ⟨D, kd, dd, rfl, V, hV, hbk, hJ2, n4⟩; have HV := Lib.hid hV; have J2 := Lib.hid hJ2; clear hV hbk hJ2 n4 SC))
                | (rw [HV.out]))
              go_roundw
              case rel => exact ⟨k + 1, by go_num, .inl ⟨by omega, v, J2.out⟩⟩
              case measure => simp [intOf]; omega
            · have e2 : ((k : Int) % 2 == 0) = false := by simpa using hev
              clear hev
              go_wp2_with (first
                | (go_at_call 21; ((with_reducible refine SC.out.mono ?_); rintro e W4 ⟨D, kd, dd, rfl, V, hV, hbk, -, n4⟩; have HV := Lib.hid hV; have N4 := Lib.hid n4; have u0 := hbk.cell 0; have u1 := hbk.cell 1; have u2 := hbk.cell 2; clear hV hbk n4 SC))
                | (rw [HV.out])
                | (go_at_call 13; ((with_reducible refine N4.out.mono ?_); rintro e W5 ⟨D5, k5, d5, rfl, U, hU, hbk, hJ2, n5⟩; have HU := Lib.hid hU; have J2 := Lib.hid hJ2; have N5 := Lib.hid n5; have ST := Lib.hid (meet_state hJ2.sv); clear hU hbk hJ2 n5 N4))
                | (rw [HU.out])
                | (go_at_call 17; ((with_reducible refine ST.out.mono ?_); rintro e w' ⟨rfl, rfl⟩)))
              go_roundw
              case rel => exact ⟨k + 1, by go_num, .inl ⟨by omega, _, J2.out⟩⟩
              case measure => simp [intOf]; omega
          · obtain rfl : k = L := by omega
            go_wp2_with (first
              | (go_at_call 21; ((with_reducible refine SC.out.mono ?_); rintro e W4 ⟨D, kd, dd, rfl, V, hV, hbk, -, n4⟩; have HV := Lib.hid hV; have N4 := Lib.hid n4; have u0 := hbk.cell 0; have u1 := hbk.cell 1; have u2 := hbk.cell 2; clear hV hbk n4 SC))
              | (rw [HV.out])
              | (go_at_call 13; ((with_reducible refine N4.out.mono ?_); rintro e W5 ⟨D5, k5, d5, rfl, U, hU, hbk, hJ2, n5⟩; have HU := Lib.hid hU; have N5 := Lib.hid n5; have u3 := hbk.cell 0; have u4 := hbk.cell 1; have u5 := hbk.cell 2; have ST := Lib.hid (meet_state hJ2.sv); clear hU hbk hJ2 n5 N4))
              | (rw [HU.out])
              | (go_at_call 17; ((with_reducible refine ST.out.mono ?_); rintro e w' ⟨rfl, rfl⟩))
              | (go_at_call 23; ((with_reducible refine N5.out.mono ?_); rintro e W6 ⟨rfl, hps, hE⟩; have PS := Lib.hid hps; have HE := Lib.hid hE; clear hps hE N5))
              | (go_at_call 27; ((with_reducible refine PS.out.mono ?_); rintro e w' ⟨rfl, rfl⟩)))
            go_roundw
            case rel => exact ⟨k + 1, by go_num, .inr ⟨rfl, HE.out⟩⟩
            case measure => simp [intOf] <;> omega
        · have WH := Lib.hid (meet_who hE.sv)
          have AW := Lib.hid (awake_yes wr)
          have FB := Lib.hid hE.bel
          clear hE hM
          go_wp2_with (first
            | (go_at_call 18; ((with_reducible refine WH.out.mono ?_); rintro e w' ⟨rfl, rfl⟩))
            | (go_at_call 9; ((with_reducible refine AW.out.mono ?_); rintro e X1 ⟨rfl, n1⟩; have T1 := Lib.hid n1; clear n1)))
          go_ret
          exact ⟨rfl, step_to FB.out T1.out⟩
  · have NC := Lib.hid (meet_no (c := c) hn hw hs h (Nat.le_refl _) hy)
    clear hy h hn hw hs
    go_enter Try.func5, Try.ntmps5
    go_upto_region 3 with (first
      | (go_at_call 6; ((with_reducible refine NC.out.mono ?_); rintro e W1 ⟨p1, e1, i1, rfl, n1⟩; have N1 := Lib.hid n1; clear n1 NC))
      | (go_at_call 19; ((with_reducible refine N1.out.mono ?_); rintro e W2 ⟨q1, e2, rfl, n1, hor⟩; have N2 := Lib.hid n1; have HO := Lib.hid hor; have AW := Lib.hid (awake_yes W2); clear n1 N1 hor)))
    rcases HO.out with h1 | ⟨h1, h2⟩
    all_goals
      go_wp2_with (first
        | (go_at_call 9; ((with_reducible refine AW.out.mono ?_); rintro e X1 ⟨rfl, n1⟩; have T1 := Lib.hid n1; clear n1)))
      go_ret
      exact ⟨rfl, step_to N2.out T1.out⟩
end Go.Proofs.Ytglboagjmbjehaa
