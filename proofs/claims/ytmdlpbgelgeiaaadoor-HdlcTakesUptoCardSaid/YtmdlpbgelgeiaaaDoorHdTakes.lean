/-
  tetherlaw03.HdlcTakes.
-/
import Derived.Test.YtmdlpbgelgeiaaaDoorHdTkS
import Derived.Test.YtmdlpbgelgeiaaaDoorRowsAt
import Derived.Deep.RegionHeld3
import Derived.Deep.RegionHeldLaw
import Derived.Deep.RegionLaw
namespace Go.Proofs.YtmdlpbgelgeiaaaDoor
open Go.RowKit
set_option maxRecDepth 100000
set_option maxHeartbeats 4000000
set_option linter.unusedSimpArgs false
set_option linter.unusedVariables false

/-- the state at the head of a round -/
def TkH (w W : World) (b rb : Nat) (m a : Int) (M : Nat) (p q : Bool) (T : Nat) : Prop := ∃ hv Bv s r, TkJ w W b rb m a M p q hv Bv s r T
theorem takes_walk (mru a : Int) (p q : Bool) (A : Option Addr) (n c : Nat) (S : Nat → List UInt8) (rst : Int) (w : World) (hr : RowsAt w A n S) (hT : Tab16 w) :
    Calls Tryd.prog 5 #[.int .i64 mru, .int .i64 a, .bool p, .bool q, .slice A n c, .int .i64 rst] w fun e w' => e = .returned (.bool true) ∧ Below w.heap.size w w' := by
  cases hb : newB mru a
  · have N1 := Lib.hid (new_no mru a p q w hb)
    have N2 := Lib.hid (rnew_no mru a p q w hb)
    have KC := Lib.hid (known_any w hT)
    clear hr hT hb
    go_enter Tryd.func5, Tryd.ntmps5
    go_wp2_with (first
      | (go_at_call 25; refine N1.out.mono ?_; rintro e w' ⟨rfl, rfl⟩)
      | (go_at_call 26; refine N2.out.mono ?_; rintro e w' ⟨rfl, rfl⟩)
      | (go_at_call 21; refine KC.out.mono ?_; rintro e w' ⟨rfl, hb⟩))
    go_ret
    exact ⟨rfl, hb⟩
  · have hnb := hb
    unfold newB at hnb
    rw [Bool.and_eq_true] at hnb
    have hmr : 64 ≤ mru ∧ mru ≤ 16384 := by simpa using hnb.1
    have hab : 0 ≤ a ∧ a < 4294967296 := by have := hnb.2; unfold mapB at this; simp at this; omega
    obtain ⟨hm0, hm1⟩ := hmr
    obtain ⟨h0, h1⟩ := hab
    have NC : Hid (Calls Tryd.prog 25 #[.int .i64 mru, .int .i64 a, .bool p, .bool q] w fun e W1 => ∃ (b M : Nat), e = .returned (.pointer (some ⟨b, 0, none⟩)) ∧ Hid ((M : Int) = mru + 6) ∧
        Hid (Calls Tryd.prog 26 #[.int .i64 mru, .int .i64 a, .bool p, .bool q] W1 fun e W2 => ∃ (rb : Nat), e = .returned (.pointer (some ⟨rb, 0, none⟩)) ∧ Hid (TkH w W2 b rb mru a M p q 0))) := by
      refine (new_yes mru a p q w hb).mono ?_
      rintro e W1 ⟨b, M, rfl, hb1, hM, _, ln1, be1⟩
      refine ⟨b, M, rfl, hM, Lib.hid ?_⟩
      refine (rnew_yes mru a p q W1 hb).mono ?_
      rintro e W2 ⟨rfl, rl, be2⟩
      exact ⟨W1.heap.size, rfl, .slice none 0 0, .slice none 0 0, st0, rs0, ln1.later be2, rl, Tie.zero M, be1.trans (be2.mono be1.size), hb1, Blk.lt ln1.blk, (fun e => by cases e), (fun g e => by cases e), Nat.le_refl _⟩
    have HR := Lib.hid hr
    have HT := Lib.hid hT
    have hnn := hr.1
    clear hr hT hb hnb
    go_enter Tryd.func5, Tryd.ntmps5
    go_wp2_with (first
      | (go_at_call 25; refine NC.out.mono ?_; rintro e W1 ⟨b, M, rfl, HM, NC2⟩)
      | (go_at_call 26; refine NC2.out.mono ?_; rintro e W2 ⟨rb, rfl, HJ⟩))
    go_loopw [15] (fun i wr => ∃ k : Nat, i = .int .i64 k ∧ k ≤ n ∧ Hid (TkH w wr b rb mru a M p q (total S k))) (fun i _ => n - (intOf i).toNat)
    case atStart => exact ⟨0, rfl, Nat.zero_le _, HJ⟩
    case round =>
      obtain ⟨k, rfl, hk, HH⟩ := hrel
      by_cases hlt : k < n
      · go_upto_if 52 with (fail)
        go_cut [13] from 44 to 107 (fun x W => x = .pointer (some ⟨b, 0, none⟩) ∧ Hid (TkH w W b rb mru a M p q (total S k)))
        case first =>
          by_cases hrs : (k : Int) = rst
          · have d1 : ((k : Int) == rst) = true := by simpa using hrs
            have RC : Hid (Calls Tryd.prog 27 #[.pointer (some ⟨b, 0, none⟩)] wr fun e V => e = .returned (.tuple #[]) ∧ (∃ A n c, V.cell? ⟨rb, 4, none⟩ = some (.slice A n c)) ∧ V.frozen? ⟨rb, 4, none⟩ = false ∧ Hid (TkH w (V.setCell ⟨rb, 4, none⟩ (.slice none 0 0)) b rb mru a M p q (total S k))) := by
              obtain ⟨hv, Bv, s, r, h⟩ := HH.out
              refine (reset_any b a M p q hv s wr h.ln).mono ?_
              rintro e V ⟨hv', rfl, l1, _, g, e2⟩
              have lt := h.lt
              have blk : Blk V rb 52 (rlC mru a p q Bv r) := (g.block rb (Blk.lt h.rl.blk) (fun e => by injection e with e; omega)).trans h.rl.blk
              refine ⟨rfl, ?_, blk.frozen 4, _, _, _, _, h.reset l1 g e2⟩
              obtain ⟨A, n, c, e3⟩ : ∃ A n c, Bv = .slice A n c := by
                rcases h.rl.own.form with ⟨e, _⟩ | ⟨g, cap, e, _⟩
                · exact ⟨_, _, _, e⟩
                · exact ⟨_, _, _, e⟩
              exact ⟨A, n, c, by rw [← e3]; exact blk.cell 4⟩
            clear hrs
            go_wp2_with (go_at_call 27; refine RC.out.mono ?_; rintro e V ⟨rfl, ⟨A5, n5, c5, v4⟩, f4, HH2⟩)
            go_meet
            case rel => exact ⟨rfl, HH2⟩
          · have d1 : ((k : Int) == rst) = false := by simpa using hrs
            clear hrs
            go_wp2
            go_meet
            case rel => exact ⟨rfl, HH⟩
        case rest =>
          obtain ⟨rfl, HH2⟩ := hcut
          rename World => W5
          obtain ⟨bb, off, rfl, hbb, hc⟩ := HR.out.2.2 (by omega)
          obtain ⟨D, kk, cc, hcell, hrd, hkc, hcb, hD⟩ := hc k hlt
          have htot : total S k + (S k).length ≤ 1048576 := Nat.le_trans (total_mono S (k + 1) n (by omega)) HR.out.2.1
          have hkl := hrd.1
          obtain ⟨hv, Bv, s, r, hj⟩ := HH2.out
          have hcW : W5.cell? ⟨bb, off + k, none⟩ = some (.slice D kk cc) := (hj.bel.cell (p := ⟨bb, off + k, none⟩) hbb).trans hcell
          have TC := Lib.hid (tk_c w W5 b rb mru a M p q hv Bv s r (total S k) D kk cc (S k) ⟨bb, off + k, none⟩ hj HM.out hm0 hm1 h0 h1 HT.out hrd hD hkc (by omega) (by omega) hbb hcell)
          unfold TkC at TC
          have fb : Hid (∀ o ∈ frs a M p q s (S k), o.2.length ≤ 140737488351232) := fun o ho => by
            have h8 := HM.out
            have := frs_bytes a M p q (S k) s hj.ln.len o ho
            omega
          have hfl := frs_le a M p q (S k) s
          have HFL : Hid ((frs a M p q s (S k)).length ≤ 1048576) := by show _ ≤ _; omega
          have HT1 : Hid (total S (k + 1) = total S k + (S k).length) := rfl
          have hWs : Hid (w.heap.size ≤ W5.heap.size) := hj.bel.size
          clear hc hcell hrd hkl hj hfl htot
          go_upto_region 13 with (first
            | (go_at_call 10; (with_reducible refine TC.out.mono ?_); rintro e w1 ⟨g, cap, rfl, C1⟩)
            | (go_at_call 28; (with_reducible refine C1.out.mono ?_); rintro e w2 ⟨A2, n2, c2, rfl, hc2, C2⟩))
          go_region_law (first
            | (go_simp; go_at_call 29; (with_reducible refine C2.out.mono ?_); rintro e w3 ⟨A3, n3, c3, rfl, hc3, C3⟩)
            | (go_simp; go_at_call 24; (with_reducible refine C3.out.mono ?_); rintro e w4 ⟨rfl, hc4, C4⟩)
            | (go_simp; go_at_call 20; (with_reducible refine C4.out.mono ?_); rintro e w5 ⟨rfl, hc5, x0, x1, x2, x3, x4, x5, ⟨u0, u1, u2, u3, u4, u5⟩, C5⟩)
            | (go_simp; go_at_call 31; (with_reducible refine C5.out.mono ?_); rintro e w6 ⟨rfl, hc6, ⟨y0, y1, y2, y3, y4, y5⟩, C6⟩)
            | (go_simp; go_at_call 30; (with_reducible refine C6.out.mono ?_); rintro e w7 ⟨rfl, hc7, C7⟩))
          all_goals
            clear hcW hc2 hc3 hc4 hc5 hc6 u0 u1 u2 u3 u4 u5 y0 y1 y2 y3 y4 y5
            go_wp2_with (go_at_call 19; (with_reducible refine C7.out.mono ?_); rintro e w8 ⟨rfl, C8⟩)
            obtain ⟨hv', Bv', L, hj8, fl8, hL8, hlow⟩ := C8.out
            obtain ⟨cs, hF, hS0⟩ := sp_start hj8 fl8 hL8 hlow fb.out
            have hn2 : n2 = (frs a M p q s (S k)).length := by
              obtain ⟨A9, c9, e9⟩ := hF.own.shape
              injection e9
            have HF := Lib.hid hF
            have HS0 := Lib.hid hS0
            have HN2 := Lib.hid hn2
            have hn3 : n2 ≤ 1048576 := by have := HFL.out; omega
            clear hj8 fl8 hL8 hlow hF hS0 hn2 C8 C1 C2 C3 C4 C5 C6 C7 TC NC NC2
            go_loopw [18] (fun i wr => ∃ k2 : Nat, i = .int .i64 k2 ∧ k2 ≤ n2 ∧ Hid (SpJ w w8 wr b rb mru a M p q hv' Bv' (runS a M p q s (S k)) (rrun a M p q r (S k)) (total S k + (S k).length) (.slice A2 n2 c2) cs k2)) (fun i _ => n2 - (intOf i).toNat)
            case atStart => exact ⟨0, rfl, Nat.zero_le _, HS0⟩
            case round =>
              obtain ⟨k2, rfl, hk2, HSP⟩ := hrel
              by_cases hlt2 : k2 < n2
              · obtain ⟨g2, cap2, E2, m2, d2, hve, hcl, SC⟩ := sp_step HF.out HSP.out (by have := HN2.out; omega)
                injection hve with hv1 hv2 hv3
                subst hv1
                have SCH := Lib.hid SC
                clear SC hv2 hv3
                go_wp2_with (go_at_call 19; (with_reducible refine SCH.out.mono ?_); rintro e w9 ⟨rfl, hS9⟩)
                go_roundw
                case rel => exact ⟨k2 + 1, by go_num, by omega, hS9⟩
                case measure => simp [intOf]; omega
              · have HH9 : Hid (TkH w wr b rb mru a M p q (total S (k + 1))) := by
                  show TkH _ _ _ _ _ _ _ _ _ _
                  rw [HT1.out]
                  exact ⟨hv', Bv', _, _, HSP.out.tk⟩
                clear HSP
                go_wp2
                go_roundw
                case rel => exact ⟨k + 1, by go_num, by omega, HH9⟩
                case measure => simp [intOf]; omega
      · obtain rfl : k = n := by omega
        have KC : Hid (Calls Tryd.prog 21 #[] wr fun e w' => e = .returned (.bool true) ∧ Hid (Below w.heap.size w w')) := by
          obtain ⟨hv, Bv, s, r, hj⟩ := HH.out
          refine (known_any wr (HT.out.kept hj.bel)).mono ?_
          rintro e w' ⟨rfl, hb⟩
          exact ⟨rfl, hj.bel.trans (hb.mono hj.bel.size)⟩
        go_wp2_with (go_at_call 21; refine KC.out.mono ?_; rintro e w' ⟨rfl, HE⟩)
        go_ret
        exact ⟨rfl, HE.out⟩
end Go.Proofs.YtmdlpbgelgeiaaaDoor
