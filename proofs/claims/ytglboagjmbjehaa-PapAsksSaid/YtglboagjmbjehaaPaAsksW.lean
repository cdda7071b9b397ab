/-
  PapAsks: the law's walk (written by gen_paasks.py).
-/
import Derived.Test.YtglboagjmbjehaaPaAsksM
import Derived.Test.YtglboagjmbjehaaPaOps
import Derived.BigQuiet
namespace Go.Proofs.Ytglboagjmbjehaa
open Go.RowKit Go.Shelf
set_option maxRecDepth 100000
set_option maxHeartbeats 4000000
set_option linter.unusedSimpArgs false
set_option linter.unusedVariables false

theorem npr_ok {name word : ByteArray} {tries : Int} (h : nprE name word tries = 0) : PrOk ⟨name, word, tries, 0, 0, 0, ⟨#[]⟩⟩ := by
  unfold nprE at h
  cases h1 : nameB name
  · rw [h1] at h; simp at h
  cases h2 : nameB word
  · rw [h1, h2] at h; simp at h
  rw [h1, h2, if_neg (by simp), if_neg (by simp)] at h
  have h3 : tries ≤ 255 := by
    by_cases h4 : tries < 1 ∨ 255 < tries
    · rw [if_pos h4] at h; cases h
    · omega
  have z1 : name.size ≤ 64 := by simp [nameB] at h1; exact h1.2.1
  have z2 : word.size ≤ 64 := by simp [nameB] at h2; exact h2.2.1
  exact ⟨by show name.size ≤ 255; omega, by show word.size ≤ 255; omega, h3, by show (0 : Int) ≤ 0; omega, by show (0 : Int) ≤ 255; omega, by show (0 : Int) ≤ 0; omega, by show (0 : Int) ≤ 255; omega⟩
theorem new_no {name word : ByteArray} {tries : Int} {w : World} (hn : name.size ≤ maxLen) (hw : word.size ≤ maxLen) (h : nprE name word tries ≠ 0) :
    Calls Try.prog 19 #[.string name, .string word, .int .i64 tries] w fun e W1 => e = .returned (.tuple #[.pointer none, .int .i64 (nprE name word tries)]) ∧
      Calls Try.prog 20 #[.string name, .string word, .int .i64 tries] W1 fun e W2 => e = .returned (.tuple #[.pointer none, .int .i64 (nprE name word tries)]) ∧ Below w.heap.size w W2 := by
  refine (pnewPeer_any name word tries w hn hw).mono ?_
  rintro e W1 ⟨b1, ⟨-, rfl⟩ | ⟨h0, -⟩⟩
  · refine ⟨rfl, (rnewPeer_any name word tries W1 hn hw).mono ?_⟩
    rintro e W2 ⟨b2, ⟨-, rfl⟩ | ⟨h0, -⟩⟩
    · exact ⟨rfl, step_to b1 b2⟩
    · exact absurd h0 h
  · exact absurd h0 h
theorem new_yes {name word : ByteArray} {tries : Int} {w : World} (hn : name.size ≤ maxLen) (hw : word.size ≤ maxLen) (h : nprE name word tries = 0) :
    Calls Try.prog 19 #[.string name, .string word, .int .i64 tries] w fun e W1 => ∃ g, e = .returned (.tuple #[.pointer (some ⟨g, 0, none⟩), .int .i64 0]) ∧
      Calls Try.prog 20 #[.string name, .string word, .int .i64 tries] W1 fun e W2 => ∃ h, e = .returned (.tuple #[.pointer (some ⟨h, 0, none⟩), .int .i64 0]) ∧ AskJ w W2 g h ⟨name, word, tries, 0, 0, 0, ⟨#[]⟩⟩ := by
  refine (pnewPeer_any name word tries w hn hw).mono ?_
  rintro e W1 ⟨b1, ⟨h0, -⟩ | ⟨-, g, hg, rfl, g1⟩⟩
  · exact absurd h h0
  refine ⟨g, rfl, (rnewPeer_any name word tries W1 hn hw).mono ?_⟩
  rintro e W2 ⟨b2, ⟨h0, -⟩ | ⟨-, k, hk, rfl, k1⟩⟩
  · exact absurd h h0
  have := Blk.lt g1
  have := b1.size
  exact ⟨k, rfl, step_to b1 b2, ⟨hg, by omega, by omega⟩, (b2.block _ (Blk.lt g1)).trans g1, k1, npr_ok h⟩
theorem papasks_walk (name word : ByteArray) (tries : Int) (A : Option Addr) (n c : Nat) (f : Nat → PaOp) (w : World) (hn : name.size ≤ maxLen) (hw : word.size ≤ maxLen) (ho : OpsP w w.heap.size A n f) (hm : n ≤ 2932031007744) :
    Calls Try.prog 4 #[.string name, .string word, .int .i64 tries, .slice A n c] w fun e w' => e = .returned (.bool true) ∧ Below w.heap.size w w' := by
  by_cases h0 : nprE name word tries = 0
  · have NC := Lib.hid (new_yes (w := w) hn hw h0)
    have HO := Lib.hid ho
    obtain ⟨p0, hp0⟩ : ∃ p, (⟨name, word, tries, 0, 0, 0, ⟨#[]⟩⟩ : Pr) = p := ⟨_, rfl⟩
    rw [hp0] at NC
    clear ho h0 hp0 hn hw
    go_enter Try.func4, Try.ntmps4
    go_wp2_with (first
      | (go_at_call 19; ((with_reducible refine NC.out.mono ?_); rintro e W1 ⟨g, rfl, n1⟩; have N1 := Lib.hid n1; clear n1 NC))
      | (go_at_call 20; ((with_reducible refine N1.out.mono ?_); rintro e W2 ⟨h, rfl, n2⟩; have N2 := Lib.hid n2; clear n2 N1)))
    go_loopw [54] (fun i wr => ∃ (k : Nat) (p : Pr), k ≤ n ∧ k ≤ 600 ∧ i = .int .i64 k ∧ Hid (AskJ w wr g h p)) (fun i _ => n - (intOf i).toNat)
    case atStart => exact ⟨0, p0, Nat.zero_le _, Nat.zero_le _, rfl, N2.out⟩
    case round =>
      rename_i wr
      obtain ⟨k, p, hkn, hk6, rfl, hJ⟩ := hrel
      clear N2
      by_cases hlt : k < n
      · obtain ⟨b, off, rfl, hbl, hc⟩ := HO.out (by omega)
        obtain ⟨z, hz⟩ : ∃ z, f k = z := ⟨_, rfl⟩
        obtain ⟨z0, z1, z2, D, kd, dd, l⟩ := z
        obtain ⟨x0, x1, x2, x3, r0, r1, r2, r3⟩ := hc k hlt
        rw [hz] at x0 x1 x2 x3 r0 r1 r2 r3
        dsimp only at x0 x1 x2 x3 r0 r1 r2 r3
        have hB := hJ.out.bel
        replace x0 := (hB.cell (p := ⟨b, off + k * 4, none⟩) hbl).trans x0
        replace x1 := (hB.cell (p := ⟨b, off + k * 4 + 1, none⟩) hbl).trans x1
        replace x2 := (hB.cell (p := ⟨b, off + k * 4 + 2, none⟩) hbl).trans x2
        replace x3 := (hB.cell (p := ⟨b, off + k * 4 + 3, none⟩) hbl).trans x3
        obtain ⟨V, hV⟩ : ∃ V, wr.alloc (.cells #[.int .i64 z0, .int .i64 z1, .int .i64 z2, .slice D kd dd] 40) = V := ⟨_, rfl⟩
        have hBV : Below wr.heap.size wr V := by rw [← hV]; exact (Below.refl _ _).alloc (Nat.le_refl _) _
        have hnew : Blk V wr.heap.size 40 [.int .i64 z0, .int .i64 z1, .int .i64 z2, .slice D kd dd] := by rw [← hV]; exact heap_alloc_new wr _
        have hJV := hJ.out.later hBV
        have hne : wr.heap.size ≠ g ∧ wr.heap.size ≠ h := by
          have := Blk.lt hJ.out.one
          have := Blk.lt hJ.out.two
          omega
        have y0 := hnew.cell 0
        have y1 := hnew.cell 1
        have y2 := hnew.cell 2
        have y3 := hnew.cell 3
        have HV := Lib.hid hV
        have SC := Lib.hid (send_both hJV hnew hne)
        have TC := Lib.hid (both_take hJV hnew hne z1 z2 D kd dd w.heap.size l (r0.below hJV.bel) (Nat.le_refl _) r1 r2 (Nat.le_trans (Nat.le_trans r1 r3) (by decide)))
        have RC := Lib.hid (both_reset hJV hnew hne)
        have JV := Lib.hid hJV
        clear hc hz hB hV hBV hnew hJ hbl hJV r0 r1 r2 r3 hne
        by_cases h3 : 600 ≤ k
        · obtain rfl : k = 600 := by omega
          have AW := Lib.hid (awake_yes V)
          have FB := Lib.hid JV.out.bel
          go_wp2_with (first
            | (rw [HV.out])
            | (go_at_call 9; ((with_reducible refine AW.out.mono ?_); rintro e X1 ⟨rfl, n1⟩; have T1 := Lib.hid n1; clear n1)))
          go_ret
          exact ⟨rfl, step_to FB.out T1.out⟩
        · by_cases e0 : z0 = 0
          · subst e0
            obtain ⟨q, hq⟩ : ∃ q, p.sends.1 = q := ⟨_, rfl⟩
            unfold SendC at SC
            rw [hq] at SC
            clear hq TC RC JV
            go_upto_region 25 with (first
              | (rw [HV.out])
              | (go_at_call 21; ((with_reducible refine SC.out.mono ?_); rintro e W3 ⟨C, I, E, ek, ed, bo, er, rfl, n3⟩; have SC3 := Lib.hid n3; clear n3 SC))
              | (go_at_call 22; ((with_reducible refine SC3.out.mono ?_); rintro e W4 ⟨E2, ek2, ed2, rfl, b4, n4⟩; have SC4 := Lib.hid n4; have u0 := b4.cell 0; have u1 := b4.cell 1; have u2 := b4.cell 2; have l4 := Blk.lt b4; clear n4 b4 SC3))
              | (go_at_call 15; ((with_reducible refine SC4.out.mono ?_); rintro e W5 ⟨rfl, n5, b5⟩; have AJ := Lib.hid n5; clear n5 b5 SC4)))
            have ax := AJ.out
            have ST := Lib.hid (fun n => (peerState_any g q (W5.drewN n) ax.one).mono fun _ _ ⟨he, hw⟩ => (⟨he, n, hw.symm⟩ : _ ∧ ∃ m, _ = W5.drewN m))
            have MS := Lib.hid (fun n => (peerMessage_any g q (W5.drewN n) ax.one).mono fun _ _ ⟨he, hw⟩ => (⟨he, n, hw.symm⟩ : _ ∧ ∃ m, _ = W5.drewN m))
            have v5 : W5.cell? ⟨h, 5, none⟩ = some (.int .i64 q.state) := ax.two.cell 5
            have v6 : W5.cell? ⟨h, 6, none⟩ = some (.string q.msg) := ax.two.cell 6
            have b5 : (q.state != q.state) = false := by simp
            have b6 : (q.msg.toList != q.msg.toList) = false := by simp
            clear ax
            go_quiet (first
              | (go_at_call 27; exact ST.out _)
              | (go_at_call 28; exact MS.out _))
            go_wp2
            go_roundw
            case rel => exact ⟨k + 1, q, by omega, by omega, by go_num, AJ.out.later (below_drewS (Below.refl _ _) _)⟩
            case measure => simp [intOf]; omega
          · have e0' : (z0 == 0) = false := by simpa using e0
            by_cases e1 : z0 = 1
            · subst e1
              obtain ⟨q, hq⟩ : ∃ q, (p.take z1 z2 l).1 = q := ⟨_, rfl⟩
              rw [hq] at TC
              clear hq SC RC JV
              go_upto_region 25 with (first
                | (rw [HV.out])
                | (go_at_call 23; ((with_reducible refine TC.out.mono ?_); rintro e W3 ⟨bo, er, rfl, b3, n3⟩; have TC3 := Lib.hid n3; have u1 := b3.cell 1; have u2 := b3.cell 2; have u3 := b3.cell 3; clear n3 b3 TC))
                | (go_at_call 24; ((with_reducible refine TC3.out.mono ?_); rintro e W4 ⟨rfl, n4, b4⟩; have AJ := Lib.hid n4; clear n4 b4 TC3)))
              have ax := AJ.out
              have ST := Lib.hid (fun n => (peerState_any g q (W4.drewN n) ax.one).mono fun _ _ ⟨he, hw⟩ => (⟨he, n, hw.symm⟩ : _ ∧ ∃ m, _ = W4.drewN m))
              have MS := Lib.hid (fun n => (peerMessage_any g q (W4.drewN n) ax.one).mono fun _ _ ⟨he, hw⟩ => (⟨he, n, hw.symm⟩ : _ ∧ ∃ m, _ = W4.drewN m))
              have v5 : W4.cell? ⟨h, 5, none⟩ = some (.int .i64 q.state) := ax.two.cell 5
              have v6 : W4.cell? ⟨h, 6, none⟩ = some (.string q.msg) := ax.two.cell 6
              have b5 : (q.state != q.state) = false := by simp
              have b6 : (q.msg.toList != q.msg.toList) = false := by simp
              clear ax
              go_quiet (first
                | (go_at_call 27; exact ST.out _)
                | (go_at_call 28; exact MS.out _))
              go_wp2
              go_roundw
              case rel => exact ⟨k + 1, q, by omega, by omega, by go_num, AJ.out.later (below_drewS (Below.refl _ _) _)⟩
              case measure => simp [intOf]; omega
            · have e1' : (z0 == 1) = false := by simpa using e1
              by_cases e2 : z0 = 2
              · subst e2
                obtain ⟨q, hq⟩ : ∃ q, p.reset = q := ⟨_, rfl⟩
                rw [hq] at RC
                clear hq SC TC JV
                go_upto_region 25 with (first
                  | (rw [HV.out])
                  | (go_at_call 25; ((with_reducible refine RC.out.mono ?_); rintro e W3 ⟨rfl, n3⟩; have RC3 := Lib.hid n3; clear n3 RC))
                  | (go_at_call 26; ((with_reducible refine RC3.out.mono ?_); rintro e W4 ⟨rfl, n4, b4⟩; have AJ := Lib.hid n4; clear n4 b4 RC3)))
                have ax := AJ.out
                have ST := Lib.hid (fun n => (peerState_any g q (W4.drewN n) ax.one).mono fun _ _ ⟨he, hw⟩ => (⟨he, n, hw.symm⟩ : _ ∧ ∃ m, _ = W4.drewN m))
                have MS := Lib.hid (fun n => (peerMessage_any g q (W4.drewN n) ax.one).mono fun _ _ ⟨he, hw⟩ => (⟨he, n, hw.symm⟩ : _ ∧ ∃ m, _ = W4.drewN m))
                have v5 : W4.cell? ⟨h, 5, none⟩ = some (.int .i64 q.state) := ax.two.cell 5
                have v6 : W4.cell? ⟨h, 6, none⟩ = some (.string q.msg) := ax.two.cell 6
                have b5 : (q.state != q.state) = false := by simp
                have b6 : (q.msg.toList != q.msg.toList) = false := by simp
                clear ax
                go_quiet (first
                  | (go_at_call 27; exact ST.out _)
                  | (go_at_call 28; exact MS.out _))
                go_wp2
                go_roundw
                case rel => exact ⟨k + 1, q, by omega, by omega, by go_num, AJ.out.later (below_drewS (Below.refl _ _) _)⟩
                case measure => simp [intOf]; omega
              · have e2' : (z0 == 2) = false := by simpa using e2
                obtain ⟨q, hq⟩ : ∃ q, p = q := ⟨_, rfl⟩
                subst hq
                have AJ := JV
                clear SC TC RC JV
                go_upto_region 25 with (first
                  | (rw [HV.out]))
                have ax := AJ.out
                have ST := Lib.hid (fun n => (peerState_any g p (V.drewN n) ax.one).mono fun _ _ ⟨he, hw⟩ => (⟨he, n, hw.symm⟩ : _ ∧ ∃ m, _ = V.drewN m))
                have MS := Lib.hid (fun n => (peerMessage_any g p (V.drewN n) ax.one).mono fun _ _ ⟨he, hw⟩ => (⟨he, n, hw.symm⟩ : _ ∧ ∃ m, _ = V.drewN m))
                have v5 : V.cell? ⟨h, 5, none⟩ = some (.int .i64 p.state) := ax.two.cell 5
                have v6 : V.cell? ⟨h, 6, none⟩ = some (.string p.msg) := ax.two.cell 6
                have b5 : (p.state != p.state) = false := by simp
                have b6 : (p.msg.toList != p.msg.toList) = false := by simp
                clear ax
                go_quiet (first
                  | (go_at_call 27; exact ST.out _)
                  | (go_at_call 28; exact MS.out _))
                go_wp2
                go_roundw
                case rel => exact ⟨k + 1, p, by omega, by omega, by go_num, AJ.out.later (below_drewS (Below.refl _ _) _)⟩
                case measure => simp [intOf]; omega
      · obtain rfl : k = n := by omega
        have AW := Lib.hid (awake_yes wr)
        have FB := Lib.hid hJ.out.bel
        go_wp2_with (first
          | (go_at_call 9; ((with_reducible refine AW.out.mono ?_); rintro e X1 ⟨rfl, n1⟩; have T1 := Lib.hid n1; clear n1)))
        go_ret
        exact ⟨rfl, step_to FB.out T1.out⟩
  · have NC := Lib.hid (new_no (w := w) hn hw h0)
    obtain ⟨er, her⟩ : ∃ er, nprE name word tries = er := ⟨_, rfl⟩
    rw [her] at NC
    clear h0 her ho hn hw
    go_enter Try.func4, Try.ntmps4
    go_wp2_with (first
      | (go_at_call 19; ((with_reducible refine NC.out.mono ?_); rintro e W1 ⟨rfl, n1⟩; have N1 := Lib.hid n1; clear n1 NC))
      | (go_at_call 20; ((with_reducible refine N1.out.mono ?_); rintro e W2 ⟨rfl, n2⟩; have N2 := Lib.hid n2; have AW := Lib.hid (awake_yes W2); clear n2 N1))
      | (go_at_call 9; ((with_reducible refine AW.out.mono ?_); rintro e X1 ⟨rfl, n1⟩; have T1 := Lib.hid n1; clear n1)))
    go_ret
    exact ⟨rfl, step_to N2.out T1.out⟩
end Go.Proofs.Ytglboagjmbjehaa
