/-
  The law AutoPlays: the walk.
-/
import Derived.Test.YtpkmddagcfjadaaDoorAuStep
import Derived.StillTailTactics
namespace Go.Proofs.YtpkmddagcfjadaaDoor
open Go.RowKit
set_option maxRecDepth 100000
set_option maxHeartbeats 4000000
set_option linter.unusedSimpArgs false
set_option linter.unusedVariables false

def Both (w W : World) (g h : Nat) (mc mt : Int) (vb vs : Value) : Prop := ∃ g2 h2 s2 c2, vb = .pointer (some ⟨g2, 0, none⟩) ∧ vs = .pointer (some ⟨h2, 0, none⟩) ∧ PairJ W g2 h2 s2 c2 mc mt ∧ g2 ≠ h2 ∧ w.heap.size ≤ g2 ∧ w.heap.size ≤ h2 ∧ g2 ≠ g ∧ g2 ≠ h ∧ h2 ≠ g ∧ h2 ≠ h
def PlayJ (w W : World) (g h : Nat) (mc mt : Int) (vb vs : Value) : Prop := (∃ s c, PairJ W g h s c mc mt) ∧ Below w.heap.size w W ∧ ((vb = .pointer none ∧ ∃ P, vs = .pointer P) ∨ Both w W g h mc mt vb vs)
theorem PairJ.fr {W W' : World} {g h g2 h2 : Nat} {s c mc mt : Int} (x : PairJ W g2 h2 s c mc mt) (f : Fr2 g h W W') (a1 : g2 ≠ g) (a2 : g2 ≠ h) (a3 : h2 ≠ g) (a4 : h2 ≠ h) : PairJ W' g2 h2 s c mc mt :=
  ⟨(f.block _ x.1.lt a1 a2).trans x.1, (f.block _ x.2.1.lt a3 a4).trans x.2.1, x.2.2⟩
theorem PairJ.later {W W' : World} {g h : Nat} {s c mc mt : Int} (x : PairJ W g h s c mc mt) (f : Below W.heap.size W W') : PairJ W' g h s c mc mt :=
  ⟨Blk.below x.1 f x.1.lt, Blk.below x.2.1 f x.2.1.lt, x.2.2⟩
theorem PlayJ.later {w W W' : World} {g h : Nat} {mc mt : Int} {vb vs : Value} (x : PlayJ w W g h mc mt vb vs) (f : Below W.heap.size W W') : PlayJ w W' g h mc mt vb vs := by
  obtain ⟨⟨s, c, hp⟩, hb, hv⟩ := x
  refine ⟨⟨s, c, hp.later f⟩, hb.trans (f.mono hb.size), ?_⟩
  rcases hv with hv | ⟨g2, h2, s2, c2, e1, e2, hp2, hr⟩
  · exact .inl hv
  · exact .inr ⟨g2, h2, s2, c2, e1, e2, hp2.later f, hr⟩
section
variable {w W : World} {g h : Nat} {mc mt : Int} {vb vs : Value} (x : PlayJ w W g h mc mt vb vs) (hgh : g ≠ h) (hg : w.heap.size ≤ g) (hh : w.heap.size ≤ h) (hT : TabA w) (h1 : 0 ≤ mc ∧ mc ≤ 255) (h2 : 0 ≤ mt ∧ mt ≤ 255)
include x hgh hg hh hT h1 h2
theorem PlayJ.one (K N : Int) : Calls Tryd.prog 29 #[.pointer (some ⟨g, 0, none⟩), .pointer (some ⟨h, 0, none⟩), .agg #[.int .i64 K, .int .i64 N]] W fun e w' => ∃ A m cc, e = .returned (.tuple #[.slice A m cc, .bool true]) ∧ PlayJ w w' g h mc mt vb vs := by
  obtain ⟨⟨s, c, hp⟩, hb, hv⟩ := x
  refine (step_any g h s c mc mt K N W hp hgh (hT.keptB hb hT.lt) h1 h2).mono ?_
  rintro e w' ⟨A, m, cc, s', c', rfl, hp', hf⟩
  refine ⟨_, _, _, rfl, ⟨s', c', hp'⟩, hb.trans (hf.below hb.size hg hh), ?_⟩
  rcases hv with hv | ⟨g2, h2, s2, c2, e1, e2, hp2, r1, r2, r3, r4, r5, r6, r7⟩
  · exact .inl hv
  · exact .inr ⟨g2, h2, s2, c2, e1, e2, hp2.fr hf r4 r5 r6 r7, r1, r2, r3, r4, r5, r6, r7⟩
end
theorem PlayJ.two {w W : World} {g h : Nat} {mc mt : Int} {vb vs : Value} (x : PlayJ w W g h mc mt vb vs) (hT : TabA w) (h1 : 0 ≤ mc ∧ mc ≤ 255) (h2 : 0 ≤ mt ∧ mt ≤ 255) {g2 h2' : Nat} (e1 : vb = .pointer (some ⟨g2, 0, none⟩)) (e2 : vs = .pointer (some ⟨h2', 0, none⟩)) (K N : Int) : Calls Tryd.prog 29 #[.pointer (some ⟨g2, 0, none⟩), .pointer (some ⟨h2', 0, none⟩), .agg #[.int .i64 K, .int .i64 N]] W fun e w' => ∃ A m cc, e = .returned (.tuple #[.slice A m cc, .bool true]) ∧ PlayJ w w' g h mc mt vb vs := by
  obtain ⟨⟨s, c, hp⟩, hb, hv⟩ := x
  rcases hv with ⟨hv, _⟩ | ⟨g3, h3, s2, c2, e3, e4, hp2, r1, r2, r3, r4, r5, r6, r7⟩
  · rw [hv] at e1
    cases e1
  · rw [e3] at e1
    rw [e4] at e2
    injection e1 with e1
    injection e1 with e1
    injection e1 with e1
    injection e2 with e2
    injection e2 with e2
    injection e2 with e2
    subst e1
    subst e2
    refine (step_any g3 h3 s2 c2 mc mt K N W hp2 r1 (hT.keptB hb hT.lt) h1 h2).mono ?_
    rintro e w' ⟨A, m, cc, s', c', rfl, hp', hf⟩
    exact ⟨_, _, _, rfl, ⟨s, c, hp.fr hf r4.symm r6.symm r5.symm r7.symm⟩, hb.trans (hf.below hb.size r2 r3), .inr ⟨g3, h3, s', c', e3, e4, hp', r1, r2, r3, r4, r5, r6, r7⟩⟩
theorem PlayJ.copied {w W W2 : World} {g h : Nat} {s c mc mt : Int} (hp : PairJ W g h s c mc mt) (hb : Below w.heap.size w W) (ha : AuB W2 W.heap.size s c mc mt) (hf : Below W.heap.size W W2) :
    PlayJ w (W2.alloc (.cells (rauC s c mc mt).toArray 41)).drew g h mc mt (.pointer (some ⟨W.heap.size, 0, none⟩)) (.pointer (some ⟨W2.heap.size, 0, none⟩)) := by
  have hgl := hp.1.lt
  have hhl := hp.2.1.lt
  have hal := ha.lt
  have hb2 : Below W2.heap.size W2 (W2.alloc (.cells (rauC s c mc mt).toArray 41)).drew := below_drewN ((Below.refl _ _).alloc (Nat.le_refl _) _) 1
  refine ⟨⟨s, c, (hp.later hf).later hb2⟩, (hb.trans (hf.mono hb.size)).trans (hb2.mono (Nat.le_trans hb.size hf.size)), .inr ⟨_, _, s, c, rfl, rfl, ⟨Blk.below ha hb2 hal, blk_new W2 _ _, hp.2.2⟩, ?_, hb.size, Nat.le_trans hb.size hf.size, ?_, ?_, ?_, ?_⟩⟩
  all_goals omega
theorem PlayJ.one_o {w W : World} {g h : Nat} {mc mt : Int} {vb vs : Value} (x : PlayJ w W g h mc mt vb vs) (hgh : g ≠ h) (hg : w.heap.size ≤ g) (hh : w.heap.size ≤ h) (hT : TabA w) (h1 : 0 ≤ mc ∧ mc ≤ 255) (h2 : 0 ≤ mt ∧ mt ≤ 255)
    (ob : Nat) (K N : Int) (hbo : Blk W ob 43 [.int .i64 K, .int .i64 N]) (n1 : ob ≠ g) (n2 : ob ≠ h) :
    Calls Tryd.prog 29 #[.pointer (some ⟨g, 0, none⟩), .pointer (some ⟨h, 0, none⟩), .agg #[.int .i64 K, .int .i64 N]] W fun e w' => ∃ A m cc, e = .returned (.tuple #[.slice A m cc, .bool true]) ∧ PlayJ w w' g h mc mt vb vs ∧ w'.cell? ⟨ob, 0, none⟩ = some (.int .i64 K) ∧ w'.cell? ⟨ob, 1, none⟩ = some (.int .i64 N) := by
  obtain ⟨⟨s, c, hp⟩, hb, hv⟩ := x
  refine (step_any g h s c mc mt K N W hp hgh (hT.keptB hb hT.lt) h1 h2).mono ?_
  rintro e w' ⟨A, m, cc, s', c', rfl, hp', hf⟩
  have hbo' : Blk w' ob 43 [.int .i64 K, .int .i64 N] := (hf.block ob hbo.lt n1 n2).trans hbo
  refine ⟨_, _, _, rfl, ⟨⟨s', c', hp'⟩, hb.trans (hf.below hb.size hg hh), ?_⟩, hbo'.cell 0, hbo'.cell 1⟩
  rcases hv with hv | ⟨g2, h2, s2, c2, e1, e2, hp2, r1, r2, r3, r4, r5, r6, r7⟩
  · exact .inl hv
  · exact .inr ⟨g2, h2, s2, c2, e1, e2, hp2.fr hf r4 r5 r6 r7, r1, r2, r3, r4, r5, r6, r7⟩
theorem PlayJ.awake {w W : World} {g h : Nat} {mc mt : Int} {vb vs : Value} (x : PlayJ w W g h mc mt vb vs) (hT : TabA w) (hN : TabN w) : Calls Tryd.prog 21 #[] W fun e w' => e = .returned (.bool true) ∧ Below w.heap.size w w' := by
  refine (awake_any W (hT.keptB x.2.1 hT.lt) (hN.keptB x.2.1 hN.lt)).mono ?_
  rintro r w' ⟨rfl, hb⟩
  exact ⟨rfl, x.2.1.trans (hb.mono x.2.1.size)⟩
theorem autoplays_walk (mc mt : Int) (A : Option Addr) (n cap : Nat) (K N : Nat → Int) (cut : Int) (w : World) (hr : OpsAt w w.heap.size A n K N) (hn : n ≤ 8796093021952) (hT : TabA w) (hNm : TabN w) :
    Calls Tryd.prog 6 #[.int .i64 mc, .int .i64 mt, .slice A n cap, .int .i64 cut] w fun e w' => e = .returned (.bool true) ∧ Below w.heap.size w w' := by
  by_cases hok : (1 ≤ mc ∧ mc ≤ 255) ∧ (1 ≤ mt ∧ mt ≤ 255)
  · have b1 : Hid (0 ≤ mc ∧ mc ≤ 255) := ⟨by omega, hok.1.2⟩
    have b2 : Hid (0 ≤ mt ∧ mt ≤ 255) := ⟨by omega, hok.2.2⟩
    have NW := Lib.hid (new_yes mc mt w hok.1 hok.2)
    have RW : Hid (∀ W, Calls Tryd.prog 27 #[.int .i64 mc, .int .i64 mt] W fun r w' => r = .returned (.pointer (some ⟨W.heap.size, 0, none⟩)) ∧ RAuB w' W.heap.size 0 0 mc mt ∧ Below W.heap.size W w') := fun W => rnew_yes mc mt W hok.1 hok.2
    have HR := Lib.hid hr
    have HT := Lib.hid hT
    have HN := Lib.hid hNm
    have hz : ∀ W, (zeroValue 41).run Tryd.prog W = .ok (.agg #[.int .i64 0, .int .i64 0, .int .i64 0, .int .i64 0]) W := fun W => by kernel_rfl
    clear hok hr hT hNm
    go_enter Tryd.func6, Tryd.ntmps6
    go_wp2_with (first
      | (go_at_call 26; ((with_reducible refine NW.out.mono ?_); rintro e w1 ⟨rfl, ha, hb⟩; have A1 := Lib.hid ha; have B1 := Lib.hid hb; clear ha hb NW))
      | (go_at_call 27; ((with_reducible refine (RW.out _).mono ?_); rintro e w2 ⟨rfl, ha, hb⟩; have A2 := Lib.hid ha; have B2 := Lib.hid hb; clear ha hb RW)))
    have sz1 := B1.out.size
    have lt1 : w.heap.size < w1.heap.size := A1.out.lt
    have HJ0 : Hid (PlayJ w w2 w.heap.size w1.heap.size mc mt (.pointer none) (.pointer none)) := ⟨⟨0, 0, Blk.below A1.out B2.out lt1, A2.out, by omega⟩, B1.out.trans (B2.out.mono sz1), .inl ⟨rfl, none, rfl⟩⟩
    have HJ1 : Hid (∀ o P, PlayJ w (w2.alloc o) w.heap.size w1.heap.size mc mt (.pointer none) (.pointer P)) := by
      intro o P
      obtain ⟨x1, x2, _⟩ := HJ0.out.later ((Below.refl w2.heap.size w2).alloc (Nat.le_refl _) o)
      exact ⟨x1, x2, .inl ⟨rfl, P, rfl⟩⟩
    have hgh : w.heap.size ≠ w1.heap.size := by omega
    clear A1 A2 B1 B2 HJ0
    go_loopw [44, 11, 12] (fun i vb vs wr => ∃ k : Nat, k ≤ n ∧ i = .int .i64 k ∧ PlayJ w wr w.heap.size w1.heap.size mc mt vb vs) (fun i _ _ _ => n - (intOf i).toNat)
    case atStart => exact ⟨0, Nat.zero_le _, rfl, HJ1.out _ _⟩
    case round =>
      rename_i wr
      obtain ⟨k, hk, rfl, hj⟩ := hrel
      have hsz := hj.2.1.size
      obtain ⟨⟨s, c, hp⟩, hb, hv⟩ := hj
      have hgl := hp.1.lt
      have hhl := hp.2.1.lt
      by_cases hlt : k < n ∧ k < 1000
      · obtain ⟨hkn, hk1⟩ := hlt
        obtain ⟨b, off, rfl, hbl, hc⟩ := (HR.out.below hb (Nat.le_refl _)) (by omega)
        obtain ⟨q1, q2, q3, q4⟩ := hc k hkn
        obtain ⟨z, hzz⟩ : ∃ z, K k = z := ⟨_, rfl⟩
        obtain ⟨y, hyy⟩ : ∃ y, N k = y := ⟨_, rfl⟩
        rw [hzz] at q1 q3
        rw [hyy] at q2 q4
        obtain ⟨WO, hWO⟩ : ∃ WO, WO = wr.alloc (.cells #[.int .i64 z, .int .i64 y] 43) := ⟨_, rfl⟩
        have hbo : Blk WO wr.heap.size 43 [.int .i64 z, .int .i64 y] := by rw [hWO]; exact blk_new wr _ _
        have hBO : Below wr.heap.size wr WO := by rw [hWO]; exact (Below.refl _ _).alloc (Nat.le_refl _) _
        have HW : Hid (wr.alloc (.cells #[.int .i64 z, .int .i64 y] 43) = WO) := hWO.symm
        have o0 : WO.cell? ⟨wr.heap.size, 0, none⟩ = some (.int .i64 z) := hbo.cell 0
        have o1 : WO.cell? ⟨wr.heap.size, 1, none⟩ = some (.int .i64 y) := hbo.cell 1
        have hsO : wr.heap.size < WO.heap.size := hbo.lt
        have HBO := Lib.hid hbo
        have HLO := Lib.hid hBO
        have HP := Lib.hid hp
        have HB := Lib.hid hb
        clear hc hzz hyy hWO hbo hBO hp hb
        by_cases hcut : (k : Int) = cut
        · subst hcut
          clear hv
          have CP := Lib.hid (copy_any w.heap.size s c mc mt WO (Blk.below HP.out.1 HLO.out hgl))
          have HBW := Lib.hid (HB.out.trans (HLO.out.mono hsz))
          have RO : Hid (∀ w2, Below WO.heap.size WO w2 → RAuB w2 w1.heap.size s c mc mt) := fun w2 hb => Blk.below (Blk.below HP.out.2.1 HLO.out hhl) hb (by omega)
          have OO : Hid (∀ w2, Below WO.heap.size WO w2 → Blk w2 wr.heap.size 43 [.int .i64 z, .int .i64 y]) := fun w2 hb => Blk.below HBO.out hb hsO
          go_upto_region 9 with (fail)
          rw [HW.out]
          clear HW
          go_wp2_with (go_at_call 28; ((with_reducible refine (CP.out).mono ?_); rintro e w3 ⟨rfl, a3, b3⟩; have r0 : w3.cell? ⟨w1.heap.size, 0, none⟩ = some (.int .i64 mc) := (RO.out w3 b3).cell 0; have r1 : w3.cell? ⟨w1.heap.size, 1, none⟩ = some (.int .i64 mt) := (RO.out w3 b3).cell 1; have r2 : w3.cell? ⟨w1.heap.size, 2, none⟩ = some (.int .i64 s) := (RO.out w3 b3).cell 2; have r3 : w3.cell? ⟨w1.heap.size, 3, none⟩ = some (.int .i64 c) := (RO.out w3 b3).cell 3; have A3 := Lib.hid a3; have B3 := Lib.hid b3; clear a3 b3))
          go_still_tail 17, (by kernel_rfl)
          have b3 := B3.out
          have el : wr.heap.size < w3.heap.size := by have := b3.size; omega
          have P1 : Hid (Calls Tryd.prog 29 #[.pointer (some ⟨w.heap.size, 0, none⟩), .pointer (some ⟨w1.heap.size, 0, none⟩), .agg #[.int .i64 z, .int .i64 y]] (w3.alloc (.cells #[.int .i64 mc, .int .i64 mt, .int .i64 s, .int .i64 c] 41)).drew
              fun e w' => ∃ A m cc, e = .returned (.tuple #[.slice A m cc, .bool true]) ∧ PlayJ w w' w.heap.size w1.heap.size mc mt (.pointer (some ⟨WO.heap.size, 0, none⟩)) (.pointer (some ⟨w3.heap.size, 0, none⟩)) ∧ w'.cell? ⟨wr.heap.size, 0, none⟩ = some (.int .i64 z) ∧ w'.cell? ⟨wr.heap.size, 1, none⟩ = some (.int .i64 y)) :=
            (PlayJ.copied (HP.out.later HLO.out) HBW.out A3.out b3).one_o hgh (Nat.le_refl _) sz1 HT.out b1.out b2.out wr.heap.size z y
              (((OO.out w3 b3).below ((Below.refl w3.heap.size w3).alloc (Nat.le_refl _) _) el).drewN 1) (by omega) (by omega)
          have e0 : w3.cell? ⟨wr.heap.size, 0, none⟩ = some (.int .i64 z) := (OO.out w3 b3).cell 0
          have e1 : w3.cell? ⟨wr.heap.size, 1, none⟩ = some (.int .i64 y) := (OO.out w3 b3).cell 1
          clear b3
          by_cases h3 : 0 < (k : Int) % 3
          · go_wp2_with (first
              | (go_at_call 29; ((with_reducible refine (P1.out).mono ?_); rintro e w5 ⟨A5, m5, cc5, rfl, x5, k50, k51⟩; have X5 := Lib.hid x5; clear x5))
              | (go_at_call 29; ((with_reducible refine (X5.out.two HT.out b1.out b2.out rfl rfl _ _).mono ?_); rintro e w6 ⟨A6, m6, cc6, rfl, x6⟩; have X6 := Lib.hid x6; clear x6)))
            go_roundw
            case rel => exact ⟨k + 1, by omega, by go_num, X6.out⟩
            case measure => simp [intOf]; omega
          · go_wp2_with ((go_at_call 29; ((with_reducible refine (P1.out).mono ?_); rintro e w5 ⟨A5, m5, cc5, rfl, x5, k50, k51⟩; have X5 := Lib.hid x5; clear x5)))
            go_roundw
            case rel => exact ⟨k + 1, by omega, by go_num, X5.out⟩
            case measure => simp [intOf]; omega
        · have tcut : ((k : Int) == cut) = false := by simpa using hcut
          rcases hv with ⟨rfl, P, rfl⟩ | hv
          · have XO : Hid (PlayJ w WO w.heap.size w1.heap.size mc mt (.pointer none) (.pointer P)) := PlayJ.later ⟨⟨s, c, HP.out⟩, HB.out, .inl ⟨rfl, P, rfl⟩⟩ HLO.out
            have P1 := Lib.hid (XO.out.one_o hgh (Nat.le_refl _) sz1 HT.out b1.out b2.out wr.heap.size z y HBO.out (by omega) (by omega))
            clear hcut
            go_upto_region 9 with (fail)
            rw [HW.out]
            clear HW
            go_wp2_with ((go_at_call 29; ((with_reducible refine (P1.out).mono ?_); rintro e w3 ⟨A3, m3, cc3, rfl, x3, k30, k31⟩; have X3 := Lib.hid x3; clear x3)))
            go_roundw
            case rel => exact ⟨k + 1, by omega, by go_num, X3.out⟩
            case measure => simp [intOf]; omega
          · obtain ⟨g2, h2, s2, c2, rfl, rfl, hr2⟩ := hv
            have XO : Hid (PlayJ w WO w.heap.size w1.heap.size mc mt (.pointer (some ⟨g2, 0, none⟩)) (.pointer (some ⟨h2, 0, none⟩))) := PlayJ.later ⟨⟨s, c, HP.out⟩, HB.out, .inr ⟨g2, h2, s2, c2, rfl, rfl, hr2⟩⟩ HLO.out
            have P1 := Lib.hid (XO.out.one_o hgh (Nat.le_refl _) sz1 HT.out b1.out b2.out wr.heap.size z y HBO.out (by omega) (by omega))
            clear hcut hr2
            by_cases h3 : 0 < (k : Int) % 3
            · go_upto_region 9 with (fail)
              rw [HW.out]
              clear HW
              go_wp2_with (first
                | (go_at_call 29; ((with_reducible refine (P1.out).mono ?_); rintro e w3 ⟨A3, m3, cc3, rfl, x3, k30, k31⟩; have X3 := Lib.hid x3; clear x3))
                | (go_at_call 29; ((with_reducible refine (X3.out.two HT.out b1.out b2.out rfl rfl _ _).mono ?_); rintro e w4 ⟨A4, m4, cc4, rfl, x4⟩; have X4 := Lib.hid x4; clear x4)))
              go_roundw
              case rel => exact ⟨k + 1, by omega, by go_num, X4.out⟩
              case measure => simp [intOf]; omega
            · go_upto_region 9 with (fail)
              rw [HW.out]
              clear HW
              go_wp2_with ((go_at_call 29; ((with_reducible refine (P1.out).mono ?_); rintro e w3 ⟨A3, m3, cc3, rfl, x3, k30, k31⟩; have X3 := Lib.hid x3; clear x3)))
              go_roundw
              case rel => exact ⟨k + 1, by omega, by go_num, X3.out⟩
              case measure => simp [intOf]; omega
      · have XR := Lib.hid (show PlayJ w wr w.heap.size w1.heap.size mc mt _ _ from ⟨⟨s, c, hp⟩, hb, hv⟩)
        by_cases hkn : k < n
        · obtain ⟨b, off, rfl, hbl, hc⟩ := (HR.out.below hb (Nat.le_refl _)) (by omega)
          obtain ⟨q1, q2, q3, q4⟩ := hc k hkn
          have hk2 : ¬ k < 1000 := fun h => hlt ⟨hkn, h⟩
          clear hc hp hb hv hlt
          go_wp2_with (go_at_call 21; ((with_reducible refine ((XR.out.later ((Below.refl wr.heap.size wr).alloc (Nat.le_refl _) _)).awake HT.out HN.out).mono ?_); rintro e w' ⟨rfl, hb⟩; have HB := Lib.hid hb; clear hb))
          go_ret
          exact ⟨rfl, HB.out⟩
        · clear hp hb hv hlt
          go_wp2_with (go_at_call 21; ((with_reducible refine (XR.out.awake HT.out HN.out).mono ?_); rintro e w' ⟨rfl, hb⟩; have HB := Lib.hid hb; clear hb))
          go_ret
          exact ⟨rfl, HB.out⟩
  · have NW := Lib.hid (new_no mc mt w hok)
    have RW := Lib.hid (rnew_no mc mt w hok)
    have AW := Lib.hid (awake_any w hT hNm)
    clear hok hr hT hNm
    go_enter Tryd.func6, Tryd.ntmps6
    go_wp2_with (first
      | (go_at_call 26; ((with_reducible refine NW.out.mono ?_); rintro e w1 ⟨rfl, rfl⟩))
      | (go_at_call 27; ((with_reducible refine RW.out.mono ?_); rintro e w1 ⟨rfl, rfl⟩))
      | (go_at_call 21; ((with_reducible refine AW.out.mono ?_); rintro e w' ⟨rfl, hb⟩; have HB := Lib.hid hb; clear hb)))
    go_ret
    exact ⟨rfl, HB.out⟩
end Go.Proofs.YtpkmddagcfjadaaDoor
