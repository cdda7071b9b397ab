/-
  tetherlaw04.Md5Copies: the walk.
-/
import Derived.Test.YtnlhjlmjbmaipaaDoorMdStm
namespace Go.Proofs.YtnlhjlmjbmaipaaDoor
open Go.RowKit Go.Shelf
set_option maxRecDepth 100000
set_option maxHeartbeats 4000000
set_option linter.unusedSimpArgs false
set_option linter.unusedVariables false

/-- two streams of the call's own -/
structure Two (w W : World) (g h : Nat) (ls lt : List UInt8) (v u : Value) : Prop where
  s : Stm W w.heap.size g ls v
  t : Stm W w.heap.size h lt u
  bel : Below w.heap.size w W
theorem Two.later {w W W' : World} {g h : Nat} {ls lt : List UInt8} {v u : Value} (x : Two w W g h ls lt v u) (hB : Below W.heap.size W W') : Two w W' g h ls lt v u :=
  ⟨x.s.later hB, x.t.later hB, x.bel.trans (hB.mono x.bel.size)⟩
theorem frm_base {w W W' : World} {base g : Nat} {l : List UInt8} {v v' : Value} (h : Stm W base g l v) (f : Frm g v v' W W') (hb : base ≤ W.heap.size) (hg : base ≤ g) : Below base W W' := f.below hb hg (fun k e => (h.ownB k e).1)

theorem md5copies_walk (A0 A1 A2 : Option Addr) (n0 c0 n1 c1 n2 c2 : Nat) (l0 l1 l2 : List UInt8) (w : World) (r0 : Rd w w.heap.size A0 n0 l0) (r1 : Rd w w.heap.size A1 n1 l1) (r2 : Rd w w.heap.size A2 n2 l2)
    (z0 : A0 = none → c0 = 0) (z1 : A1 = none → c1 = 0) (z2 : A2 = none → c2 = 0) (m0 : n0 ≤ c0) (m1 : n1 ≤ c1) (m2 : n2 ≤ c2) (q0 : n0 ≤ 1048576) (q1 : n1 ≤ 1048576) (q2 : n2 ≤ 1048576) (hK : TabK w) (hS : TabS w) :
    Calls Tryd.prog 4 #[.slice A0 n0 c0, .slice A1 n1 c1, .slice A2 n2 c2] w fun e w' => e = .returned (.bool true) ∧ Below w.heap.size w w' := by
  have hk0 : 0 < w.heap.size := World.block_lt_of_cell? _ _ (hK 0 (by omega))
  have hs0 : 1 < w.heap.size := World.block_lt_of_cell? _ _ (hS 0 (by omega))
  have L0 : Hid (l0.length = n0) := r0.1
  have L1 : Hid (l1.length = n1) := r1.1
  have L2 : Hid (l2.length = n2) := r2.1
  have R0 := Lib.hid r0
  have R1 := Lib.hid r1
  have R2 := Lib.hid r2
  have HK := Lib.hid hK
  have HS := Lib.hid hS
  have AT0 := Lib.hid (rd_at r0 (Nat.le_refl _))
  have AT1 := Lib.hid (rd_at r1 (Nat.le_refl _))
  have AT2 := Lib.hid (rd_at r2 (Nat.le_refl _))
  clear r0 r1 r2 hK hS
  go_enter Tryd.func4, Tryd.ntmps4
  go_wp2_with fail
  refine (new_stm _).mono ?_
  rintro e w1 ⟨rfl, st1, b1⟩
  have hb1 := b1.size
  have W1 := Lib.hid (write_stm w.heap.size w.heap.size n0 c0 w.heap.size [] l0 _ A0 w1 st1 (R0.out.later (Nat.le_refl _) b1) hb1 m0 z0 (fun x o e h0 => ⟨by have := AT0.out x o e h0; omega, by simp [Value.ownBlock]⟩) (by simp; omega) hb1 (Nat.le_refl _) (HK.out.keptB b1 hk0) (HS.out.keptB b1 hs0) hk0 hs0)
  have S1 := Lib.hid st1
  have B1 := Lib.hid b1
  clear st1 b1
  go_wp2_with fail
  refine W1.out.mono ?_
  rintro e w2 ⟨rfl, v1, st2, f2⟩
  rw [List.nil_append] at st2
  have b2 : Below w.heap.size w w2 := B1.out.trans (frm_base (w := w) S1.out f2 hb1 (Nat.le_refl _))
  have hb2 := b2.size
  have C2 := Lib.hid (scopy_any w.heap.size w.heap.size l0 v1 w2 st2 hb2 (by rw [L0.out]; omega))
  have B2 := Lib.hid b2
  have S2 := Lib.hid st2
  clear st2 f2 b2
  go_wp2_with fail
  refine C2.out.mono ?_
  rintro e w3 ⟨u1, rfl, st3, b3, hu1⟩
  have hb3 := b3.size
  have hh := S2.out.lt
  have B3 := Lib.hid (B2.out.trans (b3.mono hb2))
  have SS3 := Lib.hid (S2.out.later b3)
  have ST3 := Lib.hid st3
  have HU1 := Lib.hid hu1
  have W3 := Lib.hid (write_stm w.heap.size w.heap.size n1 c1 w.heap.size l0 l1 v1 A1 w3 SS3.out (R1.out.later (Nat.le_refl _) B3.out) (by omega) m1 z1 (fun x o e h0 => ⟨by have := AT1.out x o e h0; omega, fun e' => by have := (SS3.out.ownB x e').1; have := AT1.out x o e h0; omega⟩) (by rw [L0.out]; omega) (by omega) (Nat.le_refl _) (HK.out.keptB B3.out hk0) (HS.out.keptB B3.out hs0) hk0 hs0)
  have V1 := Lib.hid (fun k e => (S2.out.ownB k e).2)
  clear st3 b3 hu1
  go_wp2_with fail
  refine W3.out.mono ?_
  rintro e w4 ⟨rfl, v2, st4, f4⟩
  have hb4 := f4.size
  have B4 := Lib.hid (B3.out.trans (frm_base (w := w) SS3.out f4 (by omega) (Nat.le_refl _)))
  have ST4 := Lib.hid (ST3.out.frm f4 (by omega) (fun e => by have := V1.out _ e; omega) (fun e => by have := HU1.out _ e; omega) (fun k e e' => by have := HU1.out k e; have := V1.out k e'; omega))
  have V2 : Hid (∀ k, v2.ownBlock = some k → k < w2.heap.size ∨ w3.heap.size ≤ k) := by
    show ∀ k, _
    intro k e
    rcases f4.own with e' | ⟨j, e', hj⟩
    · exact .inl (V1.out k (e'.symm.trans e))
    · rw [e'] at e
      cases e
      exact .inr hj
  have U1 := Lib.hid (fun k e => (ST3.out.ownB k e).2)
  have SS4 := Lib.hid st4
  have W4 := Lib.hid (write_stm w.heap.size w2.heap.size n2 c2 w.heap.size l0 l2 u1 A2 w4 ST4.out (R2.out.later (Nat.le_refl _) B4.out) (by omega) m2 z2 (fun x o e h0 => ⟨by have := AT2.out x o e h0; omega, fun e' => by have := (ST4.out.ownB x e').1; have := AT2.out x o e h0; omega⟩) (by rw [L0.out]; omega) (by omega) (by omega) (HK.out.keptB B4.out hk0) (HS.out.keptB B4.out hs0) hk0 hs0)
  have ST4lt := ST3.out.lt
  clear st4 f4
  go_wp2_with fail
  refine W4.out.mono ?_
  rintro e w5 ⟨rfl, u2, st5, f5⟩
  have hb5 := f5.size
  have B5 := Lib.hid (B4.out.trans (frm_base (w := w) ST4.out f5 (by omega) (by omega)))
  have SS5 := Lib.hid (SS4.out.frm f5 (by omega) (fun e => by have := HU1.out _ e; omega) (fun e => by have := V2.out _ e; omega) (fun k e e' => by have := V2.out k e; have := U1.out k e'; have := HU1.out k e'; omega))
  have ST5 := Lib.hid st5
  clear st5 f5
  -- the two texts
  obtain ⟨x1, w6, rx1, ox1, gx1, bx1⟩ := append_run (Own.nil w5 w5.heap.size) c0 (R0.out.later (Nat.le_refl _) B5.out) z0 (by simp; omega) (Nat.le_refl _)
  have b56 : Below w5.heap.size w5 w6 := (Below.refl _ _).grown gx1 (Nat.le_refl _) (by simp [Value.ownBlock])
  rw [List.nil_append] at ox1
  obtain ⟨x2, w7, rx2, ox2, gx2, bx2⟩ := append_run ox1 c1 (R1.out.later (Nat.le_refl _) (B5.out.trans (b56.mono (by omega)))) z1 (by rw [L0.out]; omega) b56.size
  have b57 : Below w5.heap.size w5 w7 := below_own b56 ox1 gx2 (Nat.le_refl _) b56.size
  obtain ⟨y1, w8, ry1, oy1, gy1, by1⟩ := append_run (Own.nil w7 w7.heap.size) c0 (R0.out.later (Nat.le_refl _) (B5.out.trans (b57.mono (by omega)))) z0 (by simp; omega) (Nat.le_refl _)
  have b78 : Below w7.heap.size w7 w8 := (Below.refl _ _).grown gy1 (Nat.le_refl _) (by simp [Value.ownBlock])
  rw [List.nil_append] at oy1
  have b58 : Below w5.heap.size w5 w8 := b57.trans (b78.mono b57.size)
  obtain ⟨y2, w9, ry2, oy2, gy2, by2⟩ := append_run oy1 c2 (R2.out.later (Nat.le_refl _) (B5.out.trans (b58.mono (by omega)))) z2 (by rw [L0.out]; omega) b78.size
  have b79 : Below w7.heap.size w7 w9 := below_own b78 oy1 gy2 (Nat.le_refl _) b78.size
  have b59 : Below w5.heap.size w5 w9 := b57.trans (b79.mono b57.size)
  have ox9 := ox2.later b79
  have hb9 := b59.size
  have B9 := Lib.hid (B5.out.trans (b59.mono (by omega)))
  have SS9 := Lib.hid (SS5.out.later b59)
  have ST9 := Lib.hid (ST5.out.later b59)
  obtain ⟨Ax, cx, ex, hrx, hcx, hzx⟩ := own_slice ox9
  obtain ⟨Ay, cy, ey, hry, hcy, hzy⟩ := own_slice oy2
  obtain ⟨lx, hlx⟩ : ∃ lx, lx = l0 ++ l1 := ⟨_, rfl⟩
  obtain ⟨ly, hly⟩ : ∃ ly, ly = l0 ++ l2 := ⟨_, rfl⟩
  have hnx : lx.length ≤ 2097152 := by rw [hlx, List.length_append, L0.out, L1.out]; omega
  have hny : ly.length ≤ 2097152 := by rw [hly, List.length_append, L0.out, L2.out]; omega
  rw [← hlx] at ex hrx hcx SS9
  rw [← hly] at ey hry hcy ST9
  subst ex ey
  obtain ⟨nx, hnx0⟩ : ∃ nx, nx = lx.length := ⟨_, rfl⟩
  obtain ⟨ny, hny0⟩ : ∃ ny, ny = ly.length := ⟨_, rfl⟩
  rw [← hnx0] at rx2 hrx hcx hnx
  rw [← hny0] at ry2 hry hcy hny
  have RX1 := Lib.hid rx1
  have RX2 := Lib.hid rx2
  have RY1 := Lib.hid ry1
  have RY2 := Lib.hid ry2
  have HRX := Lib.hid hrx
  have HRY := Lib.hid hry
  have NX := Lib.hid hnx0
  have NY := Lib.hid hny0
  clear rx1 rx2 ry1 ry2 ox1 ox2 oy1 oy2 gx1 gx2 gy1 gy2 bx1 bx2 by1 by2 b56 b57 b78 b58 b79 b59 ox9 hlx hly hrx hry hnx0 hny0
  go_wp2_with (first
    | (at_builtin; refine wpList_app rfl (.tmp 36) (.tmp 37) rfl _ _ rfl rfl _ _ RX1.out ?_)
    | (at_builtin; refine wpList_app rfl (.tmp 39) (.tmp 40) rfl _ _ rfl rfl _ _ RX2.out ?_)
    | (at_builtin; refine wpList_app rfl (.tmp 42) (.tmp 43) rfl _ _ rfl rfl _ _ RY1.out ?_)
    | (at_builtin; refine wpList_app rfl (.tmp 45) (.tmp 46) rfl _ _ rfl rfl _ _ RY2.out ?_))
  obtain ⟨Vx, hVx⟩ : ∃ V, V = digW lx := ⟨_, rfl⟩
  obtain ⟨Vy, hVy⟩ : ∃ V, V = digW ly := ⟨_, rfl⟩
  have EX := fun W => eq16_same Vx W
  have EY := fun W => eq16_same Vy W
  have HVx := Lib.hid hVx
  have HVy := Lib.hid hVy
  clear hVx hVy
  have SA := Lib.hid (ssum_stm w.heap.size w.heap.size lx v2 w9 SS9.out (by have := NX.out; omega) (HK.out.keptB B9.out hk0) (HS.out.keptB B9.out hs0))
  rw [← HVx.out] at SA
  refine SA.out.mono ?_
  rintro e w10 ⟨rfl, b10⟩
  have D10 := Lib.hid b10
  have hd10 := b10.size
  have B10 := Lib.hid (B9.out.trans (b10.mono (by omega)))
  have RA := Lib.hid (rsum_any Ax nx cx w9.heap.size lx w10 (HRX.out.later (Nat.le_refl _) b10) hd10 hzx (by omega))
  rw [show mdOver (mdPad lx) ((mdPad lx).length / 64) = Vx from HVx.out.symm] at RA
  clear b10
  go_wp2_with fail
  refine RA.out.mono ?_
  rintro e w11 ⟨rfl, b11⟩
  have D11 := Lib.hid (D10.out.trans (b11.mono hd10))
  have hd11 := D11.out.size
  have B11 := Lib.hid (B9.out.trans (D11.out.mono (by omega)))
  have SB := Lib.hid (ssum_stm w.heap.size w2.heap.size ly u2 w11 (ST9.out.later D11.out) (by have := NY.out; omega) (HK.out.keptB B11.out hk0) (HS.out.keptB B11.out hs0))
  rw [← HVy.out] at SB
  clear b11
  go_wp2_with fail
  refine SB.out.mono ?_
  rintro e w12 ⟨rfl, b12⟩
  have D12 := Lib.hid (D11.out.trans (b12.mono hd11))
  have hd12 := D12.out.size
  have RB := Lib.hid (rsum_any Ay ny cy w9.heap.size ly w12 (HRY.out.later (Nat.le_refl _) D12.out) hd12 hzy (by omega))
  rw [show mdOver (mdPad ly) ((mdPad ly).length / 64) = Vy from HVy.out.symm] at RB
  clear b12
  go_wp2_with fail
  refine RB.out.mono ?_
  rintro e w13 ⟨rfl, b13⟩
  have D13 := Lib.hid (D12.out.trans (b13.mono hd12))
  have hd13 := D13.out.size
  have PA := Lib.hid (blocks_stm w.heap.size w.heap.size (9 + nx) lx v2 w13 (SS9.out.later D13.out) (by omega) (by omega) (by have := NX.out; omega))
  rw [show (wordsAll lx).take (9 + nx) = wordsAll lx from List.take_of_length_le (by rw [wordsAll_length]; have := NX.out; omega)] at PA
  clear b13
  go_wp2_with fail
  refine PA.out.mono ?_
  rintro e w14 ⟨P1, p1, pc1, rfl, ho14, hn14, b14⟩
  have D14 := Lib.hid (D13.out.trans (b14.mono hd13))
  have hd14 := D14.out.size
  have QA := Lib.hid (rblocks_sl Ax nx cx w9.heap.size lx w14 (HRX.out.later (Nat.le_refl _) D14.out) hd14 hcx hzx (by omega))
  have HO14 := Lib.hid ho14
  have HN14 := Lib.hid hn14
  clear b14 ho14 hn14
  go_wp2_with fail
  refine QA.out.mono ?_
  rintro e w15 ⟨P2, p2, pc2, rfl, ho15, hn15, _, b15⟩
  have D15 := Lib.hid (D14.out.trans (b15.mono hd14))
  have hd15 := D15.out.size
  have hp12 : p2 = p1 := hn15.trans HN14.out.symm
  subst hp12
  have AA := Lib.hid (alike_yes P1 P2 p2 pc1 pc2 (wordsAll lx) w15 ((HO14.out.rd).later b15) ho15.rd (by rw [HN14.out, wordsAll_length]; have := NX.out; omega))
  clear b15 ho15 hn15
  go_wp2_with fail
  refine AA.out.mono ?_
  rintro e w16 ⟨rfl, qq, hw16⟩
  have b16 : Below w15.heap.size w15 w16 := by rw [hw16]; exact below_drewN (Below.refl _ _) qq
  clear hw16
  have D16 := Lib.hid (D15.out.trans (b16.mono hd15))
  have hd16 := D16.out.size
  have PB := Lib.hid (blocks_stm w.heap.size w2.heap.size (9 + ny) ly u2 w16 (ST9.out.later D16.out) (by omega) (by omega) (by have := NY.out; omega))
  rw [show (wordsAll ly).take (9 + ny) = wordsAll ly from List.take_of_length_le (by rw [wordsAll_length]; have := NY.out; omega)] at PB
  clear b16
  go_wp2_with fail
  refine PB.out.mono ?_
  rintro e w17 ⟨P3, p3, pc3, rfl, ho17, hn17, b17⟩
  have D17 := Lib.hid (D16.out.trans (b17.mono hd16))
  have hd17 := D17.out.size
  have QB := Lib.hid (rblocks_sl Ay ny cy w9.heap.size ly w17 (HRY.out.later (Nat.le_refl _) D17.out) hd17 hcy hzy (by omega))
  have HO17 := Lib.hid ho17
  have HN17 := Lib.hid hn17
  clear b17 ho17 hn17
  go_wp2_with fail
  refine QB.out.mono ?_
  rintro e w18 ⟨P4, p4, pc4, rfl, ho18, hn18, _, b18⟩
  have D18 := Lib.hid (D17.out.trans (b18.mono hd17))
  have hd18 := D18.out.size
  have hp34 : p4 = p3 := hn18.trans HN17.out.symm
  subst hp34
  have AB := Lib.hid (alike_yes P3 P4 p4 pc3 pc4 (wordsAll ly) w18 ((HO17.out.rd).later b18) ho18.rd (by rw [HN17.out, wordsAll_length]; have := NY.out; omega))
  clear b18 ho18 hn18
  go_wp2_with fail
  refine AB.out.mono ?_
  rintro e w19 ⟨rfl, qq2, hw19⟩
  have b19 : Below w18.heap.size w18 w19 := by rw [hw19]; exact below_drewN (Below.refl _ _) qq2
  clear hw19
  have D19 := Lib.hid (D18.out.trans (b19.mono hd18))
  have hd19 := D19.out.size
  have B19 := Lib.hid (B9.out.trans (D19.out.mono (by omega)))
  have AW := Lib.hid (awake_yes w19 (HK.out.keptB B19.out hk0) (HS.out.keptB B19.out hs0))
  clear b19
  go_wp2_with fail
  refine AW.out.mono ?_
  rintro e w20 ⟨rfl, b20⟩
  have B20 := Lib.hid (B19.out.trans (b20.mono (by have := B19.out.size; omega)))
  clear b20
  go_wp2
  go_ret
  exact ⟨rfl, B20.out⟩
end Go.Proofs.YtnlhjlmjbmaipaaDoor
