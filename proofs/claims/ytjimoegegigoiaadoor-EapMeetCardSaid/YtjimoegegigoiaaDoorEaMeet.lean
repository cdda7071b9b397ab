/-
  EapMeet: nobody has a word (written by gen_eameet3.py).
  EapMeet: unlike words (written by gen_eameet3.py).
  EapMeet: like words (written by gen_eameet3.py).
  EapMeet: all ways together (written by gen_eameet3.py).
-/
import Derived.Test.YtjimoegegigoiaaDoorEaMtK
import Derived.LoopTactic
namespace Go.Proofs.YtjimoegegigoiaaDoor
open Go.RowKit Go.Shelf
set_option maxRecDepth 100000
set_option maxHeartbeats 4000000
set_option linter.unusedSimpArgs false
set_option linter.unusedVariables false

theorem eapmeet_none (name server : ByteArray) (A2 : Option Addr) (n2 c2 : Nat) (A3 : Option Addr) (n3 c3 : Nat) (A4 : Option Addr) (n4 c4 : Nat) (A5 : Option Addr) (n5 c5 : Nat) (ss mm : List Sec) (one two : List UInt8) (w : World) (hn0 : name.size ≤ 140737488351232) (hn1 : server.size ≤ 140737488351232) (hs : SecRd w w.heap.size A2 n2 ss) (hm : SecRd w w.heap.size A3 n3 mm) (hr4 : Rd w w.heap.size A4 n4 one) (z4 : A4 = none → c4 = 0) (hr5 : Rd w w.heap.size A5 n5 two) (z5 : A5 = none → c5 = 0) (hK : TabK w) (hS : TabS w) (hsv : nameB server = true) (hck : (chk ss).1 = 0) (hnm : nameB name = true) (hmk : (chk mm).1 = 0) (h41 : 1 ≤ n4) (h42 : n4 ≤ 255) (h51 : 1 ≤ n5) (h52 : n5 ≤ 255) (hway : wdB ss (bst ss name server) = false) : Calls Tryd.prog 5 #[.string name, .string server, .slice A2 n2 c2, .slice A3 n3 c3, .slice A4 n4 c4, .slice A5 n5 c5] w fun e w' => e = .returned (.bool true) ∧ Below w.heap.size w w' := by
  obtain ⟨wx, hwx⟩ : ∃ wx, wdS ss (bst ss name server) = wx := ⟨_, rfl⟩
  obtain ⟨wy, hwy⟩ : ∃ wy, wdS mm (bst mm name server) = wy := ⟨_, rfl⟩
  have C0 : Hid (Calls Tryd.prog 19 #[.string server, .slice A2 n2 c2, .int .i64 5] w fun e w1 => ∃ g1, e = .returned (.tuple #[.pointer (some ⟨g1, 0, none⟩), .int .i64 0, .int .i64 0]) ∧
      Calls Tryd.prog 27 #[.string name, .slice A3 n3 c3] w1 fun e w2 => ∃ g2, e = .returned (.tuple #[.pointer (some ⟨g2, 0, none⟩), .int .i64 0, .int .i64 0]) ∧
      Calls Tryd.prog 20 #[.pointer (some ⟨g1, 0, none⟩)] w2 fun e w3 => ∃ D1 k1 d1, e = .returned (.tuple #[.agg #[.int .i64 1, .int .i64 1, .slice D1 k1 d1], .int .i64 0]) ∧ ∃ V3, w3.alloc (.cells #[.int .i64 1, .int .i64 1, .slice D1 k1 d1] 24) = V3 ∧ Blk V3 w3.heap.size 24 [.int .i64 1, .int .i64 1, .slice D1 k1 d1] ∧
      Calls Tryd.prog 28 #[.pointer (some ⟨g2, 0, none⟩), .agg #[.int .i64 1, .int .i64 1, .slice D1 k1 d1]] V3 fun e w4 => ∃ Db kb db, e = .returned (.tuple #[.agg #[.int .i64 2, .int .i64 1, .slice Db kb db], .bool true, .int .i64 0]) ∧ ∃ V4, w4.alloc (.cells #[.int .i64 2, .int .i64 1, .slice Db kb db] 24) = V4 ∧ Calls Tryd.prog 22 #[.slice A2 n2 c2, .string name, .string server] V4 fun e w5 => ∃ x1 x2 Ex mx kx b, e = .returned (.tuple #[.agg #[.string x1, .string x2, .string wx, .slice Ex mx kx], .bool b]) ∧ ∃ V5, w5.alloc (.cells #[.string x1, .string x2, .string wx, .slice Ex mx kx] 50) = V5 ∧
      Calls Tryd.prog 22 #[.slice A3 n3 c3, .string name, .string server] V5 fun e w6 => ∃ y1 y2 Ey my ky b, e = .returned (.tuple #[.agg #[.string y1, .string y2, .string wy, .slice Ey my ky], .bool b]) ∧ ∃ V6, w6.alloc (.cells #[.string y1, .string y2, .string wy, .slice Ey my ky] 50) = V6 ∧ ∃ lo1 tb1 lo2 tb2, MeetI w V6 lo1 g1 tb1 lo2 g2 tb2 w4.heap.size w5.heap.size w6.heap.size name server wx wy ss mm s1 1 1 (dtL 2 1 [] name)) := by
    refine (newServer_any server 5 A2 n2 c2 w.heap.size ss w (by unfold maxLen; omega) hs (Nat.le_refl _) hK hS).mono ?_
    rintro e w1 ⟨b1, ⟨h, -⟩ | ⟨-, h, -⟩ | ⟨-, -, h, -⟩ | ⟨-, -, -, g1, tb1, l1, l1', rfl, hs1⟩⟩
    · rw [hsv] at h; cases h
    · cases h
    · exact absurd hck h
    refine ⟨g1, rfl, ?_⟩
    refine (newPeer_any name A3 n3 c3 w.heap.size mm w1 (by unfold maxLen; omega) (hm.below b1 (Nat.le_refl _)) b1.size (hK.kept b1) (hS.kept b1)).mono ?_
    rintro e w2 ⟨b2, ⟨h, -⟩ | ⟨-, h, -⟩ | ⟨-, -, g2, tb2, l2, l2', rfl, hp2⟩⟩
    · rw [hnm] at h; cases h
    · exact absurd hmk h
    have B2 := step_to b1 b2
    have hs2 := hs1.later b2
    have lg1 := hs1.lt
    have lg2 := hp2.lt
    have z1 := b1.size
    have z2 := b2.size
    refine ⟨g2, rfl, ?_⟩
    refine (start_any w.heap.size g1 tb1 server 5 ss sv0 w2 hs2 (by decide) (by decide)).mono ?_
    rintro e w3 ⟨v, rfl, D1, k1, d1, hv, o1, G3, hs3, _⟩
    rw [ex_s1] at o1 hs3 hv
    injection hv with hv
    subst hv
    obtain ⟨E, m, f, kb2, _⟩ := hs2.blk
    have hp3 := hp2.beside kb2 (by omega) G3
    have B3 := below_row B2 G3 (by omega)
    obtain ⟨V3, hV3⟩ : ∃ V3, w3.alloc (.cells #[.int .i64 1, .int .i64 1, .slice D1 k1 d1] 24) = V3 := ⟨_, rfl⟩
    have bV3 : Below w3.heap.size w3 V3 := by rw [← hV3]; exact (Below.refl _ _).alloc (Nat.le_refl _) _
    have nV3 : Blk V3 w3.heap.size 24 [.int .i64 1, .int .i64 1, .slice D1 k1 d1] := by rw [← hV3]; exact heap_alloc_new w3 _
    have BV3 := step_to B3 bV3
    have rV1 := own_rd (o1.later bV3)
    have hsV3 := hs3.later bV3
    have hpV3 := hp3.later bV3
    have z3 := G3.size
    have zV3 := bV3.size
    refine ⟨D1, k1, d1, rfl, V3, hV3, nV3, ?_⟩
    have ea : ptE 1 1 [1] = 0 ∧ paS mm name 0 1 [1] = 1 ∧ paL mm name 1 1 [1] = dtL 2 1 [] name := by
      refine ⟨by decide, ?_, ?_⟩
      · unfold paS
        rw [if_pos rfl, if_pos (by decide)]
      · unfold paL
        rw [if_pos rfl, if_pos (by decide)]
    have PT := ptake_any w1.heap.size g2 tb2 name mm 0 ⟨#[]⟩ 1 1 D1 k1 d1 V3.heap.size [1] V3 hpV3 (name_le hnm) rV1.1 (Nat.le_refl _) (by rw [← rV1.1.1]; decide) ea.1
    rw [ea.2.1, ea.2.2] at PT
    refine PT.mono ?_
    rintro e w4 ⟨Db, kb, db, rfl, o2, G4, hp4⟩
    have hs4 := hsV3.beside hpV3.blk (by omega) G4
    have B4 := below_row BV3 G4 (by omega)
    obtain ⟨V4, hV4⟩ : ∃ V4, w4.alloc (.cells #[.int .i64 2, .int .i64 1, .slice Db kb db] 24) = V4 := ⟨_, rfl⟩
    have bV4 : Below w4.heap.size w4 V4 := by rw [← hV4]; exact (Below.refl _ _).alloc (Nat.le_refl _) _
    have nV4 : Blk V4 w4.heap.size 24 [.int .i64 2, .int .i64 1, .slice Db kb db] := by rw [← hV4]; exact heap_alloc_new w4 _
    have BV4 := step_to B4 bV4
    have hsV4 := hs4.later bV4
    have hpV4 := hp4.later bV4
    have z4' := G4.size
    have z4'' := bV4.size
    refine ⟨Db, kb, db, rfl, V4, hV4, ?_⟩
    have F1 := find_pre name server A2 n2 c2 ss w V4 hs BV4
    rw [hwx] at F1
    refine F1.mono ?_
    rintro e w5 ⟨x1, x2, Ex, mx, kx, b, rfl, b5⟩
    obtain ⟨V5, hV5⟩ : ∃ V5, w5.alloc (.cells #[.string x1, .string x2, .string wx, .slice Ex mx kx] 50) = V5 := ⟨_, rfl⟩
    have bV5 : Below w5.heap.size w5 V5 := by rw [← hV5]; exact (Below.refl _ _).alloc (Nat.le_refl _) _
    have nV5 : Blk V5 w5.heap.size 50 [.string x1, .string x2, .string wx, .slice Ex mx kx] := by rw [← hV5]; exact heap_alloc_new w5 _
    have b45 := step_to b5 bV5
    have BV5 := step_to BV4 b45
    refine ⟨x1, x2, Ex, mx, kx, b, rfl, V5, hV5, ?_⟩
    have F2 := find_pre name server A3 n3 c3 mm w V5 hm BV5
    rw [hwy] at F2
    refine F2.mono ?_
    rintro e w6 ⟨y1, y2, Ey, my, ky, b', rfl, b6⟩
    obtain ⟨V6, hV6⟩ : ∃ V6, w6.alloc (.cells #[.string y1, .string y2, .string wy, .slice Ey my ky] 50) = V6 := ⟨_, rfl⟩
    have bV6 : Below w6.heap.size w6 V6 := by rw [← hV6]; exact (Below.refl _ _).alloc (Nat.le_refl _) _
    have nV6 : Blk V6 w6.heap.size 50 [.string y1, .string y2, .string wy, .slice Ey my ky] := by rw [← hV6]; exact heap_alloc_new w6 _
    have b56 := step_to b6 bV6
    have b46 := step_to b45 b56
    exact ⟨y1, y2, Ey, my, ky, b', rfl, V6, hV6, w.heap.size, tb1, w1.heap.size, tb2, ⟨hsV4.later b46, ⟨_, hpV4.later b46⟩, ⟨Db, kb, db, past_same nV4 b46, eown_wide ((o2.later bV4).later b46) (Nat.zero_le _)⟩, ⟨x1, x2, Ex, mx, kx, past_same nV5 b56⟩, ⟨y1, y2, Ey, my, ky, nV6⟩, step_to BV4 b46, by omega, by omega, by omega⟩⟩
  have HX := Lib.hid hway
  have ew : wx.toList.isEmpty = true := by rw [← hwx]; exact wd_none hway
  have HG := Lib.hid (And.intro hnm (And.intro hsv (And.intro h41 (And.intro h42 (And.intro h51 h52)))))
  have HR4 := Lib.hid (And.intro hr4 z4)
  have HR5 := Lib.hid (And.intro hr5 z5)
  have HK := Lib.hid (And.intro hK hS)
  have f1 : ¬ (n4 : Int) < 1 := by omega
  have f2 : ¬ (255 : Int) < (n4 : Int) := by omega
  have f3 : ¬ (n5 : Int) < 1 := by omega
  have f4 : ¬ (255 : Int) < (n5 : Int) := by omega
  have NN : (name.toList == name.toList) = true := by simp
  clear hs hm hr4 z4 hr5 z5 hK hS hn0 hn1 hsv hck hnm hmk h41 h42 h51 h52 hwx hwy hway
  go_enter Tryd.func5, Tryd.ntmps5
  go_wp2_with (first
    | (go_at_call 19; ((with_reducible refine C0.out.mono ?_); rintro e w1 ⟨g1, rfl, n1⟩; have C1 := Lib.hid n1; clear n1))
    | (go_at_call 27; ((with_reducible refine C1.out.mono ?_); rintro e w2 ⟨g2, rfl, n1⟩; have C2 := Lib.hid n1; clear n1))
    | (go_at_call 20; ((with_reducible refine C2.out.mono ?_); rintro e w3 ⟨D1, k1, d1, rfl, V3, hV3, p3, n1⟩; have HV3 := Lib.hid hV3; have a0 := p3.cell 0; have a1 := p3.cell 1; have a2 := p3.cell 2; have C3 := Lib.hid n1; clear hV3 p3 n1))
    | (rw [HV3.out])
    | (go_at_call 28; ((with_reducible refine C3.out.mono ?_); rintro e w4 ⟨Db, kb, db, rfl, V4, hV4, n1⟩; have HV4 := Lib.hid hV4; have C4 := Lib.hid n1; clear hV4 n1))
    | (rw [HV4.out])
    | (go_at_call 22; ((with_reducible refine C4.out.mono ?_); rintro e w5 ⟨x1, x2, Ex, mx, kx, b, rfl, V5, hV5, n1⟩; have HV5 := Lib.hid hV5; have C5 := Lib.hid n1; clear hV5 n1))
    | (rw [HV5.out])
    | (go_at_call 22; ((with_reducible refine C5.out.mono ?_); rintro e w6 ⟨y1, y2, Ey, my, ky, b', rfl, V6, hV6, lo1, tb1, lo2, tb2, mi⟩; have HV6 := Lib.hid hV6; have MI := Lib.hid mi; clear hV6 mi))
    | (rw [HV6.out]))
  go_loopw [4, 28] (fun v i wr => ∃ z : Int, (z = 0 ∨ z = 1 ∨ z = 2) ∧ i = .int .i64 z ∧ MeetK w lo1 g1 tb1 lo2 g2 tb2 w4.heap.size w5.heap.size w6.heap.size name server wx wy ss mm A4 n4 c4 A5 n5 c5 one z v wr) (fun _ i _ => (2 - intOf i).toNat)
  case atStart => exact ⟨0, .inl rfl, rfl, fun _ => ⟨rfl, MI.out⟩, (fun h => absurd h (by decide)), (fun h => absurd h (by decide))⟩
  case round =>
    obtain ⟨z, hz, rfl, hJ⟩ := hrel
    rcases hz with rfl | rfl | rfl
    · obtain ⟨rfl, mi0⟩ := hJ.1 rfl
      clear hJ
      rename World => wr
      obtain ⟨Db', kb', db', x1', x2', Ex', mx', kx', y', nb, nx, ct⟩ := round0_none w wr lo1 g1 tb1 lo2 g2 tb2 w4.heap.size w5.heap.size w6.heap.size name server wx wy ss mm A4 n4 c4 one HG.out.1 HG.out.2.1 HR4.out.1 HR4.out.2 HG.out.2.2.1 HG.out.2.2.2.1 mi0 HX.out
      have CT := Lib.hid ct
      have b0 := nb.cell 0
      have b1 := nb.cell 1
      have b2 := nb.cell 2
      clear ct nb mi0 nx
      go_wp2_with (first
        | (go_at_call 21; ((with_reducible refine CT.out.mono ?_); rintro e w7 ⟨D1, k1, d1, rfl, V7, hV7, n7, nx7, st7, aw7⟩; have HV7 := Lib.hid hV7; have c0 := n7.cell 0; have c1 := n7.cell 1; have c2 := n7.cell 2; have x7 := nx7.cell 2; have SS := Lib.hid st7; have AW := Lib.hid aw7; clear hV7 n7 nx7 st7 aw7))
        | (rw [HV7.out])
        | (go_at_call 24; ((with_reducible refine SS.out.mono ?_); rintro e w' ⟨rfl, rfl⟩))
        | (go_at_call 18; ((with_reducible refine AW.out.mono ?_); rintro e w9' ⟨rfl, b4⟩; have F := Lib.hid b4; clear b4)))
      go_ret
      exact ⟨rfl, F.out⟩
    · obtain ⟨-, ⟨hc, -⟩, -⟩ := hJ.2.1 rfl
      rw [HX.out] at hc
      cases hc
    · have hb := hJ.2.2 rfl
      clear hJ
      rename World => wr
      have AWr : Hid (Calls Tryd.prog 18 #[] wr fun e w' => e = .returned (.bool true) ∧ Below w.heap.size w w') := (awake_any wr (HK.out.1.kept hb) (HK.out.2.kept hb)).mono fun e w' hh => ⟨hh.1, step_to hb hh.2⟩
      clear hb
      go_wp2_with (go_at_call 18; ((with_reducible refine AWr.out.mono ?_); rintro e w9' ⟨rfl, b4⟩; have F := Lib.hid b4; clear b4))
      go_ret
      exact ⟨rfl, F.out⟩
end Go.Proofs.YtjimoegegigoiaaDoor
namespace Go.Proofs.YtjimoegegigoiaaDoor
open Go.RowKit Go.Shelf
set_option maxRecDepth 100000
set_option maxHeartbeats 4000000
set_option linter.unusedSimpArgs false
set_option linter.unusedVariables false

theorem eapmeet_unlike (name server : ByteArray) (A2 : Option Addr) (n2 c2 : Nat) (A3 : Option Addr) (n3 c3 : Nat) (A4 : Option Addr) (n4 c4 : Nat) (A5 : Option Addr) (n5 c5 : Nat) (ss mm : List Sec) (one two : List UInt8) (w : World) (hn0 : name.size ≤ 140737488351232) (hn1 : server.size ≤ 140737488351232) (hs : SecRd w w.heap.size A2 n2 ss) (hm : SecRd w w.heap.size A3 n3 mm) (hr4 : Rd w w.heap.size A4 n4 one) (z4 : A4 = none → c4 = 0) (hr5 : Rd w w.heap.size A5 n5 two) (z5 : A5 = none → c5 = 0) (hK : TabK w) (hS : TabS w) (hsv : nameB server = true) (hck : (chk ss).1 = 0) (hnm : nameB name = true) (hmk : (chk mm).1 = 0) (h41 : 1 ≤ n4) (h42 : n4 ≤ 255) (h51 : 1 ≤ n5) (h52 : n5 ≤ 255) (hway : wdB ss (bst ss name server) = true ∧ wdS mm (bst mm name server) ≠ wdS ss (bst ss name server)) : Calls Tryd.prog 5 #[.string name, .string server, .slice A2 n2 c2, .slice A3 n3 c3, .slice A4 n4 c4, .slice A5 n5 c5] w fun e w' => e = .returned (.bool true) ∧ Below w.heap.size w w' := by
  obtain ⟨wx, hwx⟩ : ∃ wx, wdS ss (bst ss name server) = wx := ⟨_, rfl⟩
  obtain ⟨wy, hwy⟩ : ∃ wy, wdS mm (bst mm name server) = wy := ⟨_, rfl⟩
  have C0 : Hid (Calls Tryd.prog 19 #[.string server, .slice A2 n2 c2, .int .i64 5] w fun e w1 => ∃ g1, e = .returned (.tuple #[.pointer (some ⟨g1, 0, none⟩), .int .i64 0, .int .i64 0]) ∧
      Calls Tryd.prog 27 #[.string name, .slice A3 n3 c3] w1 fun e w2 => ∃ g2, e = .returned (.tuple #[.pointer (some ⟨g2, 0, none⟩), .int .i64 0, .int .i64 0]) ∧
      Calls Tryd.prog 20 #[.pointer (some ⟨g1, 0, none⟩)] w2 fun e w3 => ∃ D1 k1 d1, e = .returned (.tuple #[.agg #[.int .i64 1, .int .i64 1, .slice D1 k1 d1], .int .i64 0]) ∧ ∃ V3, w3.alloc (.cells #[.int .i64 1, .int .i64 1, .slice D1 k1 d1] 24) = V3 ∧ Blk V3 w3.heap.size 24 [.int .i64 1, .int .i64 1, .slice D1 k1 d1] ∧
      Calls Tryd.prog 28 #[.pointer (some ⟨g2, 0, none⟩), .agg #[.int .i64 1, .int .i64 1, .slice D1 k1 d1]] V3 fun e w4 => ∃ Db kb db, e = .returned (.tuple #[.agg #[.int .i64 2, .int .i64 1, .slice Db kb db], .bool true, .int .i64 0]) ∧ ∃ V4, w4.alloc (.cells #[.int .i64 2, .int .i64 1, .slice Db kb db] 24) = V4 ∧ Calls Tryd.prog 22 #[.slice A2 n2 c2, .string name, .string server] V4 fun e w5 => ∃ x1 x2 Ex mx kx b, e = .returned (.tuple #[.agg #[.string x1, .string x2, .string wx, .slice Ex mx kx], .bool b]) ∧ ∃ V5, w5.alloc (.cells #[.string x1, .string x2, .string wx, .slice Ex mx kx] 50) = V5 ∧
      Calls Tryd.prog 22 #[.slice A3 n3 c3, .string name, .string server] V5 fun e w6 => ∃ y1 y2 Ey my ky b, e = .returned (.tuple #[.agg #[.string y1, .string y2, .string wy, .slice Ey my ky], .bool b]) ∧ ∃ V6, w6.alloc (.cells #[.string y1, .string y2, .string wy, .slice Ey my ky] 50) = V6 ∧ ∃ lo1 tb1 lo2 tb2, MeetI w V6 lo1 g1 tb1 lo2 g2 tb2 w4.heap.size w5.heap.size w6.heap.size name server wx wy ss mm s1 1 1 (dtL 2 1 [] name)) := by
    refine (newServer_any server 5 A2 n2 c2 w.heap.size ss w (by unfold maxLen; omega) hs (Nat.le_refl _) hK hS).mono ?_
    rintro e w1 ⟨b1, ⟨h, -⟩ | ⟨-, h, -⟩ | ⟨-, -, h, -⟩ | ⟨-, -, -, g1, tb1, l1, l1', rfl, hs1⟩⟩
    · rw [hsv] at h; cases h
    · cases h
    · exact absurd hck h
    refine ⟨g1, rfl, ?_⟩
    refine (newPeer_any name A3 n3 c3 w.heap.size mm w1 (by unfold maxLen; omega) (hm.below b1 (Nat.le_refl _)) b1.size (hK.kept b1) (hS.kept b1)).mono ?_
    rintro e w2 ⟨b2, ⟨h, -⟩ | ⟨-, h, -⟩ | ⟨-, -, g2, tb2, l2, l2', rfl, hp2⟩⟩
    · rw [hnm] at h; cases h
    · exact absurd hmk h
    have B2 := step_to b1 b2
    have hs2 := hs1.later b2
    have lg1 := hs1.lt
    have lg2 := hp2.lt
    have z1 := b1.size
    have z2 := b2.size
    refine ⟨g2, rfl, ?_⟩
    refine (start_any w.heap.size g1 tb1 server 5 ss sv0 w2 hs2 (by decide) (by decide)).mono ?_
    rintro e w3 ⟨v, rfl, D1, k1, d1, hv, o1, G3, hs3, _⟩
    rw [ex_s1] at o1 hs3 hv
    injection hv with hv
    subst hv
    obtain ⟨E, m, f, kb2, _⟩ := hs2.blk
    have hp3 := hp2.beside kb2 (by omega) G3
    have B3 := below_row B2 G3 (by omega)
    obtain ⟨V3, hV3⟩ : ∃ V3, w3.alloc (.cells #[.int .i64 1, .int .i64 1, .slice D1 k1 d1] 24) = V3 := ⟨_, rfl⟩
    have bV3 : Below w3.heap.size w3 V3 := by rw [← hV3]; exact (Below.refl _ _).alloc (Nat.le_refl _) _
    have nV3 : Blk V3 w3.heap.size 24 [.int .i64 1, .int .i64 1, .slice D1 k1 d1] := by rw [← hV3]; exact heap_alloc_new w3 _
    have BV3 := step_to B3 bV3
    have rV1 := own_rd (o1.later bV3)
    have hsV3 := hs3.later bV3
    have hpV3 := hp3.later bV3
    have z3 := G3.size
    have zV3 := bV3.size
    refine ⟨D1, k1, d1, rfl, V3, hV3, nV3, ?_⟩
    have ea : ptE 1 1 [1] = 0 ∧ paS mm name 0 1 [1] = 1 ∧ paL mm name 1 1 [1] = dtL 2 1 [] name := by
      refine ⟨by decide, ?_, ?_⟩
      · unfold paS
        rw [if_pos rfl, if_pos (by decide)]
      · unfold paL
        rw [if_pos rfl, if_pos (by decide)]
    have PT := ptake_any w1.heap.size g2 tb2 name mm 0 ⟨#[]⟩ 1 1 D1 k1 d1 V3.heap.size [1] V3 hpV3 (name_le hnm) rV1.1 (Nat.le_refl _) (by rw [← rV1.1.1]; decide) ea.1
    rw [ea.2.1, ea.2.2] at PT
    refine PT.mono ?_
    rintro e w4 ⟨Db, kb, db, rfl, o2, G4, hp4⟩
    have hs4 := hsV3.beside hpV3.blk (by omega) G4
    have B4 := below_row BV3 G4 (by omega)
    obtain ⟨V4, hV4⟩ : ∃ V4, w4.alloc (.cells #[.int .i64 2, .int .i64 1, .slice Db kb db] 24) = V4 := ⟨_, rfl⟩
    have bV4 : Below w4.heap.size w4 V4 := by rw [← hV4]; exact (Below.refl _ _).alloc (Nat.le_refl _) _
    have nV4 : Blk V4 w4.heap.size 24 [.int .i64 2, .int .i64 1, .slice Db kb db] := by rw [← hV4]; exact heap_alloc_new w4 _
    have BV4 := step_to B4 bV4
    have hsV4 := hs4.later bV4
    have hpV4 := hp4.later bV4
    have z4' := G4.size
    have z4'' := bV4.size
    refine ⟨Db, kb, db, rfl, V4, hV4, ?_⟩
    have F1 := find_pre name server A2 n2 c2 ss w V4 hs BV4
    rw [hwx] at F1
    refine F1.mono ?_
    rintro e w5 ⟨x1, x2, Ex, mx, kx, b, rfl, b5⟩
    obtain ⟨V5, hV5⟩ : ∃ V5, w5.alloc (.cells #[.string x1, .string x2, .string wx, .slice Ex mx kx] 50) = V5 := ⟨_, rfl⟩
    have bV5 : Below w5.heap.size w5 V5 := by rw [← hV5]; exact (Below.refl _ _).alloc (Nat.le_refl _) _
    have nV5 : Blk V5 w5.heap.size 50 [.string x1, .string x2, .string wx, .slice Ex mx kx] := by rw [← hV5]; exact heap_alloc_new w5 _
    have b45 := step_to b5 bV5
    have BV5 := step_to BV4 b45
    refine ⟨x1, x2, Ex, mx, kx, b, rfl, V5, hV5, ?_⟩
    have F2 := find_pre name server A3 n3 c3 mm w V5 hm BV5
    rw [hwy] at F2
    refine F2.mono ?_
    rintro e w6 ⟨y1, y2, Ey, my, ky, b', rfl, b6⟩
    obtain ⟨V6, hV6⟩ : ∃ V6, w6.alloc (.cells #[.string y1, .string y2, .string wy, .slice Ey my ky] 50) = V6 := ⟨_, rfl⟩
    have bV6 : Below w6.heap.size w6 V6 := by rw [← hV6]; exact (Below.refl _ _).alloc (Nat.le_refl _) _
    have nV6 : Blk V6 w6.heap.size 50 [.string y1, .string y2, .string wy, .slice Ey my ky] := by rw [← hV6]; exact heap_alloc_new w6 _
    have b56 := step_to b6 bV6
    have b46 := step_to b45 b56
    exact ⟨y1, y2, Ey, my, ky, b', rfl, V6, hV6, w.heap.size, tb1, w1.heap.size, tb2, ⟨hsV4.later b46, ⟨_, hpV4.later b46⟩, ⟨Db, kb, db, past_same nV4 b46, eown_wide ((o2.later bV4).later b46) (Nat.zero_le _)⟩, ⟨x1, x2, Ex, mx, kx, past_same nV5 b56⟩, ⟨y1, y2, Ey, my, ky, nV6⟩, step_to BV4 b46, by omega, by omega, by omega⟩⟩
  have HX := Lib.hid hway.1
  have HW := Lib.hid hway
  have ew : wx.toList.isEmpty = false := by rw [← hwx]; exact wd_some hway.1
  have HNE : Hid (wy ≠ wx) := by rw [← hwx, ← hwy]; exact hway.2
  have en : (wy.toList == wx.toList) = false := by rw [word_eq]; exact decide_eq_false HNE.out
  have HY0 : Hid (wdB mm (bst mm name server) = false → wy.toList.isEmpty = true) := fun h => by rw [← hwy]; exact wd_none h
  have HY1 : Hid (wdB mm (bst mm name server) = true → wy.toList.isEmpty = false) := fun h => by rw [← hwy]; exact wd_some h
  have HG := Lib.hid (And.intro hnm (And.intro hsv (And.intro h41 (And.intro h42 (And.intro h51 h52)))))
  have HR4 := Lib.hid (And.intro hr4 z4)
  have HR5 := Lib.hid (And.intro hr5 z5)
  have HK := Lib.hid (And.intro hK hS)
  have f1 : ¬ (n4 : Int) < 1 := by omega
  have f2 : ¬ (255 : Int) < (n4 : Int) := by omega
  have f3 : ¬ (n5 : Int) < 1 := by omega
  have f4 : ¬ (255 : Int) < (n5 : Int) := by omega
  have NN : (name.toList == name.toList) = true := by simp
  clear hs hm hr4 z4 hr5 z5 hK hS hn0 hn1 hsv hck hnm hmk h41 h42 h51 h52 hwx hwy hway
  go_enter Tryd.func5, Tryd.ntmps5
  go_wp2_with (first
    | (go_at_call 19; ((with_reducible refine C0.out.mono ?_); rintro e w1 ⟨g1, rfl, n1⟩; have C1 := Lib.hid n1; clear n1))
    | (go_at_call 27; ((with_reducible refine C1.out.mono ?_); rintro e w2 ⟨g2, rfl, n1⟩; have C2 := Lib.hid n1; clear n1))
    | (go_at_call 20; ((with_reducible refine C2.out.mono ?_); rintro e w3 ⟨D1, k1, d1, rfl, V3, hV3, p3, n1⟩; have HV3 := Lib.hid hV3; have a0 := p3.cell 0; have a1 := p3.cell 1; have a2 := p3.cell 2; have C3 := Lib.hid n1; clear hV3 p3 n1))
    | (rw [HV3.out])
    | (go_at_call 28; ((with_reducible refine C3.out.mono ?_); rintro e w4 ⟨Db, kb, db, rfl, V4, hV4, n1⟩; have HV4 := Lib.hid hV4; have C4 := Lib.hid n1; clear hV4 n1))
    | (rw [HV4.out])
    | (go_at_call 22; ((with_reducible refine C4.out.mono ?_); rintro e w5 ⟨x1, x2, Ex, mx, kx, b, rfl, V5, hV5, n1⟩; have HV5 := Lib.hid hV5; have C5 := Lib.hid n1; clear hV5 n1))
    | (rw [HV5.out])
    | (go_at_call 22; ((with_reducible refine C5.out.mono ?_); rintro e w6 ⟨y1, y2, Ey, my, ky, b', rfl, V6, hV6, lo1, tb1, lo2, tb2, mi⟩; have HV6 := Lib.hid hV6; have MI := Lib.hid mi; clear hV6 mi))
    | (rw [HV6.out]))
  go_loopw [4, 28] (fun v i wr => ∃ z : Int, (z = 0 ∨ z = 1 ∨ z = 2) ∧ i = .int .i64 z ∧ MeetK w lo1 g1 tb1 lo2 g2 tb2 w4.heap.size w5.heap.size w6.heap.size name server wx wy ss mm A4 n4 c4 A5 n5 c5 one z v wr) (fun _ i _ => (2 - intOf i).toNat)
  case atStart => exact ⟨0, .inl rfl, rfl, fun _ => ⟨rfl, MI.out⟩, (fun h => absurd h (by decide)), (fun h => absurd h (by decide))⟩
  case round =>
    obtain ⟨z, hz, rfl, hJ⟩ := hrel
    rcases hz with rfl | rfl | rfl
    · obtain ⟨rfl, mi0⟩ := hJ.1 rfl
      clear hJ
      rename World => wr
      obtain ⟨Db', kb', db', x1', x2', Ex', mx', kx', y1', y2', Ey', my', ky', nb, ct⟩ := round0_some w wr lo1 g1 tb1 lo2 g2 tb2 w4.heap.size w5.heap.size w6.heap.size name server wx wy ss mm A4 n4 c4 one HG.out.1 HG.out.2.1 HR4.out.1 HR4.out.2 HG.out.2.2.1 HG.out.2.2.2.1 mi0 HX.out
      have CT := Lib.hid ct
      have GLT := Lib.hid (And.intro mi0.names.1 (And.intro mi0.lt mi0.bg))
      have b0 := nb.cell 0
      have b1 := nb.cell 1
      have b2 := nb.cell 2
      clear ct nb mi0
      go_upto_region 30 with (first
        | (go_at_call 21; ((with_reducible refine CT.out.mono ?_); rintro e w7 ⟨D1, k1, d1, rfl, V7, hV7, n7, nx7, ny7, nb7, no, mc⟩; have HV7 := Lib.hid hV7; have c0 := n7.cell 0; have c1 := n7.cell 1; have c2 := n7.cell 2; have x7 := nx7.cell 2; have NX := Lib.hid nx7; have NY := Lib.hid ny7; have NB := Lib.hid nb7; unfold MidC at mc; have MC := Lib.hid mc; clear hV7 n7 nx7 ny7 nb7 mc))
        | (rw [HV7.out])
        | (go_at_call 28; ((with_reducible refine MC.out.mono ?_); rintro e w8 ⟨D2, k2, d2, rfl, V8, hV8, n8, m2⟩; have HV8 := Lib.hid hV8; have p0 := n8.cell 0; have p1 := n8.cell 1; have p2 := n8.cell 2; have MC2 := Lib.hid m2; clear hV8 n8 m2))
        | (rw [HV8.out])
        | (go_at_call 21; ((with_reducible refine MC2.out.mono ?_); rintro e w9 ⟨C3, D3, k3, d3, rfl, V9, hV9, n9, m3⟩; have HV9 := Lib.hid hV9; have q0 := n9.cell 0; have q1 := n9.cell 1; have q2 := n9.cell 2; have MC3 := Lib.hid m3; clear hV9 n9 m3))
        | (rw [HV9.out])
        | (go_at_call 28; ((with_reducible refine MC3.out.mono ?_); rintro e wA ⟨v, okk, rfl, kd, keep, zz, st2, L2, me⟩; have xA := keep _ _ _ NX.out (by decide) (by decide); have yA := keep _ _ _ NY.out (by decide) (by decide); have KEEP := Lib.hid keep; have r2 := xA.cell 2; have s2 := yA.cell 2; have XA := Lib.hid xA; have YA := Lib.hid yA; have KD := Lib.hid kd; have ME := Lib.hid me; clear kd keep xA yA me)))
      have SS : Hid (Calls Tryd.prog 24 #[.pointer (some ⟨g1, 0, none⟩)] wA fun e w' => e = .returned (.int .i64 zz) ∧ wA = w') := sstate_any _ _ _ _ _ _ _ wA ME.out.sv
      have AW : Hid (Calls Tryd.prog 18 #[] wA fun e w' => e = .returned (.bool true) ∧ Below w.heap.size w w') := (awake_any wA ME.out.sv.tk ME.out.sv.ts).mono fun e w' hh => ⟨hh.1, step_to ME.out.bel hh.2⟩
      cases hy : wdB mm (bst mm name server)
      · have ey : wy.toList.isEmpty = true := HY0.out hy
        obtain rfl := ME.out.none_ hy
        clear hy
        go_wp2_with (first
          | (go_at_call 24; ((with_reducible refine SS.out.mono ?_); rintro e w' ⟨rfl, rfl⟩))
          | (go_at_call 18; ((with_reducible refine AW.out.mono ?_); rintro e w9' ⟨rfl, b4⟩; have F := Lib.hid b4; clear b4)))
        go_ret
        exact ⟨rfl, F.out⟩
      · have ey : wy.toList.isEmpty = false := HY1.out hy
        clear hy
        rcases ME.out.way with ⟨rfl, rfl⟩ | rfl
        · go_wp2_with (first
          | (go_at_call 24; ((with_reducible refine SS.out.mono ?_); rintro e w' ⟨rfl, rfl⟩))
          | (go_at_call 18; ((with_reducible refine AW.out.mono ?_); rintro e w9' ⟨rfl, b4⟩; have F := Lib.hid b4; clear b4)))
          go_ret
          exact ⟨rfl, F.out⟩
        · go_wp2_with (first
          | (go_at_call 24; ((with_reducible refine SS.out.mono ?_); rintro e w' ⟨rfl, rfl⟩))
          | (go_at_call 18; ((with_reducible refine AW.out.mono ?_); rintro e w9' ⟨rfl, b4⟩; have F := Lib.hid b4; clear b4)))
          go_ret
          exact ⟨rfl, F.out⟩
    · obtain ⟨-, ⟨-, hc⟩, -⟩ := hJ.2.1 rfl
      exact absurd hc HNE.out
    · have hb := hJ.2.2 rfl
      clear hJ
      rename World => wr
      have AWr : Hid (Calls Tryd.prog 18 #[] wr fun e w' => e = .returned (.bool true) ∧ Below w.heap.size w w') := (awake_any wr (HK.out.1.kept hb) (HK.out.2.kept hb)).mono fun e w' hh => ⟨hh.1, step_to hb hh.2⟩
      clear hb
      go_wp2_with (go_at_call 18; ((with_reducible refine AWr.out.mono ?_); rintro e w9' ⟨rfl, b4⟩; have F := Lib.hid b4; clear b4))
      go_ret
      exact ⟨rfl, F.out⟩
end Go.Proofs.YtjimoegegigoiaaDoor
namespace Go.Proofs.YtjimoegegigoiaaDoor
open Go.RowKit Go.Shelf
set_option maxRecDepth 100000
set_option maxHeartbeats 4000000
set_option linter.unusedSimpArgs false
set_option linter.unusedVariables false

theorem eapmeet_like (name server : ByteArray) (A2 : Option Addr) (n2 c2 : Nat) (A3 : Option Addr) (n3 c3 : Nat) (A4 : Option Addr) (n4 c4 : Nat) (A5 : Option Addr) (n5 c5 : Nat) (ss mm : List Sec) (one two : List UInt8) (w : World) (hn0 : name.size ≤ 140737488351232) (hn1 : server.size ≤ 140737488351232) (hs : SecRd w w.heap.size A2 n2 ss) (hm : SecRd w w.heap.size A3 n3 mm) (hr4 : Rd w w.heap.size A4 n4 one) (z4 : A4 = none → c4 = 0) (hr5 : Rd w w.heap.size A5 n5 two) (z5 : A5 = none → c5 = 0) (hK : TabK w) (hS : TabS w) (hsv : nameB server = true) (hck : (chk ss).1 = 0) (hnm : nameB name = true) (hmk : (chk mm).1 = 0) (h41 : 1 ≤ n4) (h42 : n4 ≤ 255) (h51 : 1 ≤ n5) (h52 : n5 ≤ 255) (hway : wdB ss (bst ss name server) = true ∧ wdS mm (bst mm name server) = wdS ss (bst ss name server)) : Calls Tryd.prog 5 #[.string name, .string server, .slice A2 n2 c2, .slice A3 n3 c3, .slice A4 n4 c4, .slice A5 n5 c5] w fun e w' => e = .returned (.bool true) ∧ Below w.heap.size w w' := by
  obtain ⟨wx, hwx⟩ : ∃ wx, wdS ss (bst ss name server) = wx := ⟨_, rfl⟩
  obtain ⟨wy, hwy⟩ : ∃ wy, wdS mm (bst mm name server) = wy := ⟨_, rfl⟩
  have C0 : Hid (Calls Tryd.prog 19 #[.string server, .slice A2 n2 c2, .int .i64 5] w fun e w1 => ∃ g1, e = .returned (.tuple #[.pointer (some ⟨g1, 0, none⟩), .int .i64 0, .int .i64 0]) ∧
      Calls Tryd.prog 27 #[.string name, .slice A3 n3 c3] w1 fun e w2 => ∃ g2, e = .returned (.tuple #[.pointer (some ⟨g2, 0, none⟩), .int .i64 0, .int .i64 0]) ∧
      Calls Tryd.prog 20 #[.pointer (some ⟨g1, 0, none⟩)] w2 fun e w3 => ∃ D1 k1 d1, e = .returned (.tuple #[.agg #[.int .i64 1, .int .i64 1, .slice D1 k1 d1], .int .i64 0]) ∧ ∃ V3, w3.alloc (.cells #[.int .i64 1, .int .i64 1, .slice D1 k1 d1] 24) = V3 ∧ Blk V3 w3.heap.size 24 [.int .i64 1, .int .i64 1, .slice D1 k1 d1] ∧
      Calls Tryd.prog 28 #[.pointer (some ⟨g2, 0, none⟩), .agg #[.int .i64 1, .int .i64 1, .slice D1 k1 d1]] V3 fun e w4 => ∃ Db kb db, e = .returned (.tuple #[.agg #[.int .i64 2, .int .i64 1, .slice Db kb db], .bool true, .int .i64 0]) ∧ ∃ V4, w4.alloc (.cells #[.int .i64 2, .int .i64 1, .slice Db kb db] 24) = V4 ∧ Calls Tryd.prog 22 #[.slice A2 n2 c2, .string name, .string server] V4 fun e w5 => ∃ x1 x2 Ex mx kx b, e = .returned (.tuple #[.agg #[.string x1, .string x2, .string wx, .slice Ex mx kx], .bool b]) ∧ ∃ V5, w5.alloc (.cells #[.string x1, .string x2, .string wx, .slice Ex mx kx] 50) = V5 ∧
      Calls Tryd.prog 22 #[.slice A3 n3 c3, .string name, .string server] V5 fun e w6 => ∃ y1 y2 Ey my ky b, e = .returned (.tuple #[.agg #[.string y1, .string y2, .string wy, .slice Ey my ky], .bool b]) ∧ ∃ V6, w6.alloc (.cells #[.string y1, .string y2, .string wy, .slice Ey my ky] 50) = V6 ∧ ∃ lo1 tb1 lo2 tb2, MeetI w V6 lo1 g1 tb1 lo2 g2 tb2 w4.heap.size w5.heap.size w6.heap.size name server wx wy ss mm s1 1 1 (dtL 2 1 [] name)) := by
    refine (newServer_any server 5 A2 n2 c2 w.heap.size ss w (by unfold maxLen; omega) hs (Nat.le_refl _) hK hS).mono ?_
    rintro e w1 ⟨b1, ⟨h, -⟩ | ⟨-, h, -⟩ | ⟨-, -, h, -⟩ | ⟨-, -, -, g1, tb1, l1, l1', rfl, hs1⟩⟩
    · rw [hsv] at h; cases h
    · cases h
    · exact absurd hck h
    refine ⟨g1, rfl, ?_⟩
    refine (newPeer_any name A3 n3 c3 w.heap.size mm w1 (by unfold maxLen; omega) (hm.below b1 (Nat.le_refl _)) b1.size (hK.kept b1) (hS.kept b1)).mono ?_
    rintro e w2 ⟨b2, ⟨h, -⟩ | ⟨-, h, -⟩ | ⟨-, -, g2, tb2, l2, l2', rfl, hp2⟩⟩
    · rw [hnm] at h; cases h
    · exact absurd hmk h
    have B2 := step_to b1 b2
    have hs2 := hs1.later b2
    have lg1 := hs1.lt
    have lg2 := hp2.lt
    have z1 := b1.size
    have z2 := b2.size
    refine ⟨g2, rfl, ?_⟩
    refine (start_any w.heap.size g1 tb1 server 5 ss sv0 w2 hs2 (by decide) (by decide)).mono ?_
    rintro e w3 ⟨v, rfl, D1, k1, d1, hv, o1, G3, hs3, _⟩
    rw [ex_s1] at o1 hs3 hv
    injection hv with hv
    subst hv
    obtain ⟨E, m, f, kb2, _⟩ := hs2.blk
    have hp3 := hp2.beside kb2 (by omega) G3
    have B3 := below_row B2 G3 (by omega)
    obtain ⟨V3, hV3⟩ : ∃ V3, w3.alloc (.cells #[.int .i64 1, .int .i64 1, .slice D1 k1 d1] 24) = V3 := ⟨_, rfl⟩
    have bV3 : Below w3.heap.size w3 V3 := by rw [← hV3]; exact (Below.refl _ _).alloc (Nat.le_refl _) _
    have nV3 : Blk V3 w3.heap.size 24 [.int .i64 1, .int .i64 1, .slice D1 k1 d1] := by rw [← hV3]; exact heap_alloc_new w3 _
    have BV3 := step_to B3 bV3
    have rV1 := own_rd (o1.later bV3)
    have hsV3 := hs3.later bV3
    have hpV3 := hp3.later bV3
    have z3 := G3.size
    have zV3 := bV3.size
    refine ⟨D1, k1, d1, rfl, V3, hV3, nV3, ?_⟩
    have ea : ptE 1 1 [1] = 0 ∧ paS mm name 0 1 [1] = 1 ∧ paL mm name 1 1 [1] = dtL 2 1 [] name := by
      refine ⟨by decide, ?_, ?_⟩
      · unfold paS
        rw [if_pos rfl, if_pos (by decide)]
      · unfold paL
        rw [if_pos rfl, if_pos (by decide)]
    have PT := ptake_any w1.heap.size g2 tb2 name mm 0 ⟨#[]⟩ 1 1 D1 k1 d1 V3.heap.size [1] V3 hpV3 (name_le hnm) rV1.1 (Nat.le_refl _) (by rw [← rV1.1.1]; decide) ea.1
    rw [ea.2.1, ea.2.2] at PT
    refine PT.mono ?_
    rintro e w4 ⟨Db, kb, db, rfl, o2, G4, hp4⟩
    have hs4 := hsV3.beside hpV3.blk (by omega) G4
    have B4 := below_row BV3 G4 (by omega)
    obtain ⟨V4, hV4⟩ : ∃ V4, w4.alloc (.cells #[.int .i64 2, .int .i64 1, .slice Db kb db] 24) = V4 := ⟨_, rfl⟩
    have bV4 : Below w4.heap.size w4 V4 := by rw [← hV4]; exact (Below.refl _ _).alloc (Nat.le_refl _) _
    have nV4 : Blk V4 w4.heap.size 24 [.int .i64 2, .int .i64 1, .slice Db kb db] := by rw [← hV4]; exact heap_alloc_new w4 _
    have BV4 := step_to B4 bV4
    have hsV4 := hs4.later bV4
    have hpV4 := hp4.later bV4
    have z4' := G4.size
    have z4'' := bV4.size
    refine ⟨Db, kb, db, rfl, V4, hV4, ?_⟩
    have F1 := find_pre name server A2 n2 c2 ss w V4 hs BV4
    rw [hwx] at F1
    refine F1.mono ?_
    rintro e w5 ⟨x1, x2, Ex, mx, kx, b, rfl, b5⟩
    obtain ⟨V5, hV5⟩ : ∃ V5, w5.alloc (.cells #[.string x1, .string x2, .string wx, .slice Ex mx kx] 50) = V5 := ⟨_, rfl⟩
    have bV5 : Below w5.heap.size w5 V5 := by rw [← hV5]; exact (Below.refl _ _).alloc (Nat.le_refl _) _
    have nV5 : Blk V5 w5.heap.size 50 [.string x1, .string x2, .string wx, .slice Ex mx kx] := by rw [← hV5]; exact heap_alloc_new w5 _
    have b45 := step_to b5 bV5
    have BV5 := step_to BV4 b45
    refine ⟨x1, x2, Ex, mx, kx, b, rfl, V5, hV5, ?_⟩
    have F2 := find_pre name server A3 n3 c3 mm w V5 hm BV5
    rw [hwy] at F2
    refine F2.mono ?_
    rintro e w6 ⟨y1, y2, Ey, my, ky, b', rfl, b6⟩
    obtain ⟨V6, hV6⟩ : ∃ V6, w6.alloc (.cells #[.string y1, .string y2, .string wy, .slice Ey my ky] 50) = V6 := ⟨_, rfl⟩
    have bV6 : Below w6.heap.size w6 V6 := by rw [← hV6]; exact (Below.refl _ _).alloc (Nat.le_refl _) _
    have nV6 : Blk V6 w6.heap.size 50 [.string y1, .string y2, .string wy, .slice Ey my ky] := by rw [← hV6]; exact heap_alloc_new w6 _
    have b56 := step_to b6 bV6
    have b46 := step_to b45 b56
    exact ⟨y1, y2, Ey, my, ky, b', rfl, V6, hV6, w.heap.size, tb1, w1.heap.size, tb2, ⟨hsV4.later b46, ⟨_, hpV4.later b46⟩, ⟨Db, kb, db, past_same nV4 b46, eown_wide ((o2.later bV4).later b46) (Nat.zero_le _)⟩, ⟨x1, x2, Ex, mx, kx, past_same nV5 b56⟩, ⟨y1, y2, Ey, my, ky, nV6⟩, step_to BV4 b46, by omega, by omega, by omega⟩⟩
  have HX := Lib.hid hway.1
  have HW := Lib.hid hway
  have ew : wx.toList.isEmpty = false := by rw [← hwx]; exact wd_some hway.1
  obtain rfl : wy = wx := by rw [← hwx, ← hwy]; exact hway.2
  have en : (wy.toList == wy.toList) = true := by simp
  have HG := Lib.hid (And.intro hnm (And.intro hsv (And.intro h41 (And.intro h42 (And.intro h51 h52)))))
  have HR4 := Lib.hid (And.intro hr4 z4)
  have HR5 := Lib.hid (And.intro hr5 z5)
  have HK := Lib.hid (And.intro hK hS)
  have f1 : ¬ (n4 : Int) < 1 := by omega
  have f2 : ¬ (255 : Int) < (n4 : Int) := by omega
  have f3 : ¬ (n5 : Int) < 1 := by omega
  have f4 : ¬ (255 : Int) < (n5 : Int) := by omega
  have NN : (name.toList == name.toList) = true := by simp
  clear hs hm hr4 z4 hr5 z5 hK hS hn0 hn1 hsv hck hnm hmk h41 h42 h51 h52 hwx hwy hway
  go_enter Tryd.func5, Tryd.ntmps5
  go_wp2_with (first
    | (go_at_call 19; ((with_reducible refine C0.out.mono ?_); rintro e w1 ⟨g1, rfl, n1⟩; have C1 := Lib.hid n1; clear n1))
    | (go_at_call 27; ((with_reducible refine C1.out.mono ?_); rintro e w2 ⟨g2, rfl, n1⟩; have C2 := Lib.hid n1; clear n1))
    | (go_at_call 20; ((with_reducible refine C2.out.mono ?_); rintro e w3 ⟨D1, k1, d1, rfl, V3, hV3, p3, n1⟩; have HV3 := Lib.hid hV3; have a0 := p3.cell 0; have a1 := p3.cell 1; have a2 := p3.cell 2; have C3 := Lib.hid n1; clear hV3 p3 n1))
    | (rw [HV3.out])
    | (go_at_call 28; ((with_reducible refine C3.out.mono ?_); rintro e w4 ⟨Db, kb, db, rfl, V4, hV4, n1⟩; have HV4 := Lib.hid hV4; have C4 := Lib.hid n1; clear hV4 n1))
    | (rw [HV4.out])
    | (go_at_call 22; ((with_reducible refine C4.out.mono ?_); rintro e w5 ⟨x1, x2, Ex, mx, kx, b, rfl, V5, hV5, n1⟩; have HV5 := Lib.hid hV5; have C5 := Lib.hid n1; clear hV5 n1))
    | (rw [HV5.out])
    | (go_at_call 22; ((with_reducible refine C5.out.mono ?_); rintro e w6 ⟨y1, y2, Ey, my, ky, b', rfl, V6, hV6, lo1, tb1, lo2, tb2, mi⟩; have HV6 := Lib.hid hV6; have MI := Lib.hid mi; clear hV6 mi))
    | (rw [HV6.out]))
  go_loopw [4, 28] (fun v i wr => ∃ z : Int, (z = 0 ∨ z = 1 ∨ z = 2) ∧ i = .int .i64 z ∧ MeetK w lo1 g1 tb1 lo2 g2 tb2 w4.heap.size w5.heap.size w6.heap.size name server wy wy ss mm A4 n4 c4 A5 n5 c5 one z v wr) (fun _ i _ => (2 - intOf i).toNat)
  case atStart => exact ⟨0, .inl rfl, rfl, fun _ => ⟨rfl, MI.out⟩, (fun h => absurd h (by decide)), (fun h => absurd h (by decide))⟩
  case round =>
    obtain ⟨z, hz, rfl, hJ⟩ := hrel
    rcases hz with rfl | rfl | rfl
    · obtain ⟨rfl, mi0⟩ := hJ.1 rfl
      clear hJ
      rename World => wr
      obtain ⟨Db', kb', db', x1', x2', Ex', mx', kx', y1', y2', Ey', my', ky', nb, ct⟩ := round0_some w wr lo1 g1 tb1 lo2 g2 tb2 w4.heap.size w5.heap.size w6.heap.size name server wy wy ss mm A4 n4 c4 one HG.out.1 HG.out.2.1 HR4.out.1 HR4.out.2 HG.out.2.2.1 HG.out.2.2.2.1 mi0 HX.out
      have CT := Lib.hid ct
      have GLT := Lib.hid (And.intro mi0.names.1 (And.intro mi0.lt mi0.bg))
      have b0 := nb.cell 0
      have b1 := nb.cell 1
      have b2 := nb.cell 2
      clear ct nb mi0
      go_upto_region 30 with (first
        | (go_at_call 21; ((with_reducible refine CT.out.mono ?_); rintro e w7 ⟨D1, k1, d1, rfl, V7, hV7, n7, nx7, ny7, nb7, no, mc⟩; have HV7 := Lib.hid hV7; have c0 := n7.cell 0; have c1 := n7.cell 1; have c2 := n7.cell 2; have x7 := nx7.cell 2; have NX := Lib.hid nx7; have NY := Lib.hid ny7; have NB := Lib.hid nb7; unfold MidC at mc; have MC := Lib.hid mc; clear hV7 n7 nx7 ny7 nb7 mc))
        | (rw [HV7.out])
        | (go_at_call 28; ((with_reducible refine MC.out.mono ?_); rintro e w8 ⟨D2, k2, d2, rfl, V8, hV8, n8, m2⟩; have HV8 := Lib.hid hV8; have p0 := n8.cell 0; have p1 := n8.cell 1; have p2 := n8.cell 2; have MC2 := Lib.hid m2; clear hV8 n8 m2))
        | (rw [HV8.out])
        | (go_at_call 21; ((with_reducible refine MC2.out.mono ?_); rintro e w9 ⟨C3, D3, k3, d3, rfl, V9, hV9, n9, m3⟩; have HV9 := Lib.hid hV9; have q0 := n9.cell 0; have q1 := n9.cell 1; have q2 := n9.cell 2; have MC3 := Lib.hid m3; clear hV9 n9 m3))
        | (rw [HV9.out])
        | (go_at_call 28; ((with_reducible refine MC3.out.mono ?_); rintro e wA ⟨v, okk, rfl, kd, keep, zz, st2, L2, me⟩; have xA := keep _ _ _ NX.out (by decide) (by decide); have yA := keep _ _ _ NY.out (by decide) (by decide); have KEEP := Lib.hid keep; have r2 := xA.cell 2; have s2 := yA.cell 2; have XA := Lib.hid xA; have YA := Lib.hid yA; have KD := Lib.hid kd; have ME := Lib.hid me; clear kd keep xA yA me)))
      have SS : Hid (Calls Tryd.prog 24 #[.pointer (some ⟨g1, 0, none⟩)] wA fun e w' => e = .returned (.int .i64 zz) ∧ wA = w') := sstate_any _ _ _ _ _ _ _ wA ME.out.sv
      have AW : Hid (Calls Tryd.prog 18 #[] wA fun e w' => e = .returned (.bool true) ∧ Below w.heap.size w w') := (awake_any wA ME.out.sv.tk ME.out.sv.ts).mono fun e w' hh => ⟨hh.1, step_to ME.out.bel hh.2⟩
      obtain rfl := ME.out.same HX.out HW.out.2
      obtain rfl : st2 = 3 := by
        rcases ME.out.way with h | h
        · exact h.2
        · cases h
      have SP : Hid (Calls Tryd.prog 30 #[.pointer (some ⟨g2, 0, none⟩)] wA fun e w' => e = .returned (.int .i64 3) ∧ wA = w') := pstate_any _ _ _ _ _ _ _ wA ME.out.pv
      have SW : Hid (Calls Tryd.prog 26 #[.pointer (some ⟨g1, 0, none⟩)] wA fun e w' => e = .returned (.string name) ∧ wA = w') := swho_any _ _ _ _ _ _ _ wA ME.out.sv
      have bA := KEEP.out _ _ _ NB.out (by decide) (by decide)
      have NXT := Lib.hid (meet_next (xb := w5.heap.size) (yb := w6.heap.size) (wx := wy) (wy := wy) ME.out rfl KD.out bA XA.out YA.out GLT.out.1 GLT.out.2.1 GLT.out.2.2 HK.out.1 HK.out.2)
      have RL := Lib.hid (And.intro ME.out.rd ME.out.len)
      have dd0 := KD.out.cell 0
      have dd1 := KD.out.cell 1
      have dd2 := KD.out.cell 2
      clear bA
      go_wp2_with (first
        | (go_at_call 24; ((with_reducible refine SS.out.mono ?_); rintro e w' ⟨rfl, rfl⟩))
        | (go_at_call 30; ((with_reducible refine SP.out.mono ?_); rintro e w' ⟨rfl, rfl⟩))
        | (go_at_call 26; ((with_reducible refine SW.out.mono ?_); rintro e w' ⟨rfl, rfl⟩))
        | (go_at_call 21; ((with_reducible refine NXT.out.mono ?_); rintro e wB ⟨rfl, nd, nbb, mi1⟩; have t0 := nd.cell 0; have t1 := nd.cell 1; have t2 := nd.cell 2; have u0 := nbb.cell 0; have u1 := nbb.cell 1; have u2 := nbb.cell 2; have g0 := nbb.frozen 0; have g1' := nbb.frozen 1; have g2' := nbb.frozen 2; have lb := Blk.lt nbb; have MI1 := Lib.hid mi1; clear nd nbb mi1)))
      go_roundw
      case rel => exact ⟨1, .inr (.inl rfl), rfl, (fun h => absurd h (by decide)), fun _ => ⟨rfl, ⟨HX.out, rfl⟩, L2, RL.out.1, RL.out.2, MI1.out⟩, (fun h => absurd h (by decide))⟩
      case measure => simp [intOf]
    · obtain ⟨rfl, -, L, hL1, hL2, mi1⟩ := hJ.2.1 rfl
      clear hJ
      rename World => wr
      obtain ⟨Db', kb', db', x1', x2', Ex', mx', kx', y1', y2', Ey', my', ky', nb, ct⟩ := round1 w wr lo1 g1 tb1 lo2 g2 tb2 w4.heap.size w5.heap.size w6.heap.size name server wy wy ss mm A5 n5 c5 one two L HG.out.1 HG.out.2.1 HR5.out.1 HR5.out.2 HG.out.2.2.2.2.1 HG.out.2.2.2.2.2 A5 n5 c5 HK.out.1 HK.out.2 hL1 hL2 mi1 HX.out
      have CT := Lib.hid ct
      have b0 := nb.cell 0
      have b1 := nb.cell 1
      have b2 := nb.cell 2
      clear ct nb mi1 hL1 hL2
      go_upto_region 17 with (go_at_call 21; ((with_reducible refine CT.out.mono ?_); rintro e w7' ⟨rfl, V7, hV7, n1⟩; have HV7 := Lib.hid hV7; have CP := Lib.hid n1; clear hV7 n1))
      rw [HV7.out]
      go_upto_region 30 with (first
        | (go_at_call 29; ((with_reducible refine CP.out.mono ?_); rintro e w7 ⟨D1, k1, d1, rfl, n0, X, hX, n7, nx7, ny7, no, mc⟩; have HXX := Lib.hid hX; have v0 := n0.cell 0; have v1 := n0.cell 1; have v2 := n0.cell 2; have h0 := n0.frozen 0; have h1 := n0.frozen 1; have h2 := n0.frozen 2; have ln := Blk.lt n0; have c0 := n7.cell 0; have c1 := n7.cell 1; have c2 := n7.cell 2; have x7 := nx7.cell 2; have NX := Lib.hid nx7; have NY := Lib.hid ny7; unfold MidC at mc; have MC := Lib.hid mc; clear hX n0 n7 nx7 ny7 mc))
        | (rw [HXX.out])
        | (go_at_call 28; ((with_reducible refine MC.out.mono ?_); rintro e w8 ⟨D2, k2, d2, rfl, V8, hV8, n8, m2⟩; have HV8 := Lib.hid hV8; have p0 := n8.cell 0; have p1 := n8.cell 1; have p2 := n8.cell 2; have MC2 := Lib.hid m2; clear hV8 n8 m2))
        | (rw [HV8.out])
        | (go_at_call 21; ((with_reducible refine MC2.out.mono ?_); rintro e w9 ⟨C3, D3, k3, d3, rfl, V9, hV9, n9, m3⟩; have HV9 := Lib.hid hV9; have q0 := n9.cell 0; have q1 := n9.cell 1; have q2 := n9.cell 2; have MC3 := Lib.hid m3; clear hV9 n9 m3))
        | (rw [HV9.out])
        | (go_at_call 28; ((with_reducible refine MC3.out.mono ?_); rintro e wA ⟨v, okk, rfl, kd, keep, zz, st2, L2, me⟩; have xA := keep _ _ _ NX.out (by decide) (by decide); have yA := keep _ _ _ NY.out (by decide) (by decide); have KEEP := Lib.hid keep; have r2 := xA.cell 2; have s2 := yA.cell 2; have XA := Lib.hid xA; have YA := Lib.hid yA; have KD := Lib.hid kd; have ME := Lib.hid me; clear kd keep xA yA me)))
      have SS : Hid (Calls Tryd.prog 24 #[.pointer (some ⟨g1, 0, none⟩)] wA fun e w' => e = .returned (.int .i64 zz) ∧ wA = w') := sstate_any _ _ _ _ _ _ _ wA ME.out.sv
      have AW : Hid (Calls Tryd.prog 18 #[] wA fun e w' => e = .returned (.bool true) ∧ Below w.heap.size w w') := (awake_any wA ME.out.sv.tk ME.out.sv.ts).mono fun e w' hh => ⟨hh.1, step_to ME.out.bel hh.2⟩
      obtain rfl := ME.out.same HX.out HW.out.2
      obtain rfl : st2 = 3 := by
        rcases ME.out.way with h | h
        · exact h.2
        · cases h
      have SP : Hid (Calls Tryd.prog 30 #[.pointer (some ⟨g2, 0, none⟩)] wA fun e w' => e = .returned (.int .i64 3) ∧ wA = w') := pstate_any _ _ _ _ _ _ _ wA ME.out.pv
      have SW : Hid (Calls Tryd.prog 26 #[.pointer (some ⟨g1, 0, none⟩)] wA fun e w' => e = .returned (.string name) ∧ wA = w') := swho_any _ _ _ _ _ _ _ wA ME.out.sv
      have BE := Lib.hid ME.out.bel
      go_wp2_with (first
        | (go_at_call 24; ((with_reducible refine SS.out.mono ?_); rintro e w' ⟨rfl, rfl⟩))
        | (go_at_call 30; ((with_reducible refine SP.out.mono ?_); rintro e w' ⟨rfl, rfl⟩))
        | (go_at_call 26; ((with_reducible refine SW.out.mono ?_); rintro e w' ⟨rfl, rfl⟩)))
      go_roundw
      case rel => exact ⟨2, .inr (.inr rfl), rfl, (fun h => absurd h (by decide)), (fun h => absurd h (by decide)), fun _ => BE.out⟩
      case measure => simp [intOf]
    · have hb := hJ.2.2 rfl
      clear hJ
      rename World => wr
      have AWr : Hid (Calls Tryd.prog 18 #[] wr fun e w' => e = .returned (.bool true) ∧ Below w.heap.size w w') := (awake_any wr (HK.out.1.kept hb) (HK.out.2.kept hb)).mono fun e w' hh => ⟨hh.1, step_to hb hh.2⟩
      clear hb
      go_wp2_with (go_at_call 18; ((with_reducible refine AWr.out.mono ?_); rintro e w9' ⟨rfl, b4⟩; have F := Lib.hid b4; clear b4))
      go_ret
      exact ⟨rfl, F.out⟩
end Go.Proofs.YtjimoegegigoiaaDoor
namespace Go.Proofs.YtjimoegegigoiaaDoor
open Go.RowKit Go.Shelf
set_option maxRecDepth 100000
set_option maxHeartbeats 4000000
set_option linter.unusedSimpArgs false
set_option linter.unusedVariables false

theorem eapmeet_s (name server : ByteArray) (A2 : Option Addr) (n2 c2 : Nat) (A3 : Option Addr) (n3 c3 : Nat) (A4 : Option Addr) (n4 c4 : Nat) (A5 : Option Addr) (n5 c5 : Nat) (ss mm : List Sec) (one two : List UInt8) (w : World) (hn0 : name.size ≤ 140737488351232) (hn1 : server.size ≤ 140737488351232) (hs : SecRd w w.heap.size A2 n2 ss) (hm : SecRd w w.heap.size A3 n3 mm) (hr4 : Rd w w.heap.size A4 n4 one) (z4 : A4 = none → c4 = 0) (hr5 : Rd w w.heap.size A5 n5 two) (z5 : A5 = none → c5 = 0) (hK : TabK w) (hS : TabS w) (hno : ¬ (nameB server = true ∧ (chk ss).1 = 0)) : Calls Tryd.prog 5 #[.string name, .string server, .slice A2 n2 c2, .slice A3 n3 c3, .slice A4 n4 c4, .slice A5 n5 c5] w fun e w' => e = .returned (.bool true) ∧ Below w.heap.size w w' := by
  have C0 : Hid (Calls Tryd.prog 19 #[.string server, .slice A2 n2 c2, .int .i64 5] w fun e w1 => ∃ er z, er ≠ 0 ∧ e = .returned (.tuple #[.pointer none, .int .i64 er, .int .i64 z]) ∧ Calls Tryd.prog 27 #[.string name, .slice A3 n3 c3] w1 fun e w2 => ∃ (p : Option Addr) (ef z2 : Int), e = .returned (.tuple #[.pointer p, .int .i64 ef, .int .i64 z2]) ∧ Calls Tryd.prog 18 #[] w2 fun e w' => e = .returned (.bool true) ∧ Below w.heap.size w w') := by
    refine (newServer_any server 5 A2 n2 c2 w.heap.size ss w (by unfold maxLen; omega) hs (Nat.le_refl _) hK hS).mono ?_
    rintro e w1 ⟨b1, h⟩
    have NP : Calls Tryd.prog 27 #[.string name, .slice A3 n3 c3] w1 fun e w2 => ∃ (p : Option Addr) (ef z2 : Int), e = .returned (.tuple #[.pointer p, .int .i64 ef, .int .i64 z2]) ∧ Calls Tryd.prog 18 #[] w2 fun e w' => e = .returned (.bool true) ∧ Below w.heap.size w w' := by
      refine (newPeer_any name A3 n3 c3 w.heap.size mm w1 (by unfold maxLen; omega) (hm.below b1 (Nat.le_refl _)) b1.size (hK.kept b1) (hS.kept b1)).mono ?_
      rintro e w2 ⟨b2, h2⟩
      have B2 := step_to b1 b2
      have AWK : Calls Tryd.prog 18 #[] w2 fun e w' => e = .returned (.bool true) ∧ Below w.heap.size w w' := (awake_any w2 (hK.kept B2) (hS.kept B2)).mono fun e w' hh => ⟨hh.1, step_to B2 hh.2⟩
      rcases h2 with ⟨-, rfl⟩ | ⟨-, -, rfl⟩ | ⟨-, -, g2, tb2, -, -, rfl, -⟩
      · exact ⟨_, _, _, rfl, AWK⟩
      · exact ⟨_, _, _, rfl, AWK⟩
      · exact ⟨_, _, _, rfl, AWK⟩
    rcases h with ⟨h, rfl⟩ | ⟨-, h, rfl⟩ | ⟨-, -, h, rfl⟩ | ⟨h1, -, h2, -⟩
    · exact ⟨_, _, by decide, rfl, NP⟩
    · exact ⟨_, _, by decide, rfl, NP⟩
    · exact ⟨_, _, h, rfl, NP⟩
    · exact absurd ⟨h1, h2⟩ hno
  clear hs hm hr4 z4 hr5 z5 hK hS hn0 hn1 hno
  go_enter Tryd.func5, Tryd.ntmps5
  go_wp2_with (first
    | (go_at_call 19; ((with_reducible refine C0.out.mono ?_); rintro e w1 ⟨er, z, hz, rfl, n1⟩; have hz1 : (er != 0) = true := (by simpa using hz); have C1 := Lib.hid n1; clear n1 hz))
    | (go_at_call 27; ((with_reducible refine C1.out.mono ?_); rintro e w2 ⟨p, ef, z2, rfl, n1⟩; have C2 := Lib.hid n1; clear n1))
    | (go_at_call 18; ((with_reducible refine C2.out.mono ?_); rintro e w9 ⟨rfl, b4⟩; have F := Lib.hid b4; clear b4)))
  go_ret
  exact ⟨rfl, F.out⟩
theorem eapmeet_p (name server : ByteArray) (A2 : Option Addr) (n2 c2 : Nat) (A3 : Option Addr) (n3 c3 : Nat) (A4 : Option Addr) (n4 c4 : Nat) (A5 : Option Addr) (n5 c5 : Nat) (ss mm : List Sec) (one two : List UInt8) (w : World) (hn0 : name.size ≤ 140737488351232) (hn1 : server.size ≤ 140737488351232) (hs : SecRd w w.heap.size A2 n2 ss) (hm : SecRd w w.heap.size A3 n3 mm) (hr4 : Rd w w.heap.size A4 n4 one) (z4 : A4 = none → c4 = 0) (hr5 : Rd w w.heap.size A5 n5 two) (z5 : A5 = none → c5 = 0) (hK : TabK w) (hS : TabS w) (hsv : nameB server = true) (hck : (chk ss).1 = 0) (hno : ¬ (nameB name = true ∧ (chk mm).1 = 0)) : Calls Tryd.prog 5 #[.string name, .string server, .slice A2 n2 c2, .slice A3 n3 c3, .slice A4 n4 c4, .slice A5 n5 c5] w fun e w' => e = .returned (.bool true) ∧ Below w.heap.size w w' := by
  have C0 : Hid (Calls Tryd.prog 19 #[.string server, .slice A2 n2 c2, .int .i64 5] w fun e w1 => ∃ g1, e = .returned (.tuple #[.pointer (some ⟨g1, 0, none⟩), .int .i64 0, .int .i64 0]) ∧ Calls Tryd.prog 27 #[.string name, .slice A3 n3 c3] w1 fun e w2 => ∃ ef z2, ef ≠ 0 ∧ e = .returned (.tuple #[.pointer none, .int .i64 ef, .int .i64 z2]) ∧ Calls Tryd.prog 18 #[] w2 fun e w' => e = .returned (.bool true) ∧ Below w.heap.size w w') := by
    refine (newServer_any server 5 A2 n2 c2 w.heap.size ss w (by unfold maxLen; omega) hs (Nat.le_refl _) hK hS).mono ?_
    rintro e w1 ⟨b1, ⟨h, -⟩ | ⟨-, h, -⟩ | ⟨-, -, h, -⟩ | ⟨-, -, -, g1, tb1, l1, l1', rfl, hs1⟩⟩
    · rw [hsv] at h; cases h
    · cases h
    · exact absurd hck h
    refine ⟨g1, rfl, ?_⟩
    refine (newPeer_any name A3 n3 c3 w.heap.size mm w1 (by unfold maxLen; omega) (hm.below b1 (Nat.le_refl _)) b1.size (hK.kept b1) (hS.kept b1)).mono ?_
    rintro e w2 ⟨b2, h2⟩
    have B2 := step_to b1 b2
    have AWK : Calls Tryd.prog 18 #[] w2 fun e w' => e = .returned (.bool true) ∧ Below w.heap.size w w' := (awake_any w2 (hK.kept B2) (hS.kept B2)).mono fun e w' hh => ⟨hh.1, step_to B2 hh.2⟩
    rcases h2 with ⟨-, rfl⟩ | ⟨-, h, rfl⟩ | ⟨q1, q2, -⟩
    · exact ⟨_, _, by decide, rfl, AWK⟩
    · exact ⟨_, _, h, rfl, AWK⟩
    · exact absurd ⟨q1, q2⟩ hno
  clear hs hm hr4 z4 hr5 z5 hK hS hn0 hn1 hno hsv hck
  go_enter Tryd.func5, Tryd.ntmps5
  go_wp2_with (first
    | (go_at_call 19; ((with_reducible refine C0.out.mono ?_); rintro e w1 ⟨g1, rfl, n1⟩; have C1 := Lib.hid n1; clear n1))
    | (go_at_call 27; ((with_reducible refine C1.out.mono ?_); rintro e w2 ⟨ef, z2, hz, rfl, n1⟩; have hz1 : (ef != 0) = true := (by simpa using hz); have C2 := Lib.hid n1; clear n1 hz))
    | (go_at_call 18; ((with_reducible refine C2.out.mono ?_); rintro e w9 ⟨rfl, b4⟩; have F := Lib.hid b4; clear b4)))
  go_ret
  exact ⟨rfl, F.out⟩
theorem eapmeet_walk (name server : ByteArray) (A2 : Option Addr) (n2 c2 : Nat) (A3 : Option Addr) (n3 c3 : Nat) (A4 : Option Addr) (n4 c4 : Nat) (A5 : Option Addr) (n5 c5 : Nat) (ss mm : List Sec) (one two : List UInt8) (w : World) (hn0 : name.size ≤ 140737488351232) (hn1 : server.size ≤ 140737488351232) (hs : SecRd w w.heap.size A2 n2 ss) (hm : SecRd w w.heap.size A3 n3 mm) (hr4 : Rd w w.heap.size A4 n4 one) (z4 : A4 = none → c4 = 0) (hr5 : Rd w w.heap.size A5 n5 two) (z5 : A5 = none → c5 = 0) (hK : TabK w) (hS : TabS w) : Calls Tryd.prog 5 #[.string name, .string server, .slice A2 n2 c2, .slice A3 n3 c3, .slice A4 n4 c4, .slice A5 n5 c5] w fun e w' => e = .returned (.bool true) ∧ Below w.heap.size w w' := by
  by_cases h1 : nameB server = true ∧ (chk ss).1 = 0
  case neg => exact eapmeet_s name server A2 n2 c2 A3 n3 c3 A4 n4 c4 A5 n5 c5 ss mm one two w hn0 hn1 hs hm hr4 z4 hr5 z5 hK hS h1
  by_cases h2 : nameB name = true ∧ (chk mm).1 = 0
  case neg => exact eapmeet_p name server A2 n2 c2 A3 n3 c3 A4 n4 c4 A5 n5 c5 ss mm one two w hn0 hn1 hs hm hr4 z4 hr5 z5 hK hS h1.1 h1.2 h2
  by_cases h3 : n4 < 1 ∨ 255 < n4 ∨ n5 < 1 ∨ 255 < n5
  · exact eapmeet_len name server A2 n2 c2 A3 n3 c3 A4 n4 c4 A5 n5 c5 ss mm one two w hn0 hn1 hs hm hr4 z4 hr5 z5 hK hS h1.1 h1.2 h2.1 h2.2 h3
  have a1 : 1 ≤ n4 := by omega
  have a2 : n4 ≤ 255 := by omega
  have a3 : 1 ≤ n5 := by omega
  have a4 : n5 ≤ 255 := by omega
  cases hx : wdB ss (bst ss name server)
  · exact eapmeet_none name server A2 n2 c2 A3 n3 c3 A4 n4 c4 A5 n5 c5 ss mm one two w hn0 hn1 hs hm hr4 z4 hr5 z5 hK hS h1.1 h1.2 h2.1 h2.2 a1 a2 a3 a4 hx
  · by_cases he : wdS mm (bst mm name server) = wdS ss (bst ss name server)
    · exact eapmeet_like name server A2 n2 c2 A3 n3 c3 A4 n4 c4 A5 n5 c5 ss mm one two w hn0 hn1 hs hm hr4 z4 hr5 z5 hK hS h1.1 h1.2 h2.1 h2.2 a1 a2 a3 a4 ⟨hx, he⟩
    · exact eapmeet_unlike name server A2 n2 c2 A3 n3 c3 A4 n4 c4 A5 n5 c5 ss mm one two w hn0 hn1 hs hm hr4 z4 hr5 z5 hK hS h1.1 h1.2 h2.1 h2.2 a1 a2 a3 a4 ⟨hx, he⟩
end Go.Proofs.YtjimoegegigoiaaDoor
