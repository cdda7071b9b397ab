/-
  The law EapProves: behind a proof (written by gen_eaprv3.py).
  The law EapProves: behind a proof (written by gen_eaprv3.py).
-/
import Derived.Test.YtjimoegegigoiaaDoorEaProvB
namespace Go.Proofs.YtjimoegegigoiaaDoor
open Go.RowKit Go.Shelf
set_option maxRecDepth 100000
set_option maxHeartbeats 2000000
set_option linter.unusedSimpArgs false
set_option linter.unusedVariables false

theorem eapproves_bad (name server : ByteArray) (A2 : Option Addr) (n2 c2 : Nat) (A3 : Option Addr) (n3 c3 : Nat) (A4 : Option Addr) (n4 c4 : Nat) (id : Int) (ss : List Sec) (chal prf : List UInt8) (w : World) (hn0 : name.size ≤ 140737488351232) (hn1 : server.size ≤ 140737488351232) (hs : SecRd w w.heap.size A2 n2 ss) (hr3 : Rd w w.heap.size A3 n3 chal) (z3 : A3 = none → c3 = 0) (q3 : n3 ≤ 140737488351232) (hr4 : Rd w w.heap.size A4 n4 prf) (z4 : A4 = none → c4 = 0) (q4 : n4 ≤ 140737488351232) (hK : TabK w) (hS : TabS w) (hsv : nameB server = true) (hck : (chk ss).1 = 0) (hbig : ¬ 16380 < 1 + name.size) (hk : knB ss server name = true) (hc : chB n3 = true) (P : List UInt8) (hP : (((n4 : Int) < 1 ∨ (255 : Int) < (n4 : Int)) ∧ P = digL 2 (wdS ss (bst ss name server)) chal) ∨ (¬ (n4 : Int) < 1 ∧ ¬ (255 : Int) < (n4 : Int) ∧ P = prf)) (hid : idB id = false) (hid2 : id ≠ 2) : Calls Tryd.prog 4 #[.string name, .string server, .slice A2 n2 c2, .slice A3 n3 c3, .slice A4 n4 c4, .int .i64 id] w fun e w' => e = .returned (.bool true) ∧ Below w.heap.size w w' := by
  have RN := Lib.hid (fun W => rname_any name W (by unfold maxLen; omega))
  have hkn : nameB name = true ∧ wdB ss (bst ss name server) = true := by
    unfold knB at hk
    simp at hk
    exact ⟨hk.2, hk.1⟩
  rw [hkn.1] at RN
  have hwz : (wdS ss (bst ss name server)).size ≤ 64 := wdS_size
  have hwb := hkn.2
  obtain ⟨wd, hwd⟩ : ∃ wd, wdS ss (bst ss name server) = wd := ⟨_, rfl⟩
  have hwe : wd.toList.isEmpty = false := by
    refine str_ne ?_
    unfold wdB at hwb
    rw [hwd] at hwb
    simpa using hwb
  have hch : 1 ≤ n3 ∧ n3 ≤ 255 := by
    unfold chB at hc
    simp at hc
    omega
  have hcl := hr3.1
  rw [hwd] at hwz
  have hdl := digL_length 2 wd chal
  have hPd := hP
  rw [hwd] at hPd
  obtain ⟨dg, hdg⟩ : ∃ dg, digL 2 wd chal = dg := ⟨_, rfl⟩
  have hdg0 : digL 2 (wdS ss (bst ss name server)) chal = dg := by rw [hwd]; exact hdg
  rw [hdg] at hdl
  rw [hdg0] at hP
  obtain ⟨v0, v1, v2, v3, v4, v5, v6, v7, v8, v9, v10, v11, v12, v13, v14, v15, rfl⟩ := list16' dg hdl
  have C0 : Hid (Calls Tryd.prog 19 #[.string server, .slice A2 n2 c2, .int .i64 5] w fun e w1 => ∃ g, e = .returned (.tuple #[.pointer (some ⟨g, 0, none⟩), .int .i64 0, .int .i64 0]) ∧
      Calls Tryd.prog 20 #[.pointer (some ⟨g, 0, none⟩)] w1 fun e w2 => ∃ D1 k1 d1, e = .returned (.tuple #[.agg #[.int .i64 1, .int .i64 1, .slice D1 k1 d1], .int .i64 0]) ∧ ∃ V2, w2.alloc (.cells #[.int .i64 1, .int .i64 1, .slice D1 k1 d1] 24) = V2 ∧ Blk V2 w2.heap.size 24 [.int .i64 1, .int .i64 1, .slice D1 k1 d1] ∧
      Calls Tryd.prog 15 #[.agg #[.int .i64 2, .int .i64 1, .int .i64 1, .slice none 0 0, .string name]] V2 fun e w3 => ∃ Dp kp dp, e = .returned (.tuple #[.agg #[.int .i64 2, .int .i64 1, .slice Dp kp dp], .int .i64 0]) ∧ ∃ V3, w3.alloc (.cells #[.int .i64 2, .int .i64 1, .slice Dp kp dp] 24) = V3 ∧ Blk V3 w3.heap.size 24 [.int .i64 2, .int .i64 1, .slice Dp kp dp] ∧
      Calls Tryd.prog 21 #[.pointer (some ⟨g, 0, none⟩), .agg #[.int .i64 2, .int .i64 1, .slice Dp kp dp], .slice A3 n3 c3] V3 fun e w4 => ∃ D4 k4 d4, e = .returned (.tuple #[.agg #[.int .i64 1, .int .i64 2, .slice D4 k4 d4], .bool true, .int .i64 0]) ∧ ∃ V4, w4.alloc (.cells #[.int .i64 1, .int .i64 2, .slice D4 k4 d4] 24) = V4 ∧ Blk V4 w4.heap.size 24 [.int .i64 1, .int .i64 2, .slice D4 k4 d4] ∧
      Calls Tryd.prog 22 #[.slice A2 n2 c2, .string name, .string server] V4 fun e w5 => ∃ a1 a2 E m k b, e = .returned (.tuple #[.agg #[.string a1, .string a2, .string wd, .slice E m k], .bool b]) ∧ ∃ V5, w5.alloc (.cells #[.string a1, .string a2, .string wd, .slice E m k] 50) = V5 ∧ Blk V5 w5.heap.size 50 [.string a1, .string a2, .string wd, .slice E m k] ∧ Blk V5 w4.heap.size 24 [.int .i64 1, .int .i64 2, .slice D4 k4 d4] ∧ Calls Tryd.prog 25 #[.int .i64 2, .string wd, .slice A3 n3 c3] V5 fun e w6 => e = .returned (.tuple #[.agg #[.int .u8 (v0.toNat : Int), .int .u8 (v1.toNat : Int), .int .u8 (v2.toNat : Int), .int .u8 (v3.toNat : Int), .int .u8 (v4.toNat : Int), .int .u8 (v5.toNat : Int), .int .u8 (v6.toNat : Int), .int .u8 (v7.toNat : Int), .int .u8 (v8.toNat : Int), .int .u8 (v9.toNat : Int), .int .u8 (v10.toNat : Int), .int .u8 (v11.toNat : Int), .int .u8 (v12.toNat : Int), .int .u8 (v13.toNat : Int), .int .u8 (v14.toNat : Int), .int .u8 (v15.toNat : Int)], .int .i64 0]) ∧ ∃ U, w6.alloc (.cells #[.int .u8 (v0.toNat : Int), .int .u8 (v1.toNat : Int), .int .u8 (v2.toNat : Int), .int .u8 (v3.toNat : Int), .int .u8 (v4.toNat : Int), .int .u8 (v5.toNat : Int), .int .u8 (v6.toNat : Int), .int .u8 (v7.toNat : Int), .int .u8 (v8.toNat : Int), .int .u8 (v9.toNat : Int), .int .u8 (v10.toNat : Int), .int .u8 (v11.toNat : Int), .int .u8 (v12.toNat : Int), .int .u8 (v13.toNat : Int), .int .u8 (v14.toNat : Int), .int .u8 (v15.toNat : Int)] 55) = U ∧ Blk U w4.heap.size 24 [.int .i64 1, .int .i64 2, .slice D4 k4 d4] ∧ w6.heap.size < U.heap.size ∧
      ∀ A' n' c', (((n4 : Int) < 1 ∨ (255 : Int) < (n4 : Int)) ∧ A' = some ⟨w6.heap.size, 0, none⟩ ∧ n' = 16 ∧ c' = 16) ∨ (¬ (n4 : Int) < 1 ∧ ¬ (255 : Int) < (n4 : Int) ∧ A' = A4 ∧ n' = n4 ∧ c' = c4) → Calls Tryd.prog 15 #[.agg #[.int .i64 2, .int .i64 id, .int .i64 4, .slice A' n' c', .string ⟨#[]⟩]] U fun e w7 => ∃ Dq kq dq, e = .returned (.tuple #[.agg #[.int .i64 0, .int .i64 0, .slice Dq kq dq], .int .i64 1]) ∧ ∃ V7, w7.alloc (.cells #[.int .i64 0, .int .i64 0, .slice Dq kq dq] 24) = V7 ∧ Blk V7 w7.heap.size 24 [.int .i64 0, .int .i64 0, .slice Dq kq dq] ∧
      Calls Tryd.prog 21 #[.pointer (some ⟨g, 0, none⟩), .agg #[.int .i64 0, .int .i64 0, .slice Dq kq dq], .slice none 0 0] V7 fun e w8 => ∃ Dc kc dc, e = .returned (.tuple #[.agg #[.int .i64 0, .int .i64 0, .slice Dc kc dc], .bool false, .int .i64 90]) ∧ ∃ V8, w8.alloc (.cells #[.int .i64 0, .int .i64 0, .slice Dc kc dc] 24) = V8 ∧ Blk V8 w8.heap.size 24 [.int .i64 0, .int .i64 0, .slice Dc kc dc] ∧ Blk V8 w4.heap.size 24 [.int .i64 1, .int .i64 2, .slice D4 k4 d4] ∧ (Calls Tryd.prog 24 #[.pointer (some ⟨g, 0, none⟩)] V8 fun e w' => e = .returned (.int .i64 2) ∧ V8 = w') ∧ Calls Tryd.prog 18 #[] V8 fun e w' => e = .returned (.bool true) ∧ Below w.heap.size w w') := by
    refine (newServer_any server 5 A2 n2 c2 w.heap.size ss w (by unfold maxLen; omega) hs (Nat.le_refl _) hK hS).mono ?_
    rintro e w1 ⟨b1, ⟨h, -⟩ | ⟨-, h, -⟩ | ⟨-, -, h, -⟩ | ⟨-, -, -, g, tb, l1, l1', rfl, hs1⟩⟩
    · rw [hsv] at h; cases h
    · cases h
    · exact absurd hck h
    refine ⟨g, rfl, ?_⟩
    have z1 := b1.size
    have lg1 := hs1.lt
    refine (start_any w.heap.size g tb server 5 ss sv0 w1 hs1 (by decide) (by decide)).mono ?_
    rintro e w2 ⟨v, rfl, D1, k1, d1, hv, o1, G2, hs2, _⟩
    rw [ex_s1] at hs2 hv
    injection hv with hv
    subst hv
    have B2 := below_row b1 G2 (by omega)
    obtain ⟨V2, hV2⟩ : ∃ V2, w2.alloc (.cells #[.int .i64 1, .int .i64 1, .slice D1 k1 d1] 24) = V2 := ⟨_, rfl⟩
    have bV2 : Below w2.heap.size w2 V2 := by rw [← hV2]; exact (Below.refl _ _).alloc (Nat.le_refl _) _
    have nV2 : Blk V2 w2.heap.size 24 [.int .i64 1, .int .i64 1, .slice D1 k1 d1] := by rw [← hV2]; exact heap_alloc_new w2 _
    have BV2 := step_to B2 bV2
    have hsV2 := hs2.later bV2
    have z2 := G2.size
    have z2' := bV2.size
    refine ⟨D1, k1, d1, rfl, V2, hV2, nV2, ?_⟩
    have RW := rwrite_id 1 name V2 (by decide) (by omega)
    rw [if_neg hbig] at RW
    refine RW.mono ?_
    rintro e w3 ⟨b3, Dp, kp, dp, he, op⟩
    simp only [if_true] at he op
    obtain ⟨V3, hV3⟩ : ∃ V3, w3.alloc (.cells #[.int .i64 2, .int .i64 1, .slice Dp kp dp] 24) = V3 := ⟨_, rfl⟩
    have bV3 : Below w3.heap.size w3 V3 := by rw [← hV3]; exact (Below.refl _ _).alloc (Nat.le_refl _) _
    have nV3 : Blk V3 w3.heap.size 24 [.int .i64 2, .int .i64 1, .slice Dp kp dp] := by rw [← hV3]; exact heap_alloc_new w3 _
    have BV3 := step_to (step_to BV2 b3) bV3
    have hsV3 := (hsV2.later b3).later bV3
    have rp := own_rd (op.later bV3)
    have hlp : (dtL 2 1 [] name).length = 1 + name.size := by
      unfold dtL
      rw [if_neg (by decide), if_pos rfl, List.length_append]
      have : name.data.toList.length = name.size := Array.length_toList
      rw [this]
      rfl
    have hkp : kp ≤ 16380 := by rw [← rp.1.1, hlp]; omega
    have z3' := b3.size
    have z3'' := bV3.size
    refine ⟨Dp, kp, dp, he, V3, hV3, nV3, ?_⟩
    have ST := stake_any w.heap.size g tb server 5 ss s1 1 Dp kp dp V3.heap.size (dtL 2 1 [] name) A3 n3 c3 w.heap.size chal V3 hsV3 ⟨by decide, by decide, by decide⟩ (name_le hsv) rp.1 (Nat.le_refl _) (by omega) (hr3.below BV3) BV3.size z3 (fun e => absurd e (by decide)) (pr_one name).1
    obtain ⟨t1, t2, t3⟩ := pr_yes ss name server n3 chal hk hc
    rw [t1, t2, t3] at ST
    refine ST.mono ?_
    rintro e w4 ⟨D4, k4, d4, rfl, o4, G4, hs4⟩
    have B4 := below_row BV3 G4 (by omega)
    obtain ⟨V4, hV4⟩ : ∃ V4, w4.alloc (.cells #[.int .i64 1, .int .i64 2, .slice D4 k4 d4] 24) = V4 := ⟨_, rfl⟩
    have bV4 : Below w4.heap.size w4 V4 := by rw [← hV4]; exact (Below.refl _ _).alloc (Nat.le_refl _) _
    have nV4 : Blk V4 w4.heap.size 24 [.int .i64 1, .int .i64 2, .slice D4 k4 d4] := by rw [← hV4]; exact heap_alloc_new w4 _
    have BV4 := step_to B4 bV4
    have hsV4 := hs4.later bV4
    have z4' := G4.size
    have z4'' := bV4.size
    refine ⟨D4, k4, d4, rfl, V4, hV4, nV4, ?_⟩
    refine (rfind_any A2 n2 c2 w.heap.size ss name server V4 (hs.below BV4 (Nat.le_refl _)) BV4.size).mono ?_
    intro e w5 hf
    obtain ⟨a1, a2, E, m, k, b, rfl, b5⟩ := rfindR_box hf
    rw [hwd]
    obtain ⟨V5, hV5⟩ : ∃ V5, w5.alloc (.cells #[.string a1, .string a2, .string wd, .slice E m k] 50) = V5 := ⟨_, rfl⟩
    have bV5 : Below w5.heap.size w5 V5 := by rw [← hV5]; exact (Below.refl _ _).alloc (Nat.le_refl _) _
    have nV5 : Blk V5 w5.heap.size 50 [.string a1, .string a2, .string wd, .slice E m k] := by rw [← hV5]; exact heap_alloc_new w5 _
    have b45 := step_to b5 bV5
    have BV5 := step_to BV4 b45
    have hsV5 := hsV4.later b45
    have z5 := b45.size
    refine ⟨a1, a2, E, m, k, b, rfl, V5, hV5, nV5, past_same nV4 b45, ?_⟩
    have RS := resp_dig 2 wd A3 n3 c3 w.heap.size chal V5 (by decide) (by decide) (hr3.below BV5) BV5.size z3 (by omega) (by omega) (hK.kept BV5) (hS.kept BV5)
    rw [hdg] at RS
    refine RS.mono ?_
    rintro e w6 ⟨rfl, b6⟩
    obtain ⟨U, hU⟩ : ∃ U, w6.alloc (.cells #[.int .u8 (v0.toNat : Int), .int .u8 (v1.toNat : Int), .int .u8 (v2.toNat : Int), .int .u8 (v3.toNat : Int), .int .u8 (v4.toNat : Int), .int .u8 (v5.toNat : Int), .int .u8 (v6.toNat : Int), .int .u8 (v7.toNat : Int), .int .u8 (v8.toNat : Int), .int .u8 (v9.toNat : Int), .int .u8 (v10.toNat : Int), .int .u8 (v11.toNat : Int), .int .u8 (v12.toNat : Int), .int .u8 (v13.toNat : Int), .int .u8 (v14.toNat : Int), .int .u8 (v15.toNat : Int)] 55) = U := ⟨_, rfl⟩
    have bU : Below w6.heap.size w6 U := by rw [← hU]; exact (Below.refl _ _).alloc (Nat.le_refl _) _
    have nU : Blk U w6.heap.size 55 ([v0, v1, v2, v3, v4, v5, v6, v7, v8, v9, v10, v11, v12, v13, v14, v15].map cellOf) := by rw [← hU]; exact heap_alloc_new w6 _
    have rU : Rd U U.heap.size (some ⟨w6.heap.size, 0, none⟩) 16 [v0, v1, v2, v3, v4, v5, v6, v7, v8, v9, v10, v11, v12, v13, v14, v15] := by
      refine ⟨rfl, fun _ => ⟨w6.heap.size, 0, rfl, Blk.lt nU, fun j hj => ?_⟩⟩
      rw [Nat.zero_add, nU.cell, cells_at _ j (by simpa using hj)]
    have b56 := step_to b6 bU
    have BU := step_to BV5 b56
    have hsU := hsV5.later b56
    have nbU := past_same (past_same nV4 b45) b56
    have zU := b56.size
    have lwU := Blk.lt nU
    refine ⟨rfl, U, hU, nbU, lwU, fun A' n' c' hsel => ?_⟩
    have hrP : Rd U U.heap.size A' n' P ∧ (A' = none → c' = 0) ∧ 1 ≤ n' ∧ n' ≤ 255 := by
      rcases hsel with ⟨h, rfl, rfl, rfl⟩ | ⟨h1, h2, rfl, rfl, rfl⟩
      · rcases hP with ⟨_, hP⟩ | ⟨h3, h4, _⟩
        · rw [hP]
          exact ⟨rU, (fun e => by cases e), by decide, by decide⟩
        · omega
      · rcases hP with ⟨h3, _⟩ | ⟨_, _, hP⟩
        · omega
        · rw [hP]
          exact ⟨(hr4.below BU).wide BU.size, z4, by omega, by omega⟩
    have hPl : P.length = n' := hrP.1.1
    have RP := rwrite_pf id A' n' c' U.heap.size P U hrP.1 (Nat.le_refl _) hrP.2.1 hrP.2.2.1 hrP.2.2.2
    rw [if_pos hid] at RP
    refine RP.mono ?_
    rintro e w7 ⟨b7, Dq, kq, dq, he, oq⟩
    rw [if_neg (by decide), if_neg (by decide)] at he
    rw [if_neg (by decide)] at oq
    obtain ⟨V7, hV7⟩ : ∃ V7, w7.alloc (.cells #[.int .i64 0, .int .i64 0, .slice Dq kq dq] 24) = V7 := ⟨_, rfl⟩
    have bV7 : Below w7.heap.size w7 V7 := by rw [← hV7]; exact (Below.refl _ _).alloc (Nat.le_refl _) _
    have nV7 : Blk V7 w7.heap.size 24 [.int .i64 0, .int .i64 0, .slice Dq kq dq] := by rw [← hV7]; exact heap_alloc_new w7 _
    have b67 := step_to b7 bV7
    have BV7 := step_to BU b67
    have hsV7 := hsU.later b67
    have rq := own_rd (oq.later bV7)
    have nb7 := past_same nbU b67
    have z7 := b67.size
    refine ⟨Dq, kq, dq, he, V7, hV7, nV7, ?_⟩
    have TE : tkE (s2g name server chal) 0 0 [] = 90 := pq_bad name server chal
    have TK := stake_no w.heap.size g tb server 5 ss (s2g name server chal) 0 0 Dq kq dq V7.heap.size [] none 0 0 V7 hsV7 rq.1 (Nat.le_refl _) (by have := rq.1.1; rw [← this]; decide) (by rw [TE]; decide)
    rw [TE] at TK
    refine TK.mono ?_
    rintro e w8 ⟨rfl, b8⟩
    have bA : Below w8.heap.size w8 (w8.alloc (.cells #[.int .i64 0, .int .i64 0, .slice none 0 0] 24)) := (Below.refl _ _).alloc (Nat.le_refl _) _
    have b78 := step_to b8 bA
    have BV8 := step_to BV7 b78
    exact ⟨none, 0, 0, rfl, _, rfl, heap_alloc_new w8 _, past_same nb7 b78, sstate_any _ _ _ _ _ _ _ _ (hsV7.later b78), (awake_any _ (hK.kept BV8) (hS.kept BV8)).mono fun e w' hh => ⟨hh.1, step_to BV8 hh.2⟩⟩
  have hne : (id != 2) = true := by simpa using hid2
  have n31 : ¬ (n3 : Int) < 1 := by omega
  have n32 : ¬ (255 : Int) < (n3 : Int) := by omega
  have way : ((n4 : Int) < 1) ∨ (¬ (n4 : Int) < 1 ∧ 255 < (n4 : Int)) ∨ (¬ (n4 : Int) < 1 ∧ ¬ 255 < (n4 : Int)) := by omega
  clear hs hr3 z3 q3 hr4 z4 q4 hK hS hn0 hn1 hsv hck hbig hk hc hkn hwz hwb hwd hch hcl hdl hPd hdg hdg0 hP hid hid2
  rcases way with h1 | ⟨h1, h2⟩ | ⟨h1, h2⟩
  · have HC := Lib.hid (show ((n4 : Int) < 1) from h1)
    go_enter Tryd.func4, Tryd.ntmps4
    go_wp2_with (first
      | (go_at_call 19; ((with_reducible refine C0.out.mono ?_); rintro e w1 ⟨g, rfl, n1⟩; have C1 := Lib.hid n1; clear n1))
      | (go_at_call 20; ((with_reducible refine C1.out.mono ?_); rintro e w2 ⟨D1, k1, d1, rfl, V2, hV2, p2, n1⟩; have HV2 := Lib.hid hV2; have x0 := p2.cell 0; have x1 := p2.cell 1; have x2 := p2.cell 2; have C2 := Lib.hid n1; clear hV2 p2 n1))
      | (rw [HV2.out])
      | (go_at_call 15; ((with_reducible refine C2.out.mono ?_); rintro e w3 ⟨Dp, kp, dp, rfl, V3, hV3, p3, n1⟩; have HV3 := Lib.hid hV3; have y0 := p3.cell 0; have y1 := p3.cell 1; have y2 := p3.cell 2; have C3 := Lib.hid n1; clear hV3 p3 n1))
      | (rw [HV3.out])
      | (go_at_call 21; ((with_reducible refine C3.out.mono ?_); rintro e w4 ⟨D4, k4, d4, rfl, V4, hV4, p4, n1⟩; have HV4 := Lib.hid hV4; have C4 := Lib.hid n1; clear hV4 p4 n1))
      | (rw [HV4.out])
      | (go_at_call 22; ((with_reducible refine C4.out.mono ?_); rintro e w5 ⟨a1, a2, E, m, k, b, rfl, V5, hV5, ps, pb, n1⟩; have HV5 := Lib.hid hV5; have s2 := ps.cell 2; have b0 := pb.cell 0; have b1 := pb.cell 1; have C5 := Lib.hid n1; clear hV5 ps pb n1))
      | (rw [HV5.out])
      | (go_at_call 23; ((with_reducible refine (RN.out _).mono ?_); rintro e w' ⟨rfl, rfl⟩))
      | (go_at_call 25; ((with_reducible refine C5.out.mono ?_); rintro e w6 ⟨rfl, U, hU, pu, lU, n1⟩; have HU := Lib.hid hU; have ub1 := pu.cell 1; have C6 := Lib.hid n1; clear hU pu n1))
      | (rw [HU.out])
      | (go_at_call 15; ((with_reducible refine (C6.out _ _ _ (.inl ⟨.inl HC.out, rfl, rfl, rfl⟩)).mono ?_); rintro e w7 ⟨Dq, kq, dq, rfl, V7, hV7, p7, n1⟩; have HV7 := Lib.hid hV7; have q0 := p7.cell 0; have q1 := p7.cell 1; have q2 := p7.cell 2; have C7 := Lib.hid n1; clear hV7 p7 n1))
      | (rw [HV7.out])
      | (go_at_call 21; ((with_reducible refine C7.out.mono ?_); rintro e w8 ⟨Dc, kc, dc, rfl, V8, hV8, p8, pb8, st8, aw8⟩; have HV8 := Lib.hid hV8; have c0 := p8.cell 0; have bb0 := pb8.cell 0; have bb1 := pb8.cell 1; have l8 := Blk.lt p8; have lb8 := Blk.lt pb8; have ST8 := Lib.hid st8; have AW8 := Lib.hid aw8; clear hV8 p8 pb8 st8 aw8))
      | (rw [HV8.out])
      | (go_at_call 24; ((with_reducible refine ST8.out.mono ?_); rintro e w' ⟨rfl, rfl⟩))
      | (go_at_call 18; ((with_reducible refine AW8.out.mono ?_); rintro e w9 ⟨rfl, b4⟩; have F := Lib.hid b4; clear b4)))
    go_ret
    exact ⟨rfl, F.out⟩
  · have HC := Lib.hid (show (255 < (n4 : Int)) from h2)
    go_enter Tryd.func4, Tryd.ntmps4
    go_wp2_with (first
      | (go_at_call 19; ((with_reducible refine C0.out.mono ?_); rintro e w1 ⟨g, rfl, n1⟩; have C1 := Lib.hid n1; clear n1))
      | (go_at_call 20; ((with_reducible refine C1.out.mono ?_); rintro e w2 ⟨D1, k1, d1, rfl, V2, hV2, p2, n1⟩; have HV2 := Lib.hid hV2; have x0 := p2.cell 0; have x1 := p2.cell 1; have x2 := p2.cell 2; have C2 := Lib.hid n1; clear hV2 p2 n1))
      | (rw [HV2.out])
      | (go_at_call 15; ((with_reducible refine C2.out.mono ?_); rintro e w3 ⟨Dp, kp, dp, rfl, V3, hV3, p3, n1⟩; have HV3 := Lib.hid hV3; have y0 := p3.cell 0; have y1 := p3.cell 1; have y2 := p3.cell 2; have C3 := Lib.hid n1; clear hV3 p3 n1))
      | (rw [HV3.out])
      | (go_at_call 21; ((with_reducible refine C3.out.mono ?_); rintro e w4 ⟨D4, k4, d4, rfl, V4, hV4, p4, n1⟩; have HV4 := Lib.hid hV4; have C4 := Lib.hid n1; clear hV4 p4 n1))
      | (rw [HV4.out])
      | (go_at_call 22; ((with_reducible refine C4.out.mono ?_); rintro e w5 ⟨a1, a2, E, m, k, b, rfl, V5, hV5, ps, pb, n1⟩; have HV5 := Lib.hid hV5; have s2 := ps.cell 2; have b0 := pb.cell 0; have b1 := pb.cell 1; have C5 := Lib.hid n1; clear hV5 ps pb n1))
      | (rw [HV5.out])
      | (go_at_call 23; ((with_reducible refine (RN.out _).mono ?_); rintro e w' ⟨rfl, rfl⟩))
      | (go_at_call 25; ((with_reducible refine C5.out.mono ?_); rintro e w6 ⟨rfl, U, hU, pu, lU, n1⟩; have HU := Lib.hid hU; have ub1 := pu.cell 1; have C6 := Lib.hid n1; clear hU pu n1))
      | (rw [HU.out])
      | (go_at_call 15; ((with_reducible refine (C6.out _ _ _ (.inl ⟨.inr HC.out, rfl, rfl, rfl⟩)).mono ?_); rintro e w7 ⟨Dq, kq, dq, rfl, V7, hV7, p7, n1⟩; have HV7 := Lib.hid hV7; have q0 := p7.cell 0; have q1 := p7.cell 1; have q2 := p7.cell 2; have C7 := Lib.hid n1; clear hV7 p7 n1))
      | (rw [HV7.out])
      | (go_at_call 21; ((with_reducible refine C7.out.mono ?_); rintro e w8 ⟨Dc, kc, dc, rfl, V8, hV8, p8, pb8, st8, aw8⟩; have HV8 := Lib.hid hV8; have c0 := p8.cell 0; have bb0 := pb8.cell 0; have bb1 := pb8.cell 1; have l8 := Blk.lt p8; have lb8 := Blk.lt pb8; have ST8 := Lib.hid st8; have AW8 := Lib.hid aw8; clear hV8 p8 pb8 st8 aw8))
      | (rw [HV8.out])
      | (go_at_call 24; ((with_reducible refine ST8.out.mono ?_); rintro e w' ⟨rfl, rfl⟩))
      | (go_at_call 18; ((with_reducible refine AW8.out.mono ?_); rintro e w9 ⟨rfl, b4⟩; have F := Lib.hid b4; clear b4)))
    go_ret
    exact ⟨rfl, F.out⟩
  · have HC := Lib.hid (show (¬ (n4 : Int) < 1 ∧ ¬ (255 : Int) < (n4 : Int)) from ⟨h1, h2⟩)
    go_enter Tryd.func4, Tryd.ntmps4
    go_wp2_with (first
      | (go_at_call 19; ((with_reducible refine C0.out.mono ?_); rintro e w1 ⟨g, rfl, n1⟩; have C1 := Lib.hid n1; clear n1))
      | (go_at_call 20; ((with_reducible refine C1.out.mono ?_); rintro e w2 ⟨D1, k1, d1, rfl, V2, hV2, p2, n1⟩; have HV2 := Lib.hid hV2; have x0 := p2.cell 0; have x1 := p2.cell 1; have x2 := p2.cell 2; have C2 := Lib.hid n1; clear hV2 p2 n1))
      | (rw [HV2.out])
      | (go_at_call 15; ((with_reducible refine C2.out.mono ?_); rintro e w3 ⟨Dp, kp, dp, rfl, V3, hV3, p3, n1⟩; have HV3 := Lib.hid hV3; have y0 := p3.cell 0; have y1 := p3.cell 1; have y2 := p3.cell 2; have C3 := Lib.hid n1; clear hV3 p3 n1))
      | (rw [HV3.out])
      | (go_at_call 21; ((with_reducible refine C3.out.mono ?_); rintro e w4 ⟨D4, k4, d4, rfl, V4, hV4, p4, n1⟩; have HV4 := Lib.hid hV4; have C4 := Lib.hid n1; clear hV4 p4 n1))
      | (rw [HV4.out])
      | (go_at_call 22; ((with_reducible refine C4.out.mono ?_); rintro e w5 ⟨a1, a2, E, m, k, b, rfl, V5, hV5, ps, pb, n1⟩; have HV5 := Lib.hid hV5; have s2 := ps.cell 2; have b0 := pb.cell 0; have b1 := pb.cell 1; have C5 := Lib.hid n1; clear hV5 ps pb n1))
      | (rw [HV5.out])
      | (go_at_call 23; ((with_reducible refine (RN.out _).mono ?_); rintro e w' ⟨rfl, rfl⟩))
      | (go_at_call 25; ((with_reducible refine C5.out.mono ?_); rintro e w6 ⟨rfl, U, hU, pu, lU, n1⟩; have HU := Lib.hid hU; have ub1 := pu.cell 1; have C6 := Lib.hid n1; clear hU pu n1))
      | (rw [HU.out])
      | (go_at_call 15; ((with_reducible refine (C6.out _ _ _ (.inr ⟨HC.out.1, HC.out.2, rfl, rfl, rfl⟩)).mono ?_); rintro e w7 ⟨Dq, kq, dq, rfl, V7, hV7, p7, n1⟩; have HV7 := Lib.hid hV7; have q0 := p7.cell 0; have q1 := p7.cell 1; have q2 := p7.cell 2; have C7 := Lib.hid n1; clear hV7 p7 n1))
      | (rw [HV7.out])
      | (go_at_call 21; ((with_reducible refine C7.out.mono ?_); rintro e w8 ⟨Dc, kc, dc, rfl, V8, hV8, p8, pb8, st8, aw8⟩; have HV8 := Lib.hid hV8; have c0 := p8.cell 0; have bb0 := pb8.cell 0; have bb1 := pb8.cell 1; have l8 := Blk.lt p8; have lb8 := Blk.lt pb8; have ST8 := Lib.hid st8; have AW8 := Lib.hid aw8; clear hV8 p8 pb8 st8 aw8))
      | (rw [HV8.out])
      | (go_at_call 24; ((with_reducible refine ST8.out.mono ?_); rintro e w' ⟨rfl, rfl⟩))
      | (go_at_call 18; ((with_reducible refine AW8.out.mono ?_); rintro e w9 ⟨rfl, b4⟩; have F := Lib.hid b4; clear b4)))
    go_ret
    exact ⟨rfl, F.out⟩
end Go.Proofs.YtjimoegegigoiaaDoor
namespace Go.Proofs.YtjimoegegigoiaaDoor
open Go.RowKit Go.Shelf
set_option maxRecDepth 100000
set_option maxHeartbeats 2000000
set_option linter.unusedSimpArgs false
set_option linter.unusedVariables false

theorem eapproves_far (name server : ByteArray) (A2 : Option Addr) (n2 c2 : Nat) (A3 : Option Addr) (n3 c3 : Nat) (A4 : Option Addr) (n4 c4 : Nat) (id : Int) (ss : List Sec) (chal prf : List UInt8) (w : World) (hn0 : name.size ≤ 140737488351232) (hn1 : server.size ≤ 140737488351232) (hs : SecRd w w.heap.size A2 n2 ss) (hr3 : Rd w w.heap.size A3 n3 chal) (z3 : A3 = none → c3 = 0) (q3 : n3 ≤ 140737488351232) (hr4 : Rd w w.heap.size A4 n4 prf) (z4 : A4 = none → c4 = 0) (q4 : n4 ≤ 140737488351232) (hK : TabK w) (hS : TabS w) (hsv : nameB server = true) (hck : (chk ss).1 = 0) (hbig : ¬ 16380 < 1 + name.size) (hk : knB ss server name = true) (hc : chB n3 = true) (P : List UInt8) (hP : (((n4 : Int) < 1 ∨ (255 : Int) < (n4 : Int)) ∧ P = digL 2 (wdS ss (bst ss name server)) chal) ∨ (¬ (n4 : Int) < 1 ∧ ¬ (255 : Int) < (n4 : Int) ∧ P = prf)) (hid : idB id = true) (hid2 : id ≠ 2) : Calls Tryd.prog 4 #[.string name, .string server, .slice A2 n2 c2, .slice A3 n3 c3, .slice A4 n4 c4, .int .i64 id] w fun e w' => e = .returned (.bool true) ∧ Below w.heap.size w w' := by
  have RN := Lib.hid (fun W => rname_any name W (by unfold maxLen; omega))
  have hkn : nameB name = true ∧ wdB ss (bst ss name server) = true := by
    unfold knB at hk
    simp at hk
    exact ⟨hk.2, hk.1⟩
  rw [hkn.1] at RN
  have hwz : (wdS ss (bst ss name server)).size ≤ 64 := wdS_size
  have hwb := hkn.2
  obtain ⟨wd, hwd⟩ : ∃ wd, wdS ss (bst ss name server) = wd := ⟨_, rfl⟩
  have hwe : wd.toList.isEmpty = false := by
    refine str_ne ?_
    unfold wdB at hwb
    rw [hwd] at hwb
    simpa using hwb
  have hch : 1 ≤ n3 ∧ n3 ≤ 255 := by
    unfold chB at hc
    simp at hc
    omega
  have hcl := hr3.1
  rw [hwd] at hwz
  have hdl := digL_length 2 wd chal
  have hPd := hP
  rw [hwd] at hPd
  obtain ⟨dg, hdg⟩ : ∃ dg, digL 2 wd chal = dg := ⟨_, rfl⟩
  have hdg0 : digL 2 (wdS ss (bst ss name server)) chal = dg := by rw [hwd]; exact hdg
  rw [hdg] at hdl
  rw [hdg0] at hP
  obtain ⟨v0, v1, v2, v3, v4, v5, v6, v7, v8, v9, v10, v11, v12, v13, v14, v15, rfl⟩ := list16' dg hdl
  have C0 : Hid (Calls Tryd.prog 19 #[.string server, .slice A2 n2 c2, .int .i64 5] w fun e w1 => ∃ g, e = .returned (.tuple #[.pointer (some ⟨g, 0, none⟩), .int .i64 0, .int .i64 0]) ∧
      Calls Tryd.prog 20 #[.pointer (some ⟨g, 0, none⟩)] w1 fun e w2 => ∃ D1 k1 d1, e = .returned (.tuple #[.agg #[.int .i64 1, .int .i64 1, .slice D1 k1 d1], .int .i64 0]) ∧ ∃ V2, w2.alloc (.cells #[.int .i64 1, .int .i64 1, .slice D1 k1 d1] 24) = V2 ∧ Blk V2 w2.heap.size 24 [.int .i64 1, .int .i64 1, .slice D1 k1 d1] ∧
      Calls Tryd.prog 15 #[.agg #[.int .i64 2, .int .i64 1, .int .i64 1, .slice none 0 0, .string name]] V2 fun e w3 => ∃ Dp kp dp, e = .returned (.tuple #[.agg #[.int .i64 2, .int .i64 1, .slice Dp kp dp], .int .i64 0]) ∧ ∃ V3, w3.alloc (.cells #[.int .i64 2, .int .i64 1, .slice Dp kp dp] 24) = V3 ∧ Blk V3 w3.heap.size 24 [.int .i64 2, .int .i64 1, .slice Dp kp dp] ∧
      Calls Tryd.prog 21 #[.pointer (some ⟨g, 0, none⟩), .agg #[.int .i64 2, .int .i64 1, .slice Dp kp dp], .slice A3 n3 c3] V3 fun e w4 => ∃ D4 k4 d4, e = .returned (.tuple #[.agg #[.int .i64 1, .int .i64 2, .slice D4 k4 d4], .bool true, .int .i64 0]) ∧ ∃ V4, w4.alloc (.cells #[.int .i64 1, .int .i64 2, .slice D4 k4 d4] 24) = V4 ∧ Blk V4 w4.heap.size 24 [.int .i64 1, .int .i64 2, .slice D4 k4 d4] ∧
      Calls Tryd.prog 22 #[.slice A2 n2 c2, .string name, .string server] V4 fun e w5 => ∃ a1 a2 E m k b, e = .returned (.tuple #[.agg #[.string a1, .string a2, .string wd, .slice E m k], .bool b]) ∧ ∃ V5, w5.alloc (.cells #[.string a1, .string a2, .string wd, .slice E m k] 50) = V5 ∧ Blk V5 w5.heap.size 50 [.string a1, .string a2, .string wd, .slice E m k] ∧ Blk V5 w4.heap.size 24 [.int .i64 1, .int .i64 2, .slice D4 k4 d4] ∧ Calls Tryd.prog 25 #[.int .i64 2, .string wd, .slice A3 n3 c3] V5 fun e w6 => e = .returned (.tuple #[.agg #[.int .u8 (v0.toNat : Int), .int .u8 (v1.toNat : Int), .int .u8 (v2.toNat : Int), .int .u8 (v3.toNat : Int), .int .u8 (v4.toNat : Int), .int .u8 (v5.toNat : Int), .int .u8 (v6.toNat : Int), .int .u8 (v7.toNat : Int), .int .u8 (v8.toNat : Int), .int .u8 (v9.toNat : Int), .int .u8 (v10.toNat : Int), .int .u8 (v11.toNat : Int), .int .u8 (v12.toNat : Int), .int .u8 (v13.toNat : Int), .int .u8 (v14.toNat : Int), .int .u8 (v15.toNat : Int)], .int .i64 0]) ∧ ∃ U, w6.alloc (.cells #[.int .u8 (v0.toNat : Int), .int .u8 (v1.toNat : Int), .int .u8 (v2.toNat : Int), .int .u8 (v3.toNat : Int), .int .u8 (v4.toNat : Int), .int .u8 (v5.toNat : Int), .int .u8 (v6.toNat : Int), .int .u8 (v7.toNat : Int), .int .u8 (v8.toNat : Int), .int .u8 (v9.toNat : Int), .int .u8 (v10.toNat : Int), .int .u8 (v11.toNat : Int), .int .u8 (v12.toNat : Int), .int .u8 (v13.toNat : Int), .int .u8 (v14.toNat : Int), .int .u8 (v15.toNat : Int)] 55) = U ∧ Blk U w4.heap.size 24 [.int .i64 1, .int .i64 2, .slice D4 k4 d4] ∧ w6.heap.size < U.heap.size ∧
      ∀ A' n' c', (((n4 : Int) < 1 ∨ (255 : Int) < (n4 : Int)) ∧ A' = some ⟨w6.heap.size, 0, none⟩ ∧ n' = 16 ∧ c' = 16) ∨ (¬ (n4 : Int) < 1 ∧ ¬ (255 : Int) < (n4 : Int) ∧ A' = A4 ∧ n' = n4 ∧ c' = c4) → Calls Tryd.prog 15 #[.agg #[.int .i64 2, .int .i64 id, .int .i64 4, .slice A' n' c', .string ⟨#[]⟩]] U fun e w7 => ∃ Dq kq dq, e = .returned (.tuple #[.agg #[.int .i64 2, .int .i64 id, .slice Dq kq dq], .int .i64 0]) ∧ ∃ V7, w7.alloc (.cells #[.int .i64 2, .int .i64 id, .slice Dq kq dq] 24) = V7 ∧ Blk V7 w7.heap.size 24 [.int .i64 2, .int .i64 id, .slice Dq kq dq] ∧
      Calls Tryd.prog 21 #[.pointer (some ⟨g, 0, none⟩), .agg #[.int .i64 2, .int .i64 id, .slice Dq kq dq], .slice none 0 0] V7 fun e w8 => ∃ Dc kc dc, e = .returned (.tuple #[.agg #[.int .i64 0, .int .i64 0, .slice Dc kc dc], .bool false, .int .i64 1]) ∧ ∃ V8, w8.alloc (.cells #[.int .i64 0, .int .i64 0, .slice Dc kc dc] 24) = V8 ∧ Blk V8 w8.heap.size 24 [.int .i64 0, .int .i64 0, .slice Dc kc dc] ∧ Blk V8 w4.heap.size 24 [.int .i64 1, .int .i64 2, .slice D4 k4 d4] ∧ (Calls Tryd.prog 24 #[.pointer (some ⟨g, 0, none⟩)] V8 fun e w' => e = .returned (.int .i64 2) ∧ V8 = w') ∧ Calls Tryd.prog 18 #[] V8 fun e w' => e = .returned (.bool true) ∧ Below w.heap.size w w') := by
    refine (newServer_any server 5 A2 n2 c2 w.heap.size ss w (by unfold maxLen; omega) hs (Nat.le_refl _) hK hS).mono ?_
    rintro e w1 ⟨b1, ⟨h, -⟩ | ⟨-, h, -⟩ | ⟨-, -, h, -⟩ | ⟨-, -, -, g, tb, l1, l1', rfl, hs1⟩⟩
    · rw [hsv] at h; cases h
    · cases h
    · exact absurd hck h
    refine ⟨g, rfl, ?_⟩
    have z1 := b1.size
    have lg1 := hs1.lt
    refine (start_any w.heap.size g tb server 5 ss sv0 w1 hs1 (by decide) (by decide)).mono ?_
    rintro e w2 ⟨v, rfl, D1, k1, d1, hv, o1, G2, hs2, _⟩
    rw [ex_s1] at hs2 hv
    injection hv with hv
    subst hv
    have B2 := below_row b1 G2 (by omega)
    obtain ⟨V2, hV2⟩ : ∃ V2, w2.alloc (.cells #[.int .i64 1, .int .i64 1, .slice D1 k1 d1] 24) = V2 := ⟨_, rfl⟩
    have bV2 : Below w2.heap.size w2 V2 := by rw [← hV2]; exact (Below.refl _ _).alloc (Nat.le_refl _) _
    have nV2 : Blk V2 w2.heap.size 24 [.int .i64 1, .int .i64 1, .slice D1 k1 d1] := by rw [← hV2]; exact heap_alloc_new w2 _
    have BV2 := step_to B2 bV2
    have hsV2 := hs2.later bV2
    have z2 := G2.size
    have z2' := bV2.size
    refine ⟨D1, k1, d1, rfl, V2, hV2, nV2, ?_⟩
    have RW := rwrite_id 1 name V2 (by decide) (by omega)
    rw [if_neg hbig] at RW
    refine RW.mono ?_
    rintro e w3 ⟨b3, Dp, kp, dp, he, op⟩
    simp only [if_true] at he op
    obtain ⟨V3, hV3⟩ : ∃ V3, w3.alloc (.cells #[.int .i64 2, .int .i64 1, .slice Dp kp dp] 24) = V3 := ⟨_, rfl⟩
    have bV3 : Below w3.heap.size w3 V3 := by rw [← hV3]; exact (Below.refl _ _).alloc (Nat.le_refl _) _
    have nV3 : Blk V3 w3.heap.size 24 [.int .i64 2, .int .i64 1, .slice Dp kp dp] := by rw [← hV3]; exact heap_alloc_new w3 _
    have BV3 := step_to (step_to BV2 b3) bV3
    have hsV3 := (hsV2.later b3).later bV3
    have rp := own_rd (op.later bV3)
    have hlp : (dtL 2 1 [] name).length = 1 + name.size := by
      unfold dtL
      rw [if_neg (by decide), if_pos rfl, List.length_append]
      have : name.data.toList.length = name.size := Array.length_toList
      rw [this]
      rfl
    have hkp : kp ≤ 16380 := by rw [← rp.1.1, hlp]; omega
    have z3' := b3.size
    have z3'' := bV3.size
    refine ⟨Dp, kp, dp, he, V3, hV3, nV3, ?_⟩
    have ST := stake_any w.heap.size g tb server 5 ss s1 1 Dp kp dp V3.heap.size (dtL 2 1 [] name) A3 n3 c3 w.heap.size chal V3 hsV3 ⟨by decide, by decide, by decide⟩ (name_le hsv) rp.1 (Nat.le_refl _) (by omega) (hr3.below BV3) BV3.size z3 (fun e => absurd e (by decide)) (pr_one name).1
    obtain ⟨t1, t2, t3⟩ := pr_yes ss name server n3 chal hk hc
    rw [t1, t2, t3] at ST
    refine ST.mono ?_
    rintro e w4 ⟨D4, k4, d4, rfl, o4, G4, hs4⟩
    have B4 := below_row BV3 G4 (by omega)
    obtain ⟨V4, hV4⟩ : ∃ V4, w4.alloc (.cells #[.int .i64 1, .int .i64 2, .slice D4 k4 d4] 24) = V4 := ⟨_, rfl⟩
    have bV4 : Below w4.heap.size w4 V4 := by rw [← hV4]; exact (Below.refl _ _).alloc (Nat.le_refl _) _
    have nV4 : Blk V4 w4.heap.size 24 [.int .i64 1, .int .i64 2, .slice D4 k4 d4] := by rw [← hV4]; exact heap_alloc_new w4 _
    have BV4 := step_to B4 bV4
    have hsV4 := hs4.later bV4
    have z4' := G4.size
    have z4'' := bV4.size
    refine ⟨D4, k4, d4, rfl, V4, hV4, nV4, ?_⟩
    refine (rfind_any A2 n2 c2 w.heap.size ss name server V4 (hs.below BV4 (Nat.le_refl _)) BV4.size).mono ?_
    intro e w5 hf
    obtain ⟨a1, a2, E, m, k, b, rfl, b5⟩ := rfindR_box hf
    rw [hwd]
    obtain ⟨V5, hV5⟩ : ∃ V5, w5.alloc (.cells #[.string a1, .string a2, .string wd, .slice E m k] 50) = V5 := ⟨_, rfl⟩
    have bV5 : Below w5.heap.size w5 V5 := by rw [← hV5]; exact (Below.refl _ _).alloc (Nat.le_refl _) _
    have nV5 : Blk V5 w5.heap.size 50 [.string a1, .string a2, .string wd, .slice E m k] := by rw [← hV5]; exact heap_alloc_new w5 _
    have b45 := step_to b5 bV5
    have BV5 := step_to BV4 b45
    have hsV5 := hsV4.later b45
    have z5 := b45.size
    refine ⟨a1, a2, E, m, k, b, rfl, V5, hV5, nV5, past_same nV4 b45, ?_⟩
    have RS := resp_dig 2 wd A3 n3 c3 w.heap.size chal V5 (by decide) (by decide) (hr3.below BV5) BV5.size z3 (by omega) (by omega) (hK.kept BV5) (hS.kept BV5)
    rw [hdg] at RS
    refine RS.mono ?_
    rintro e w6 ⟨rfl, b6⟩
    obtain ⟨U, hU⟩ : ∃ U, w6.alloc (.cells #[.int .u8 (v0.toNat : Int), .int .u8 (v1.toNat : Int), .int .u8 (v2.toNat : Int), .int .u8 (v3.toNat : Int), .int .u8 (v4.toNat : Int), .int .u8 (v5.toNat : Int), .int .u8 (v6.toNat : Int), .int .u8 (v7.toNat : Int), .int .u8 (v8.toNat : Int), .int .u8 (v9.toNat : Int), .int .u8 (v10.toNat : Int), .int .u8 (v11.toNat : Int), .int .u8 (v12.toNat : Int), .int .u8 (v13.toNat : Int), .int .u8 (v14.toNat : Int), .int .u8 (v15.toNat : Int)] 55) = U := ⟨_, rfl⟩
    have bU : Below w6.heap.size w6 U := by rw [← hU]; exact (Below.refl _ _).alloc (Nat.le_refl _) _
    have nU : Blk U w6.heap.size 55 ([v0, v1, v2, v3, v4, v5, v6, v7, v8, v9, v10, v11, v12, v13, v14, v15].map cellOf) := by rw [← hU]; exact heap_alloc_new w6 _
    have rU : Rd U U.heap.size (some ⟨w6.heap.size, 0, none⟩) 16 [v0, v1, v2, v3, v4, v5, v6, v7, v8, v9, v10, v11, v12, v13, v14, v15] := by
      refine ⟨rfl, fun _ => ⟨w6.heap.size, 0, rfl, Blk.lt nU, fun j hj => ?_⟩⟩
      rw [Nat.zero_add, nU.cell, cells_at _ j (by simpa using hj)]
    have b56 := step_to b6 bU
    have BU := step_to BV5 b56
    have hsU := hsV5.later b56
    have nbU := past_same (past_same nV4 b45) b56
    have zU := b56.size
    have lwU := Blk.lt nU
    refine ⟨rfl, U, hU, nbU, lwU, fun A' n' c' hsel => ?_⟩
    have hrP : Rd U U.heap.size A' n' P ∧ (A' = none → c' = 0) ∧ 1 ≤ n' ∧ n' ≤ 255 := by
      rcases hsel with ⟨h, rfl, rfl, rfl⟩ | ⟨h1, h2, rfl, rfl, rfl⟩
      · rcases hP with ⟨_, hP⟩ | ⟨h3, h4, _⟩
        · rw [hP]
          exact ⟨rU, (fun e => by cases e), by decide, by decide⟩
        · omega
      · rcases hP with ⟨h3, _⟩ | ⟨_, _, hP⟩
        · omega
        · rw [hP]
          exact ⟨(hr4.below BU).wide BU.size, z4, by omega, by omega⟩
    have hPl : P.length = n' := hrP.1.1
    have RP := rwrite_pf id A' n' c' U.heap.size P U hrP.1 (Nat.le_refl _) hrP.2.1 hrP.2.2.1 hrP.2.2.2
    rw [if_neg (by rw [hid]; decide)] at RP
    refine RP.mono ?_
    rintro e w7 ⟨b7, Dq, kq, dq, he, oq⟩
    simp only [if_true] at he oq
    obtain ⟨V7, hV7⟩ : ∃ V7, w7.alloc (.cells #[.int .i64 2, .int .i64 id, .slice Dq kq dq] 24) = V7 := ⟨_, rfl⟩
    have bV7 : Below w7.heap.size w7 V7 := by rw [← hV7]; exact (Below.refl _ _).alloc (Nat.le_refl _) _
    have nV7 : Blk V7 w7.heap.size 24 [.int .i64 2, .int .i64 id, .slice Dq kq dq] := by rw [← hV7]; exact heap_alloc_new w7 _
    have b67 := step_to b7 bV7
    have BV7 := step_to BU b67
    have hsV7 := hsU.later b67
    have rq := own_rd (oq.later bV7)
    have nb7 := past_same nbU b67
    have z7 := b67.size
    refine ⟨Dq, kq, dq, he, V7, hV7, nV7, ?_⟩
    have TE : tkE (s2g name server chal) 2 id (dtL 2 4 P ⟨#[]⟩) = 1 := pq_far name server chal P id hid (by rw [hPl]; exact hrP.2.2.1) (by rw [hPl]; exact hrP.2.2.2) hid2
    have TK := stake_no w.heap.size g tb server 5 ss (s2g name server chal) 2 id Dq kq dq V7.heap.size (dtL 2 4 P ⟨#[]⟩) none 0 0 V7 hsV7 rq.1 (Nat.le_refl _) (by have := rq.1.1; rw [pf_list 2 (by decide)] at this; simp at this; have h0 : (⟨#[]⟩ : ByteArray).data.size = 0 := rfl; omega) (by rw [TE]; decide)
    rw [TE] at TK
    refine TK.mono ?_
    rintro e w8 ⟨rfl, b8⟩
    have bA : Below w8.heap.size w8 (w8.alloc (.cells #[.int .i64 0, .int .i64 0, .slice none 0 0] 24)) := (Below.refl _ _).alloc (Nat.le_refl _) _
    have b78 := step_to b8 bA
    have BV8 := step_to BV7 b78
    exact ⟨none, 0, 0, rfl, _, rfl, heap_alloc_new w8 _, past_same nb7 b78, sstate_any _ _ _ _ _ _ _ _ (hsV7.later b78), (awake_any _ (hK.kept BV8) (hS.kept BV8)).mono fun e w' hh => ⟨hh.1, step_to BV8 hh.2⟩⟩
  have hne : (id != 2) = true := by simpa using hid2
  have n31 : ¬ (n3 : Int) < 1 := by omega
  have n32 : ¬ (255 : Int) < (n3 : Int) := by omega
  have way : ((n4 : Int) < 1) ∨ (¬ (n4 : Int) < 1 ∧ 255 < (n4 : Int)) ∨ (¬ (n4 : Int) < 1 ∧ ¬ 255 < (n4 : Int)) := by omega
  clear hs hr3 z3 q3 hr4 z4 q4 hK hS hn0 hn1 hsv hck hbig hk hc hkn hwz hwb hwd hch hcl hdl hPd hdg hdg0 hP hid hid2
  rcases way with h1 | ⟨h1, h2⟩ | ⟨h1, h2⟩
  · have HC := Lib.hid (show ((n4 : Int) < 1) from h1)
    go_enter Tryd.func4, Tryd.ntmps4
    go_wp2_with (first
      | (go_at_call 19; ((with_reducible refine C0.out.mono ?_); rintro e w1 ⟨g, rfl, n1⟩; have C1 := Lib.hid n1; clear n1))
      | (go_at_call 20; ((with_reducible refine C1.out.mono ?_); rintro e w2 ⟨D1, k1, d1, rfl, V2, hV2, p2, n1⟩; have HV2 := Lib.hid hV2; have x0 := p2.cell 0; have x1 := p2.cell 1; have x2 := p2.cell 2; have C2 := Lib.hid n1; clear hV2 p2 n1))
      | (rw [HV2.out])
      | (go_at_call 15; ((with_reducible refine C2.out.mono ?_); rintro e w3 ⟨Dp, kp, dp, rfl, V3, hV3, p3, n1⟩; have HV3 := Lib.hid hV3; have y0 := p3.cell 0; have y1 := p3.cell 1; have y2 := p3.cell 2; have C3 := Lib.hid n1; clear hV3 p3 n1))
      | (rw [HV3.out])
      | (go_at_call 21; ((with_reducible refine C3.out.mono ?_); rintro e w4 ⟨D4, k4, d4, rfl, V4, hV4, p4, n1⟩; have HV4 := Lib.hid hV4; have C4 := Lib.hid n1; clear hV4 p4 n1))
      | (rw [HV4.out])
      | (go_at_call 22; ((with_reducible refine C4.out.mono ?_); rintro e w5 ⟨a1, a2, E, m, k, b, rfl, V5, hV5, ps, pb, n1⟩; have HV5 := Lib.hid hV5; have s2 := ps.cell 2; have b0 := pb.cell 0; have b1 := pb.cell 1; have C5 := Lib.hid n1; clear hV5 ps pb n1))
      | (rw [HV5.out])
      | (go_at_call 23; ((with_reducible refine (RN.out _).mono ?_); rintro e w' ⟨rfl, rfl⟩))
      | (go_at_call 25; ((with_reducible refine C5.out.mono ?_); rintro e w6 ⟨rfl, U, hU, pu, lU, n1⟩; have HU := Lib.hid hU; have ub1 := pu.cell 1; have C6 := Lib.hid n1; clear hU pu n1))
      | (rw [HU.out])
      | (go_at_call 15; ((with_reducible refine (C6.out _ _ _ (.inl ⟨.inl HC.out, rfl, rfl, rfl⟩)).mono ?_); rintro e w7 ⟨Dq, kq, dq, rfl, V7, hV7, p7, n1⟩; have HV7 := Lib.hid hV7; have q0 := p7.cell 0; have q1 := p7.cell 1; have q2 := p7.cell 2; have C7 := Lib.hid n1; clear hV7 p7 n1))
      | (rw [HV7.out])
      | (go_at_call 21; ((with_reducible refine C7.out.mono ?_); rintro e w8 ⟨Dc, kc, dc, rfl, V8, hV8, p8, pb8, st8, aw8⟩; have HV8 := Lib.hid hV8; have c0 := p8.cell 0; have bb0 := pb8.cell 0; have bb1 := pb8.cell 1; have l8 := Blk.lt p8; have lb8 := Blk.lt pb8; have ST8 := Lib.hid st8; have AW8 := Lib.hid aw8; clear hV8 p8 pb8 st8 aw8))
      | (rw [HV8.out])
      | (go_at_call 24; ((with_reducible refine ST8.out.mono ?_); rintro e w' ⟨rfl, rfl⟩))
      | (go_at_call 18; ((with_reducible refine AW8.out.mono ?_); rintro e w9 ⟨rfl, b4⟩; have F := Lib.hid b4; clear b4)))
    go_ret
    exact ⟨rfl, F.out⟩
  · have HC := Lib.hid (show (255 < (n4 : Int)) from h2)
    go_enter Tryd.func4, Tryd.ntmps4
    go_wp2_with (first
      | (go_at_call 19; ((with_reducible refine C0.out.mono ?_); rintro e w1 ⟨g, rfl, n1⟩; have C1 := Lib.hid n1; clear n1))
      | (go_at_call 20; ((with_reducible refine C1.out.mono ?_); rintro e w2 ⟨D1, k1, d1, rfl, V2, hV2, p2, n1⟩; have HV2 := Lib.hid hV2; have x0 := p2.cell 0; have x1 := p2.cell 1; have x2 := p2.cell 2; have C2 := Lib.hid n1; clear hV2 p2 n1))
      | (rw [HV2.out])
      | (go_at_call 15; ((with_reducible refine C2.out.mono ?_); rintro e w3 ⟨Dp, kp, dp, rfl, V3, hV3, p3, n1⟩; have HV3 := Lib.hid hV3; have y0 := p3.cell 0; have y1 := p3.cell 1; have y2 := p3.cell 2; have C3 := Lib.hid n1; clear hV3 p3 n1))
      | (rw [HV3.out])
      | (go_at_call 21; ((with_reducible refine C3.out.mono ?_); rintro e w4 ⟨D4, k4, d4, rfl, V4, hV4, p4, n1⟩; have HV4 := Lib.hid hV4; have C4 := Lib.hid n1; clear hV4 p4 n1))
      | (rw [HV4.out])
      | (go_at_call 22; ((with_reducible refine C4.out.mono ?_); rintro e w5 ⟨a1, a2, E, m, k, b, rfl, V5, hV5, ps, pb, n1⟩; have HV5 := Lib.hid hV5; have s2 := ps.cell 2; have b0 := pb.cell 0; have b1 := pb.cell 1; have C5 := Lib.hid n1; clear hV5 ps pb n1))
      | (rw [HV5.out])
      | (go_at_call 23; ((with_reducible refine (RN.out _).mono ?_); rintro e w' ⟨rfl, rfl⟩))
      | (go_at_call 25; ((with_reducible refine C5.out.mono ?_); rintro e w6 ⟨rfl, U, hU, pu, lU, n1⟩; have HU := Lib.hid hU; have ub1 := pu.cell 1; have C6 := Lib.hid n1; clear hU pu n1))
      | (rw [HU.out])
      | (go_at_call 15; ((with_reducible refine (C6.out _ _ _ (.inl ⟨.inr HC.out, rfl, rfl, rfl⟩)).mono ?_); rintro e w7 ⟨Dq, kq, dq, rfl, V7, hV7, p7, n1⟩; have HV7 := Lib.hid hV7; have q0 := p7.cell 0; have q1 := p7.cell 1; have q2 := p7.cell 2; have C7 := Lib.hid n1; clear hV7 p7 n1))
      | (rw [HV7.out])
      | (go_at_call 21; ((with_reducible refine C7.out.mono ?_); rintro e w8 ⟨Dc, kc, dc, rfl, V8, hV8, p8, pb8, st8, aw8⟩; have HV8 := Lib.hid hV8; have c0 := p8.cell 0; have bb0 := pb8.cell 0; have bb1 := pb8.cell 1; have l8 := Blk.lt p8; have lb8 := Blk.lt pb8; have ST8 := Lib.hid st8; have AW8 := Lib.hid aw8; clear hV8 p8 pb8 st8 aw8))
      | (rw [HV8.out])
      | (go_at_call 24; ((with_reducible refine ST8.out.mono ?_); rintro e w' ⟨rfl, rfl⟩))
      | (go_at_call 18; ((with_reducible refine AW8.out.mono ?_); rintro e w9 ⟨rfl, b4⟩; have F := Lib.hid b4; clear b4)))
    go_ret
    exact ⟨rfl, F.out⟩
  · have HC := Lib.hid (show (¬ (n4 : Int) < 1 ∧ ¬ (255 : Int) < (n4 : Int)) from ⟨h1, h2⟩)
    go_enter Tryd.func4, Tryd.ntmps4
    go_wp2_with (first
      | (go_at_call 19; ((with_reducible refine C0.out.mono ?_); rintro e w1 ⟨g, rfl, n1⟩; have C1 := Lib.hid n1; clear n1))
      | (go_at_call 20; ((with_reducible refine C1.out.mono ?_); rintro e w2 ⟨D1, k1, d1, rfl, V2, hV2, p2, n1⟩; have HV2 := Lib.hid hV2; have x0 := p2.cell 0; have x1 := p2.cell 1; have x2 := p2.cell 2; have C2 := Lib.hid n1; clear hV2 p2 n1))
      | (rw [HV2.out])
      | (go_at_call 15; ((with_reducible refine C2.out.mono ?_); rintro e w3 ⟨Dp, kp, dp, rfl, V3, hV3, p3, n1⟩; have HV3 := Lib.hid hV3; have y0 := p3.cell 0; have y1 := p3.cell 1; have y2 := p3.cell 2; have C3 := Lib.hid n1; clear hV3 p3 n1))
      | (rw [HV3.out])
      | (go_at_call 21; ((with_reducible refine C3.out.mono ?_); rintro e w4 ⟨D4, k4, d4, rfl, V4, hV4, p4, n1⟩; have HV4 := Lib.hid hV4; have C4 := Lib.hid n1; clear hV4 p4 n1))
      | (rw [HV4.out])
      | (go_at_call 22; ((with_reducible refine C4.out.mono ?_); rintro e w5 ⟨a1, a2, E, m, k, b, rfl, V5, hV5, ps, pb, n1⟩; have HV5 := Lib.hid hV5; have s2 := ps.cell 2; have b0 := pb.cell 0; have b1 := pb.cell 1; have C5 := Lib.hid n1; clear hV5 ps pb n1))
      | (rw [HV5.out])
      | (go_at_call 23; ((with_reducible refine (RN.out _).mono ?_); rintro e w' ⟨rfl, rfl⟩))
      | (go_at_call 25; ((with_reducible refine C5.out.mono ?_); rintro e w6 ⟨rfl, U, hU, pu, lU, n1⟩; have HU := Lib.hid hU; have ub1 := pu.cell 1; have C6 := Lib.hid n1; clear hU pu n1))
      | (rw [HU.out])
      | (go_at_call 15; ((with_reducible refine (C6.out _ _ _ (.inr ⟨HC.out.1, HC.out.2, rfl, rfl, rfl⟩)).mono ?_); rintro e w7 ⟨Dq, kq, dq, rfl, V7, hV7, p7, n1⟩; have HV7 := Lib.hid hV7; have q0 := p7.cell 0; have q1 := p7.cell 1; have q2 := p7.cell 2; have C7 := Lib.hid n1; clear hV7 p7 n1))
      | (rw [HV7.out])
      | (go_at_call 21; ((with_reducible refine C7.out.mono ?_); rintro e w8 ⟨Dc, kc, dc, rfl, V8, hV8, p8, pb8, st8, aw8⟩; have HV8 := Lib.hid hV8; have c0 := p8.cell 0; have bb0 := pb8.cell 0; have bb1 := pb8.cell 1; have l8 := Blk.lt p8; have lb8 := Blk.lt pb8; have ST8 := Lib.hid st8; have AW8 := Lib.hid aw8; clear hV8 p8 pb8 st8 aw8))
      | (rw [HV8.out])
      | (go_at_call 24; ((with_reducible refine ST8.out.mono ?_); rintro e w' ⟨rfl, rfl⟩))
      | (go_at_call 18; ((with_reducible refine AW8.out.mono ?_); rintro e w9 ⟨rfl, b4⟩; have F := Lib.hid b4; clear b4)))
    go_ret
    exact ⟨rfl, F.out⟩
end Go.Proofs.YtjimoegegigoiaaDoor
