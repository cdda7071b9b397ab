/-
  tetherlaw14.awake is true.
-/
import Derived.Test.YtjimoegegigoiaaDoorEaBack
namespace Go.Proofs.YtjimoegegigoiaaDoor
open Go.RowKit Go.Shelf
set_option maxRecDepth 100000
set_option maxHeartbeats 1000000
set_option linter.unusedSimpArgs false
set_option linter.unusedVariables false

def alice : ByteArray := ⟨#[97, 108, 105, 99, 101]⟩
def mill : ByteArray := ⟨#[109, 105, 108, 108]⟩
def exS : List Sec := [⟨alice, mill, ⟨#[120]⟩, []⟩]
noncomputable def exD : List UInt8 := digL 2 ⟨#[120]⟩ [99, 104]
theorem ex_right : rightE ⟨alice, mill, ⟨#[120]⟩, []⟩ = 0 := by decide
theorem ex_chk : (chk exS).1 = 0 := by decide
theorem ex_names : nameB mill = true ∧ nameB alice = true := by decide
theorem ex_fst1 : fst exS alice mill = some 0 := by
  unfold fst exS
  rw [List.findIdx?_cons]
  simp [ex_right]
theorem ex_bst1 : bst exS alice mill = some 0 := by
  unfold bst
  rw [if_neg (by decide)]
  unfold pairsOf
  simp [ex_fst1]
theorem ex_wd1 : wdS exS (bst exS alice mill) = ⟨#[120]⟩ ∧ wdB exS (bst exS alice mill) = true := by
  rw [ex_bst1]
  exact ⟨rfl, rfl⟩
theorem one_sec {V : World} {b : Nat} {x : Sec} (h : Blk V b 50 [.string x.cl, .string x.sv, .string x.wd, .slice none 0 0]) (hx : okS x) (ha : x.ad = []) : SecRd V V.heap.size (some ⟨b, 0, none⟩) 1 [x] := by
  refine ⟨rfl, by omega, fun _ => ⟨b, 0, rfl, Blk.lt h, fun i y hy => ?_⟩⟩
  match i, hy with
  | 0, hy =>
    obtain rfl : x = y := by simpa using hy
    refine ⟨hx, none, 0, 0, ⟨by rw [ha]; rfl, Nat.le_refl _, fun _ => rfl, by omega, fun h => absurd h (by omega)⟩, fun j u hu => ?_⟩
    rw [Nat.zero_add, h.cell]
    exact hu
  | i + 1, hy => simp at hy
def s1 : SvS := ⟨1, 1, 1, [1], 1, ⟨#[]⟩, ⟨#[]⟩⟩
def exC : List UInt8 := [4, 2, 99, 104, 109, 105, 108, 108]
def s2 : SvS := ⟨2, 1, 2, exC, 1, alice, ⟨#[]⟩⟩
def exB : List UInt8 := dtL 2 1 [] alice
noncomputable def exP : List UInt8 := dtL 2 4 exD alice
theorem ex_s1 : askS { sv0 with cl := ⟨#[]⟩, who := ⟨#[]⟩ } 1 [1] = s1 := rfl
theorem ex_a : ptE 1 1 [1] = 0 ∧ paS exS alice 0 1 [1] = 1 ∧ paL exS alice 1 1 [1] = exB := by
  refine ⟨by decide, ?_, ?_⟩
  · unfold paS
    rw [if_pos rfl, if_pos (by decide)]
  · unfold paL
    rw [if_pos rfl, if_pos (by decide)]
    rfl
theorem ex_kn : knB exS mill alice = true := by
  unfold knB
  rw [ex_wd1.2, ex_names.2]
  rfl
theorem ex_c : dtL 1 4 [99, 104] mill = exC := by decide
theorem ex_b : tkE s1 2 1 exB = 0 ∧ tkA exS mill s1 exB 2 = true ∧ tkT exB = alice := by
  obtain ⟨h1, h2, h3⟩ := id_read 2 1 (by decide) (by decide) (by decide) alice
  have hT : tkT exB = alice := by
    unfold tkT exB
    rw [h1, h3]
  refine ⟨?_, ?_, hT⟩
  · unfold tkE exB
    rw [h2, if_neg (by decide), if_neg (by decide), if_neg (by decide), if_neg (by decide)]
  · unfold tkA
    rw [hT]
    exact decide_eq_true ⟨h1, rfl, ex_kn, by decide⟩
theorem ex_s2 : tkS exS mill s1 exB 2 [99, 104] = s2 ∧ tkC exS mill s1 exB 2 = 1 ∧ tkI exS mill s1 exB 2 = 2 ∧ tkL exS mill s1 exB 2 [99, 104] = exC := by
  unfold tkS tkC tkI tkL
  rw [if_pos ex_b.2.1, if_pos ex_b.2.1, if_pos ex_b.2.1, if_pos ex_b.2.1, ex_b.2.2, ex_c]
  exact ⟨rfl, rfl, rfl, rfl⟩
theorem ex_d : ptE 1 2 exC = 0 ∧ paS exS alice 1 1 exC = 2 ∧ paL exS alice 1 2 exC = exP := by
  obtain ⟨h1, h2, h3, h4⟩ := pf_read 1 2 (by decide) (by decide) (by decide) [99, 104] mill (by decide) (by decide)
  rw [ex_c] at h1 h2 h3 h4
  have hT : paT 1 exC = mill := by unfold paT; rw [h1, h4]
  have hV : paV 1 exC = [99, 104] := by unfold paV; rw [h1, h3]
  refine ⟨by unfold ptE; rw [h2, if_neg (by decide), if_neg (by decide)], ?_, ?_⟩
  · unfold paS
    rw [if_pos rfl, if_neg (by rw [h1]; decide), if_pos ⟨h1, by rw [hT]; exact ex_wd1.2⟩]
  · unfold paL
    rw [if_pos rfl, if_neg (by rw [h1]; decide), if_neg (by rw [h1]; decide), if_pos h1, if_pos (by rw [hT]; exact ex_wd1.2), hT, hV, ex_wd1.1]
    rfl
theorem ex_ch : chOf s2 = [99, 104] ∧ rdE s2.lc s2.li s2.L = 0 := by
  obtain ⟨h1, h2, h3, h4⟩ := pf_read 1 2 (by decide) (by decide) (by decide) [99, 104] mill (by decide) (by decide)
  rw [ex_c] at h1 h2 h3 h4
  exact ⟨by unfold chOf; show krV 1 (rdT 1 exC) (rdR 1 exC) = _; rw [h1, h3], h2⟩
theorem ex_e : tkE s2 2 2 exP = 0 ∧ tkS exS mill s2 exP 0 [] = fnS s2 3 alice := by
  have hD : exD.length = 16 := digL_length _ _ _
  obtain ⟨h1, h2, h3, h4⟩ := pf_read 2 2 (by decide) (by decide) (by decide) exD alice (by omega) (by omega)
  have hA : tkA exS mill s2 exP 0 = false := by
    unfold tkA exP
    rw [h1]
    exact decide_eq_false fun h => absurd h.1 (by decide)
  have hV : tkV exP = exD := by unfold tkV exP; rw [h1, h3]
  have hP : tkP exS mill s2 exP = true := by
    unfold tkP
    rw [hV, ex_ch.1]
    refine decide_eq_true ⟨h1, rfl, ?_⟩
    unfold pvB
    show (wdB exS (bst exS alice mill) && decide (exD = digL 2 (wdS exS (bst exS alice mill)) [99, 104])) = true
    rw [ex_wd1.1, ex_wd1.2, decide_eq_true (show exD = digL 2 ⟨#[120]⟩ [99, 104] from rfl)]
    rfl
  refine ⟨?_, ?_⟩
  · unfold tkE exP
    rw [h2, if_neg (by decide), if_neg (by decide), if_neg (by decide), if_neg (by decide)]
  · unfold tkS
    rw [hA, hP, if_neg (by decide), if_pos rfl]
    rfl
theorem awake_any (w : World) (hK : TabK w) (hS : TabS w) : Calls Tryd.prog 18 #[] w fun e w' => e = .returned (.bool true) ∧ Below w.heap.size w w' := by
  obtain ⟨V0, hV0⟩ : ∃ V0, w.alloc (.cells #[.string ⟨#[97, 108, 105, 99, 101]⟩, .string ⟨#[109, 105, 108, 108]⟩, .string ⟨#[120]⟩, .slice none 0 0] 50) = V0 := ⟨_, rfl⟩
  have C0 : Hid (Calls Tryd.prog 19 #[.string ⟨#[109, 105, 108, 108]⟩, .slice (some ⟨w.heap.size, 0, none⟩) 1 1, .int .i64 3] V0 fun e w1 => ∃ g1, e = .returned (.tuple #[.pointer (some ⟨g1, 0, none⟩), .int .i64 0, .int .i64 0]) ∧
      Calls Tryd.prog 27 #[.string ⟨#[97, 108, 105, 99, 101]⟩, .slice (some ⟨w.heap.size, 0, none⟩) 1 1] w1 fun e w2 => ∃ g2, e = .returned (.tuple #[.pointer (some ⟨g2, 0, none⟩), .int .i64 0, .int .i64 0]) ∧
      Calls Tryd.prog 20 #[.pointer (some ⟨g1, 0, none⟩)] w2 fun e w3 => ∃ D1 k1 d1, e = .returned (.tuple #[.agg #[.int .i64 1, .int .i64 1, .slice D1 k1 d1], .int .i64 0]) ∧ ∃ V3, w3.alloc (.cells #[.int .i64 1, .int .i64 1, .slice D1 k1 d1] 24) = V3 ∧ Blk V3 w3.heap.size 24 [.int .i64 1, .int .i64 1, .slice D1 k1 d1] ∧
      Calls Tryd.prog 28 #[.pointer (some ⟨g2, 0, none⟩), .agg #[.int .i64 1, .int .i64 1, .slice D1 k1 d1]] V3 fun e w4 => ∃ D2 k2 d2, e = .returned (.tuple #[.agg #[.int .i64 2, .int .i64 1, .slice D2 k2 d2], .bool true, .int .i64 0]) ∧ ∃ U4, w4.alloc (.cells #[.int .i64 2, .int .i64 1, .slice D2 k2 d2] 24) = U4 ∧ Blk U4 w4.heap.size 24 [.int .i64 2, .int .i64 1, .slice D2 k2 d2] ∧ ∃ V4, U4.alloc (.cells #[.int .u8 99, .int .u8 104] 5 (2, 3)) = V4 ∧
      Calls Tryd.prog 21 #[.pointer (some ⟨g1, 0, none⟩), .agg #[.int .i64 2, .int .i64 1, .slice D2 k2 d2], .slice (some ⟨U4.heap.size, 0, none⟩) 2 2] V4 fun e w5 => ∃ D3 k3 d3, e = .returned (.tuple #[.agg #[.int .i64 1, .int .i64 2, .slice D3 k3 d3], .bool true, .int .i64 0]) ∧ ∃ V5, w5.alloc (.cells #[.int .i64 1, .int .i64 2, .slice D3 k3 d3] 24) = V5 ∧ Blk V5 w5.heap.size 24 [.int .i64 1, .int .i64 2, .slice D3 k3 d3] ∧
      Calls Tryd.prog 28 #[.pointer (some ⟨g2, 0, none⟩), .agg #[.int .i64 1, .int .i64 2, .slice D3 k3 d3]] V5 fun e w6 => ∃ D4 k4 d4, e = .returned (.tuple #[.agg #[.int .i64 2, .int .i64 2, .slice D4 k4 d4], .bool true, .int .i64 0]) ∧ ∃ V6, w6.alloc (.cells #[.int .i64 2, .int .i64 2, .slice D4 k4 d4] 24) = V6 ∧ Blk V6 w6.heap.size 24 [.int .i64 2, .int .i64 2, .slice D4 k4 d4] ∧
      Calls Tryd.prog 21 #[.pointer (some ⟨g1, 0, none⟩), .agg #[.int .i64 2, .int .i64 2, .slice D4 k4 d4], .slice none 0 0] V6 fun e w7 => ∃ v, e = .returned v ∧ Blk w7 w3.heap.size 24 [.int .i64 1, .int .i64 1, .slice D1 k1 d1] ∧ Blk w7 w5.heap.size 24 [.int .i64 1, .int .i64 2, .slice D3 k3 d3] ∧
      (convert 22 9 (.slice D1 k1 d1)).run Tryd.prog w7 = .ok (.string ⟨#[1]⟩) w7 ∧ (convert 22 9 (.slice D3 k3 d3)).run Tryd.prog w7 = .ok (.string ⟨#[4, 2, 99, 104, 109, 105, 108, 108]⟩) w7 ∧
      (Calls Tryd.prog 24 #[.pointer (some ⟨g1, 0, none⟩)] w7 fun e w' => e = .returned (.int .i64 3) ∧ w7 = w') ∧ (Calls Tryd.prog 26 #[.pointer (some ⟨g1, 0, none⟩)] w7 fun e w' => e = .returned (.string ⟨#[97, 108, 105, 99, 101]⟩) ∧ w7 = w') ∧ Below w.heap.size w w7) := by
    have b0 : Below w.heap.size w V0 := by rw [← hV0]; exact (Below.refl _ _).alloc (Nat.le_refl _) _
    have n0 : Blk V0 w.heap.size 50 [.string alice, .string mill, .string ⟨#[120]⟩, .slice none 0 0] := by rw [← hV0]; exact heap_alloc_new w _
    have sec0 := one_sec (x := ⟨alice, mill, ⟨#[120]⟩, []⟩) n0 ⟨by decide, by decide, by decide⟩ rfl
    refine (newServer_any mill 3 (some ⟨w.heap.size, 0, none⟩) 1 1 V0.heap.size exS V0 (by decide) sec0 (Nat.le_refl _) (hK.kept b0) (hS.kept b0)).mono ?_
    rintro e w1 ⟨b1, ⟨h, -⟩ | ⟨-, h, -⟩ | ⟨-, -, h, -⟩ | ⟨-, -, -, g1, tb1, l1, l1', rfl, hs1⟩⟩
    · rw [ex_names.1] at h; cases h
    · cases h
    · exact absurd ex_chk h
    have B1 := step_to b0 b1
    refine ⟨g1, rfl, ?_⟩
    refine (newPeer_any alice (some ⟨w.heap.size, 0, none⟩) 1 1 w1.heap.size exS w1 (by decide) ((sec0.below b1 (Nat.le_refl _)).wide b1.size) (Nat.le_refl _) (hK.kept B1) (hS.kept B1)).mono ?_
    rintro e w2 ⟨b2, ⟨h, -⟩ | ⟨-, h, -⟩ | ⟨-, -, g2, tb2, l2, l2', rfl, hp2⟩⟩
    · rw [ex_names.2] at h; cases h
    · exact absurd ex_chk h
    have B2 := step_to B1 b2
    have hs2 := hs1.later b2
    have lg1 := hs1.lt
    have lg2 := hp2.lt
    have z0 := b0.size
    have z1 := b1.size
    have z2 := b2.size
    refine ⟨g2, rfl, ?_⟩
    refine (start_any V0.heap.size g1 tb1 mill 3 exS sv0 w2 hs2 (by decide) (by decide)).mono ?_
    rintro e w3 ⟨v, rfl, D1, k1, d1, hv, o1, G3, hs3, _⟩
    rw [ex_s1] at o1 hs3 hv
    injection hv with hv
    subst hv
    obtain ⟨E, m, f, kb2, _⟩ := hs2.blk
    have hp3 := hp2.beside kb2 (by omega) G3
    have B3 := below_row B2 G3 (by omega)
    obtain ⟨V3, hV3⟩ : ∃ V3, w3.alloc (.cells #[.int .i64 1, .int .i64 1, .slice D1 k1 d1] 24) = V3 := ⟨_, rfl⟩
    have bV3 : Below w3.heap.size w3 V3 := by rw [← hV3]; exact (Below.refl _ _).alloc (Nat.le_refl _) _
    have nV3 : Blk V3 w3.heap.size 24 [.int .i64 1, .int .i64 1, .slice D1 k1 d1] := by rw [← hV3]; exact heap_alloc_new w3 _
    have BV3 := step_to B3 bV3
    have oV1 := o1.later bV3
    have rV1 := own_rd oV1
    have hsV3 := hs3.later bV3
    have hpV3 := hp3.later bV3
    have z3 := G3.size
    have zV3 := bV3.size
    refine ⟨D1, k1, d1, rfl, V3, hV3, nV3, ?_⟩
    have PT := ptake_any w1.heap.size g2 tb2 alice exS 0 ⟨#[]⟩ 1 1 D1 k1 d1 V3.heap.size [1] V3 hpV3 (by decide) rV1.1 (Nat.le_refl _) (by rw [← rV1.1.1]; decide) ex_a.1
    rw [ex_a.2.1, ex_a.2.2] at PT
    refine PT.mono ?_
    rintro e w4 ⟨D2, k2, d2, rfl, o2, G4, hp4⟩
    have hs4 := hsV3.beside hpV3.blk (by omega) G4
    have B4 := below_row BV3 G4 (by omega)
    have nV4 := blk_off nV3 G4 (by omega)
    have oW1 := oV1.grown G4 (own_apart oV1 hpV3.blk (by decide))
    obtain ⟨U4, hU4⟩ : ∃ U4, w4.alloc (.cells #[.int .i64 2, .int .i64 1, .slice D2 k2 d2] 24) = U4 := ⟨_, rfl⟩
    have bU4 : Below w4.heap.size w4 U4 := by rw [← hU4]; exact (Below.refl _ _).alloc (Nat.le_refl _) _
    have nU4 : Blk U4 w4.heap.size 24 [.int .i64 2, .int .i64 1, .slice D2 k2 d2] := by rw [← hU4]; exact heap_alloc_new w4 _
    have rd4 := rd_built3 U4 [99, 104] (2, 3)
    obtain ⟨V4, hV4⟩ : ∃ V4, U4.alloc (.cells #[.int .u8 99, .int .u8 104] 5 (2, 3)) = V4 := ⟨_, rfl⟩
    have bV4 : Below U4.heap.size U4 V4 := by rw [← hV4]; exact (Below.refl _ _).alloc (Nat.le_refl _) _
    have rdV4 : Rd V4 (U4.heap.size + 1) (some ⟨U4.heap.size, 0, none⟩) 2 [99, 104] := by rw [← hV4]; exact rd4
    have zU : U4.heap.size + 1 ≤ V4.heap.size := by rw [← hV4, World.size_alloc]; exact Nat.le_refl _
    have b4 := step_to bU4 bV4
    have BV4 := step_to B4 b4
    have hsV4 := hs4.later b4
    have hpV4 := hp4.later b4
    have nX4 := past_same nV4 b4
    have oX1 := oW1.later b4
    have rV2 := own_rd (o2.later b4)
    have z4 := G4.size
    have z4' := b4.size
    have hmk2 : k2 ≤ 140737488351232 := by rw [← rV2.1.1]; decide
    refine ⟨D2, k2, d2, rfl, U4, hU4, nU4, V4, hV4, ?_⟩
    have ST := stake_any V0.heap.size g1 tb1 mill 3 exS s1 1 D2 k2 d2 V4.heap.size exB (some ⟨U4.heap.size, 0, none⟩) 2 2 (U4.heap.size + 1) [99, 104] V4 hsV4 ⟨by decide, by decide, by decide⟩ (by decide) rV2.1 (Nat.le_refl _) hmk2 rdV4 zU (fun e => by cases e) (fun e => absurd e (by decide)) ex_b.1
    rw [ex_s2.1, ex_s2.2.1, ex_s2.2.2.1, ex_s2.2.2.2] at ST
    refine ST.mono ?_
    rintro e w5 ⟨D3, k3, d3, rfl, o3, G5, hs5⟩
    obtain ⟨E5, m5, f5, kb5, _⟩ := hsV4.blk
    have hp5 := hpV4.beside kb5 (by omega) G5
    have B5 := below_row BV4 G5 (by omega)
    have nX5 := blk_off nX4 G5 (by omega)
    have oX5 := oX1.grown G5 (own_apart oX1 kb5 (by decide))
    obtain ⟨V5, hV5⟩ : ∃ V5, w5.alloc (.cells #[.int .i64 1, .int .i64 2, .slice D3 k3 d3] 24) = V5 := ⟨_, rfl⟩
    have bV5 : Below w5.heap.size w5 V5 := by rw [← hV5]; exact (Below.refl _ _).alloc (Nat.le_refl _) _
    have nV5 : Blk V5 w5.heap.size 24 [.int .i64 1, .int .i64 2, .slice D3 k3 d3] := by rw [← hV5]; exact heap_alloc_new w5 _
    have BV5 := step_to B5 bV5
    have hsV5 := hs5.later bV5
    have hpV5 := hp5.later bV5
    have nX5' := past_same nX5 bV5
    have oX5' := oX5.later bV5
    have oV3 := o3.later bV5
    have rV3 := own_rd oV3
    have z5 := G5.size
    have z5' := bV5.size
    refine ⟨D3, k3, d3, rfl, V5, hV5, nV5, ?_⟩
    have PT2 := ptake_any w1.heap.size g2 tb2 alice exS 1 (paN ⟨#[]⟩ 1 [1]) 1 2 D3 k3 d3 V5.heap.size exC V5 hpV5 (by decide) rV3.1 (Nat.le_refl _) (by rw [← rV3.1.1]; decide) ex_d.1
    rw [ex_d.2.1, ex_d.2.2] at PT2
    refine PT2.mono ?_
    rintro e w6 ⟨D4, k4, d4, rfl, o4, G6, hp6⟩
    have hs6 := hsV5.beside hpV5.blk (by omega) G6
    have B6 := below_row BV5 G6 (by omega)
    have nX6 := blk_off nX5' G6 (by omega)
    have nY6 := blk_off nV5 G6 (by omega)
    have oX6 := oX5'.grown G6 (own_apart oX5' hpV5.blk (by decide))
    have oY6 := oV3.grown G6 (own_apart oV3 hpV5.blk (by decide))
    obtain ⟨V6, hV6⟩ : ∃ V6, w6.alloc (.cells #[.int .i64 2, .int .i64 2, .slice D4 k4 d4] 24) = V6 := ⟨_, rfl⟩
    have bV6 : Below w6.heap.size w6 V6 := by rw [← hV6]; exact (Below.refl _ _).alloc (Nat.le_refl _) _
    have nV6 : Blk V6 w6.heap.size 24 [.int .i64 2, .int .i64 2, .slice D4 k4 d4] := by rw [← hV6]; exact heap_alloc_new w6 _
    have BV6 := step_to B6 bV6
    have hsV6 := hs6.later bV6
    have oX6' := oX6.later bV6
    have oY6' := oY6.later bV6
    have rV4 := own_rd (o4.later bV6)
    have z6 := G6.size
    have z6' := bV6.size
    have hmk4 : k4 ≤ 140737488351232 := by
      rw [← rV4.1.1]
      have : exP.length = 2 + exD.length + alice.size := by
        unfold exP
        rw [pf_list 2 (by decide)]
        simp
        have : alice.data.size = 5 := rfl
        have : alice.size = 5 := rfl
        omega
      rw [this, exD, digL_length]
      decide
    refine ⟨D4, k4, d4, rfl, V6, hV6, nV6, ?_⟩
    have ST2 := stake_any V0.heap.size g1 tb1 mill 3 exS s2 2 D4 k4 d4 V6.heap.size exP none 0 0 0 [] V6 hsV6 ⟨by decide, by decide, by decide⟩ (by decide) rV4.1 (Nat.le_refl _) hmk4 Rd.nil (Nat.zero_le _) (fun _ => rfl) (fun _ => ⟨by decide, ex_ch.2, by rw [ex_ch.1]; decide⟩) ex_e.1
    rw [ex_e.2] at ST2
    refine ST2.mono ?_
    rintro e w7 ⟨D5, k5, d5, rfl, o5, G7, hs7⟩
    obtain ⟨E7, m7, f7, kb7, _⟩ := hsV6.blk
    have oX7 := oX6'.grown G7 (own_apart oX6' kb7 (by decide))
    have oY7 := oY6'.grown G7 (own_apart oY6' kb7 (by decide))
    have cv1 := conv_run (own_rd oX7).1 d1
    have cv3 := conv_run (own_rd oY7).1 d3
    rw [show strOf s1.L = ⟨#[1]⟩ by decide] at cv1
    rw [show strOf exC = ⟨#[4, 2, 99, 104, 109, 105, 108, 108]⟩ by decide] at cv3
    exact ⟨_, rfl, blk_off (past_same nX6 bV6) G7 (by omega), blk_off (past_same nY6 bV6) G7 (by omega), cv1, cv3, sstate_any _ _ _ _ _ _ _ w7 hs7, swho_any _ _ _ _ _ _ _ w7 hs7, below_row BV6 G7 (by omega)⟩
  have kc := fun (w : World) (C : Array Value) (n c : Nat) => Lib.run_convert_bytes_const (P := Tryd.prog) w 22 5 C n c Tryd.underlying22 Tryd.underlying5
  have HV0 := Lib.hid hV0
  clear hK hS hV0
  go_enter Tryd.func18, Tryd.ntmps18
  go_wp2_with (first
    | (rw [HV0.out])
    | (go_at_call 19; ((with_reducible refine C0.out.mono ?_); rintro e w1 ⟨g1, rfl, n1⟩; have C1 := Lib.hid n1; clear n1))
    | (go_at_call 27; ((with_reducible refine C1.out.mono ?_); rintro e w2 ⟨g2, rfl, n1⟩; have C2 := Lib.hid n1; clear n1))
    | (go_at_call 20; ((with_reducible refine C2.out.mono ?_); rintro e w3 ⟨D1, k1, d1, rfl, V3, hV3, p3, n1⟩; have HV3 := Lib.hid hV3; have x0 := p3.cell 0; have x1 := p3.cell 1; have x2 := p3.cell 2; have C3 := Lib.hid n1; clear hV3 p3 n1))
    | (rw [HV3.out])
    | (go_at_call 28; ((with_reducible refine C3.out.mono ?_); rintro e w4 ⟨D2, k2, d2, rfl, U4, hU4, p4, V4, hV4, n1⟩; have HU4 := Lib.hid hU4; have HV4 := Lib.hid hV4; have y0 := p4.cell 0; have y1 := p4.cell 1; have y2 := p4.cell 2; have C4 := Lib.hid n1; clear hU4 p4 hV4 n1))
    | (rw [HU4.out])
    | (rw [HV4.out])
    | (go_at_call 21; ((with_reducible refine C4.out.mono ?_); rintro e w5 ⟨D3, k3, d3, rfl, V5, hV5, p5, n1⟩; have HV5 := Lib.hid hV5; have z0 := p5.cell 0; have z1 := p5.cell 1; have z2 := p5.cell 2; have C5 := Lib.hid n1; clear hV5 p5 n1))
    | (rw [HV5.out])
    | (go_at_call 28; ((with_reducible refine C5.out.mono ?_); rintro e w6 ⟨D4, k4, d4, rfl, V6, hV6, p6, n1⟩; have HV6 := Lib.hid hV6; have u0 := p6.cell 0; have u1 := p6.cell 1; have u2 := p6.cell 2; have C6 := Lib.hid n1; clear hV6 p6 n1))
    | (rw [HV6.out])
    | (go_at_call 21; ((with_reducible refine C6.out.mono ?_); rintro e w7 ⟨v, rfl, pa, pc, cv1, cv3, hst, hwh, hb⟩; have q0 := pa.cell 0; have q1 := pa.cell 1; have q2 := pa.cell 2; have r0 := pc.cell 0; have r1 := pc.cell 1; have r2 := pc.cell 2; have ST := Lib.hid hst; have WH := Lib.hid hwh; have FN := Lib.hid hb; clear pa pc hst hwh hb))
    | (go_at_call 24; ((with_reducible refine ST.out.mono ?_); rintro e w' ⟨rfl, rfl⟩))
    | (go_at_call 26; ((with_reducible refine WH.out.mono ?_); rintro e w' ⟨rfl, rfl⟩)))
  go_ret
  exact ⟨rfl, FN.out⟩
end Go.Proofs.YtjimoegegigoiaaDoor
