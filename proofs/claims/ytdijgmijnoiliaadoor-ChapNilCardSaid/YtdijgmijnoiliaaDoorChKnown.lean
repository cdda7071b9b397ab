/-
  chap's worked example: what comes of it, without running it.
  tetherlaw13.known is true.
-/
import Derived.Test.YtdijgmijnoiliaaDoorChTake
import Derived.Test.YtdijgmijnoiliaaDoorMdAw0
import Derived.Lib.SlBytesConst
namespace Go.Proofs.YtdijgmijnoiliaaDoor
open Go.RowKit Go.Shelf
set_option maxRecDepth 100000
set_option maxHeartbeats 1000000
set_option linter.unusedSimpArgs false
set_option linter.unusedVariables false

def alice : ByteArray := ⟨#[97, 108, 105, 99, 101]⟩
def mill : ByteArray := ⟨#[109, 105, 108, 108]⟩
def exS : List Sec := [⟨alice, mill, ⟨#[120]⟩, []⟩]
def ex2 : List Sec := [⟨alice, star, ⟨#[120]⟩, []⟩]
def exC : List UInt8 := [3, 97, 98, 99, 109, 105, 108, 108]
noncomputable def exD : List UInt8 := digL 7 ⟨#[120]⟩ [97, 98, 99]
noncomputable def exR : List UInt8 := mkL exD alice
theorem ex_right : rightE ⟨alice, mill, ⟨#[120]⟩, []⟩ = 0 ∧ rightE ⟨alice, star, ⟨#[120]⟩, []⟩ = 0 := by decide
theorem ex_chk : (chk exS).1 = 0 := by decide
theorem ex_names : nameB mill = true ∧ nameB alice = true := by decide
theorem ex_mk : mkE 1 7 3 mill = 0 ∧ mkL [97, 98, 99] mill = exC := by decide
theorem ex_rv : rvE 7 exC = 0 ∧ rvV exC = [97, 98, 99] ∧ rvS exC = mill := by decide
theorem ex_fst1 : fst exS alice mill = some 0 := by
  unfold fst exS
  rw [List.findIdx?_cons]
  simp [ex_right.1]
theorem ex_bst1 : bst exS alice mill = some 0 := by
  unfold bst
  rw [if_neg (by decide)]
  unfold pairsOf
  simp [ex_fst1]
theorem ex_fst2 : fst ex2 alice mill = none ∧ fst ex2 alice star = some 0 := by
  unfold fst ex2
  constructor
  · rw [List.findIdx?_cons]
    have : ¬ star = mill := by decide
    simp [this]
  · rw [List.findIdx?_cons]
    simp [ex_right.2]
theorem ex_bst2 : bst ex2 alice mill = some 0 := by
  unfold bst
  rw [if_neg (by decide)]
  unfold pairsOf
  simp [ex_fst2.1, ex_fst2.2]
theorem ex_wd1 : wdS exS (bst exS alice mill) = ⟨#[120]⟩ ∧ wdB exS (bst exS alice mill) = true := by
  rw [ex_bst1]
  exact ⟨rfl, rfl⟩
theorem ex_wd2 : wdS ex2 (bst ex2 alice mill) = ⟨#[120]⟩ ∧ wdB ex2 (bst ex2 alice mill) = true := by
  rw [ex_bst2]
  exact ⟨rfl, rfl⟩
theorem ex_an : anE 1 7 exC alice ⟨#[]⟩ ex2 = 0 ∧ asL 7 exC alice ⟨#[]⟩ ex2 = exR := by
  have hs : srvOf ⟨#[]⟩ exC = mill := ex_rv.2.2
  constructor
  · unfold anE asE
    rw [hs, ex_wd2.2, ex_rv.1, ex_names.2]
    rfl
  · unfold asL exR exD
    rw [hs, ex_wd2.1, ex_rv.2.1]
theorem ex_rr : rvE 7 exR = 0 ∧ rvV exR = exD ∧ rvS exR = alice := by
  obtain ⟨d0, d1, d2, d3, d4, d5, d6, d7, d8, d9, d10, d11, d12, d13, d14, d15, h⟩ := list16' exD (digL_length _ _ _)
  unfold exR
  rw [h]
  exact ⟨by rfl, by rfl, by rfl⟩
theorem ex_ho : hoE 1 7 exC 2 7 exR mill exS = 0 ∧ hoS 1 7 exC 2 7 exR mill exS = alice := by
  have hp : pvE 7 exC 7 exR mill exS = 0 := by
    unfold pvE
    rw [ex_rv.1, ex_rr.1, ex_rr.2.2, ex_wd1.2, ex_wd1.1, ex_rr.2.1, ex_rv.2.1]
    have : ¬ exD ≠ digL 7 ⟨#[120]⟩ [97, 98, 99] := fun h => h rfl
    simp [this]
  constructor
  · unfold hoE
    rw [if_pos ⟨rfl, rfl⟩, hp]
  · unfold hoS
    rw [if_pos ⟨rfl, rfl⟩]
    unfold pvS
    rw [if_pos hp, ex_rr.2.2]
theorem ex_str : strOf exC = ⟨#[3, 97, 98, 99, 109, 105, 108, 108]⟩ := by decide
end Go.Proofs.YtdijgmijnoiliaaDoor
namespace Go.Proofs.YtdijgmijnoiliaaDoor
open Go.RowKit Go.Shelf
set_option maxRecDepth 100000
set_option maxHeartbeats 1000000
set_option linter.unusedSimpArgs false
set_option linter.unusedVariables false

theorem jwho_any (g : Nat) (name : ByteArray) (tb : Nat) (st lc li asked : Int) (s : Value) (who : ByteArray) (w : World) (h : Blk w g 77 (jC name tb st lc li s asked who)) :
    Calls Tryd.prog 29 #[.pointer (some ⟨g, 0, none⟩)] w fun e w' => e = .returned (.string who) ∧ w = w' := by
  have a7 : w.cell? ⟨g, 7, none⟩ = some (.string who) := h.cell 7
  clear h
  go_enter Tryd.func29, Tryd.ntmps29
  go_wp2
  go_ret
  exact ⟨rfl, rfl⟩
theorem jstate_any (g : Nat) (name : ByteArray) (tb : Nat) (st lc li asked : Int) (s : Value) (who : ByteArray) (w : World) (h : Blk w g 77 (jC name tb st lc li s asked who)) :
    Calls Tryd.prog 28 #[.pointer (some ⟨g, 0, none⟩)] w fun e w' => e = .returned (.int .i64 st) ∧ w = w' := by
  have a2 : w.cell? ⟨g, 2, none⟩ = some (.int .i64 st) := h.cell 2
  clear h
  go_enter Tryd.func28, Tryd.ntmps28
  go_wp2
  go_ret
  exact ⟨rfl, rfl⟩
theorem one_sec {V : World} {b : Nat} {x : Sec} (h : Blk V b 44 [.string x.cl, .string x.sv, .string x.wd, .slice none 0 0]) (hx : okS x) (ha : x.ad = []) : SecRd V V.heap.size (some ⟨b, 0, none⟩) 1 [x] := by
  refine ⟨rfl, by omega, fun _ => ⟨b, 0, rfl, Blk.lt h, fun i y hy => ?_⟩⟩
  match i, hy with
  | 0, hy =>
    obtain rfl : x = y := by simpa using hy
    refine ⟨hx, none, 0, 0, ⟨by rw [ha]; rfl, Nat.le_refl _, fun _ => rfl, by omega, fun h => absurd h (by omega)⟩, fun j u hu => ?_⟩
    rw [Nat.zero_add, h.cell]
    exact hu
  | i + 1, hy => simp at hy
/-- two blocks, one behind the other -/
theorem alloc_two (w : World) (a b : Array Value) (s t : Nat) : ∃ V, (w.alloc (.cells a s)).alloc (.cells b t) = V ∧ Below w.heap.size w V ∧ V.heap[w.heap.size]? = some (.cells a s (0, 0)) ∧ V.heap[w.heap.size + 1]? = some (.cells b t (0, 0)) := by
  refine ⟨_, rfl, ((Below.refl _ _).alloc (Nat.le_refl _) _).alloc (by simp) _, (Below.heap_alloc _ _ _ (by simp)).trans (heap_alloc_new w _), ?_⟩
  have h := heap_alloc_new (w.alloc (.cells a s)) (.cells b t)
  rw [World.size_alloc] at h
  exact h
theorem known_any (w : World) (hK : TabK w) (hS : TabS w) : Calls Tryd.prog 18 #[] w fun e w' => e = .returned (.bool true) ∧ Below w.heap.size w w' := by
  have C : Hid (Calls Tryd.prog 8 #[.int .i64 1, .int .i64 7, .slice (some ⟨w.heap.size, 0, none⟩) 3 3, .string ⟨#[109, 105, 108, 108]⟩] (w.alloc (.cells #[.int .u8 97, .int .u8 98, .int .u8 99] 5 (3, 4))) fun e w1 => ∃ D1 k1 d1, e = .returned (.tuple #[.agg #[.int .i64 1, .int .i64 7, .slice D1 k1 d1], .int .i64 0]) ∧
      ∃ V1, (w1.alloc (.cells #[.int .i64 1, .int .i64 7, .slice D1 k1 d1] 24)).alloc (.cells #[.string ⟨#[97, 108, 105, 99, 101]⟩, .string ⟨#[109, 105, 108, 108]⟩, .string ⟨#[120]⟩, .slice none 0 0] 44) = V1 ∧
      Calls Tryd.prog 36 #[.string ⟨#[109, 105, 108, 108]⟩, .slice (some ⟨w1.heap.size + 1, 0, none⟩) 1 1] V1 fun e w2 => ∃ g, e = .returned (.tuple #[.pointer (some ⟨g, 0, none⟩), .int .i64 0]) ∧
      Calls Tryd.prog 25 #[.pointer (some ⟨g, 0, none⟩), .int .i64 7, .slice (some ⟨w2.heap.size, 0, none⟩) 3 3] (w2.alloc (.cells #[.int .u8 97, .int .u8 98, .int .u8 99] 5 (3, 4))) fun e w3 => ∃ D3 k3 d3, e = .returned (.tuple #[.agg #[.int .i64 1, .int .i64 7, .slice D3 k3 d3], .int .i64 0]) ∧
      ∃ V3, (w3.alloc (.cells #[.int .i64 1, .int .i64 7, .slice D3 k3 d3] 24)).alloc (.cells #[.string ⟨#[97, 108, 105, 99, 101]⟩, .string ⟨#[42]⟩, .string ⟨#[120]⟩, .slice none 0 0] 44) = V3 ∧
      Calls Tryd.prog 19 #[.agg #[.int .i64 1, .int .i64 7, .slice D3 k3 d3], .string ⟨#[97, 108, 105, 99, 101]⟩, .string ⟨#[]⟩, .slice (some ⟨w3.heap.size + 1, 0, none⟩) 1 1] V3 fun e w4 => ∃ D4 k4 d4, e = .returned (.tuple #[.agg #[.int .i64 2, .int .i64 7, .slice D4 k4 d4], .int .i64 0]) ∧
      ∃ V4, w4.alloc (.cells #[.int .i64 2, .int .i64 7, .slice D4 k4 d4] 24) = V4 ∧ Blk V4 w4.heap.size 24 [.int .i64 2, .int .i64 7, .slice D4 k4 d4] ∧
      Calls Tryd.prog 27 #[.pointer (some ⟨g, 0, none⟩), .agg #[.int .i64 2, .int .i64 7, .slice D4 k4 d4]] V4 fun e w5 => ∃ D5 k5 d5, e = .returned (.tuple #[.agg #[.int .i64 3, .int .i64 7, .slice D5 k5 d5], .int .i64 0]) ∧
      ∃ V5, w5.alloc (.cells #[.int .i64 3, .int .i64 7, .slice D5 k5 d5] 24) = V5 ∧ Blk V5 w5.heap.size 24 [.int .i64 3, .int .i64 7, .slice D5 k5 d5] ∧ Blk V5 w1.heap.size 24 [.int .i64 1, .int .i64 7, .slice D1 k1 d1] ∧
      (convert 22 9 (.slice D1 k1 d1)).run Tryd.prog V5 = .ok (.string ⟨#[3, 97, 98, 99, 109, 105, 108, 108]⟩) V5 ∧
      (Calls Tryd.prog 29 #[.pointer (some ⟨g, 0, none⟩)] V5 fun e w' => e = .returned (.string ⟨#[97, 108, 105, 99, 101]⟩) ∧ V5 = w') ∧
      (Calls Tryd.prog 28 #[.pointer (some ⟨g, 0, none⟩)] V5 fun e w' => e = .returned (.int .i64 2) ∧ V5 = w') ∧ Below w.heap.size w V5) := by
    have b0 := (Below.refl w.heap.size w).alloc (Nat.le_refl _) (.cells #[.int .u8 97, .int .u8 98, .int .u8 99] 5 (3, 4))
    have M := make_any 1 7 (some ⟨w.heap.size, 0, none⟩) 3 3 (w.heap.size + 1) [97, 98, 99] mill _ (rd_built3 w [97, 98, 99] (3, 4)) (by rw [World.size_alloc]; omega) (fun h => nomatch h) (by omega) (by decide)
    rw [ex_mk.1, ex_mk.2] at M
    refine M.mono ?_
    rintro e w1 ⟨b1, D1, k1, d1, rfl, o1⟩
    simp only [if_true] at o1 ⊢
    have B1 := step_to b0 b1
    obtain ⟨r1, -, -⟩ := own_rd o1
    obtain ⟨V1, hV1, b2, p1, s1⟩ := alloc_two w1 #[.int .i64 1, .int .i64 7, .slice D1 k1 d1] #[.string ⟨#[97, 108, 105, 99, 101]⟩, .string ⟨#[109, 105, 108, 108]⟩, .string ⟨#[120]⟩, .slice none 0 0] 24 44
    have B2 := step_to B1 b2
    refine ⟨D1, k1, d1, rfl, V1, hV1, ?_⟩
    refine (newJ_ok mill (some ⟨w1.heap.size + 1, 0, none⟩) 1 1 V1.heap.size exS V1 (by decide) ex_names.1 ex_chk (one_sec (x := ⟨alice, mill, ⟨#[120]⟩, []⟩) s1 ⟨by decide, by decide, by decide⟩ rfl) (Nat.le_refl _)).mono ?_
    rintro e w2 ⟨g, tb, rfl, b3, hg3, j2, wt, ht, hgt, bt⟩
    have B3 := step_to B2 b3
    refine ⟨g, rfl, ?_⟩
    have b4 := (Below.refl w2.heap.size w2).alloc (Nat.le_refl _) (.cells #[.int .u8 97, .int .u8 98, .int .u8 99] 5 (3, 4))
    have rd2 := rd_built3 w2 [97, 98, 99] (3, 4)
    obtain ⟨V2, hV2⟩ : ∃ V2, w2.alloc (.cells #[.int .u8 97, .int .u8 98, .int .u8 99] 5 (3, 4)) = V2 := ⟨_, rfl⟩
    have z2 : V2.heap.size = w2.heap.size + 1 := by rw [← hV2, World.size_alloc]
    have rd3 : Rd V2 (w2.heap.size + 1) (some ⟨w2.heap.size, 0, none⟩) 3 [97, 98, 99] := by rw [← hV2]; exact rd2
    rw [hV2] at b4 ⊢
    have j3 := past_same j2 b4
    refine (ask_ok g mill tb 0 0 0 0 (.slice none 0 0) ⟨#[]⟩ 7 (some ⟨w2.heap.size, 0, none⟩) 3 3 (w2.heap.size + 1) [97, 98, 99] V2 j3 rd3 (by omega) (fun h => nomatch h) (by omega) (by decide) ex_mk.1 (by rw [ex_mk.2]; decide)).mono ?_
    rw [ex_mk.2]
    rintro e w3 ⟨D3, k3, d3, Dj, kj, dj, rfl, o3, oj, g3, j4⟩
    have BV1 : Below V1.heap.size V1 w3 := below_row (step_to b3 b4) g3 hg3
    have BT3 : Below wt.heap.size wt w3 := below_row (step_to bt b4) g3 hgt
    have BW3 := step_to B2 BV1
    obtain ⟨V3, hV3, b5, p3, s3⟩ := alloc_two w3 #[.int .i64 1, .int .i64 7, .slice D3 k3 d3] #[.string ⟨#[97, 108, 105, 99, 101]⟩, .string ⟨#[42]⟩, .string ⟨#[120]⟩, .slice none 0 0] 24 44
    have BW5 := step_to BW3 b5
    have r3 := own_rd (o3.later b5)
    refine ⟨D3, k3, d3, rfl, V3, hV3, ?_⟩
    have AN := canswer_any 1 7 D3 k3 d3 V3.heap.size exC alice ⟨#[]⟩ (some ⟨w3.heap.size + 1, 0, none⟩) 1 1 V3.heap.size ex2 V3 r3.1 (Nat.le_refl _) (by rw [← r3.1.1]; decide) (by decide) (by decide) (one_sec (x := ⟨alice, star, ⟨#[120]⟩, []⟩) s3 ⟨by decide, by decide, by decide⟩ rfl) (Nat.le_refl _) (hK.kept BW5) (hS.kept BW5)
    rw [ex_an.1, ex_an.2] at AN
    refine AN.mono ?_
    rintro e w4 ⟨b6, D4, k4, d4, rfl, o4⟩
    simp only [if_true] at o4 ⊢
    have b7 := (Below.refl w4.heap.size w4).alloc (Nat.le_refl _) (.cells #[.int .i64 2, .int .i64 7, .slice D4 k4 d4] 24)
    have p4 := heap_alloc_new w4 (.cells #[.int .i64 2, .int .i64 7, .slice D4 k4 d4] 24)
    obtain ⟨V4, hV4⟩ : ∃ V4, w4.alloc (.cells #[.int .i64 2, .int .i64 7, .slice D4 k4 d4] 24) = V4 := ⟨_, rfl⟩
    rw [hV4] at b7 p4
    have b37 := step_to (step_to b5 b6) b7
    have BW7 := step_to BW3 b37
    have r4 := own_rd (o4.later b7)
    have rj := own_rd (oj.later b37)
    refine ⟨D4, k4, d4, rfl, V4, hV4, p4, ?_⟩
    have hlen : exR.length = 22 := by
      unfold exR mkL
      rw [List.length_append, List.length_append, exD, digL_length]
      rfl
    refine (jtake_ok g mill tb 7 1 ⟨#[]⟩ alice Dj D4 kj dj k4 d4 exC exR exS V4 ⟨past_same j4 b37, rj.1, ht.later (step_to BT3 b37), hK.kept BW7, hS.kept BW7⟩ r4.1 (by rw [← rj.1.1]; decide) (by rw [← r4.1.1, hlen]; omega) (by decide) (by decide) ex_ho.1 ex_ho.2).mono ?_
    rintro e w5 ⟨D5, k5, d5, rfl, g5, j5⟩
    have b8 := (Below.refl w5.heap.size w5).alloc (Nat.le_refl _) (.cells #[.int .i64 3, .int .i64 7, .slice D5 k5 d5] 24)
    have p5 := heap_alloc_new w5 (.cells #[.int .i64 3, .int .i64 7, .slice D5 k5 d5] 24)
    obtain ⟨V5, hV5⟩ : ∃ V5, w5.alloc (.cells #[.int .i64 3, .int .i64 7, .slice D5 k5 d5] 24) = V5 := ⟨_, rfl⟩
    rw [hV5] at b8 p5
    have BV5 : Below V1.heap.size V1 V5 := step_to (below_row (step_to BV1 b37) g5 hg3) b8
    have j6 := past_same j5 b8
    have cv := conv_run (r1.below (step_to b2 BV5)) d1
    rw [ex_str] at cv
    exact ⟨D5, k5, d5, rfl, V5, hV5, p5, past_same p1 BV5, cv, jwho_any _ _ _ _ _ _ _ _ _ V5 j6, jstate_any _ _ _ _ _ _ _ _ _ V5 j6, step_to B2 BV5⟩
  have kc := fun (w : World) (C : Array Value) (n c : Nat) => Lib.run_convert_bytes_const (P := Tryd.prog) w 22 5 C n c Tryd.underlying22 Tryd.underlying5
  clear hK hS
  go_enter Tryd.func18, Tryd.ntmps18
  go_wp2_with (first
    | (go_at_call 8; ((with_reducible refine C.out.mono ?_); rintro e w1 ⟨D1, k1, d1, rfl, V1, hV1, n1⟩; have HV1 := Lib.hid hV1; have C1 := Lib.hid n1; clear hV1 n1))
    | (rw [HV1.out])
    | (go_at_call 36; ((with_reducible refine C1.out.mono ?_); rintro e w2 ⟨g, rfl, n1⟩; have C2 := Lib.hid n1; clear n1))
    | (go_at_call 25; ((with_reducible refine C2.out.mono ?_); rintro e w3 ⟨D3, k3, d3, rfl, V3, hV3, n1⟩; have HV3 := Lib.hid hV3; have C3 := Lib.hid n1; clear hV3 n1))
    | (rw [HV3.out])
    | (go_at_call 19; ((with_reducible refine C3.out.mono ?_); rintro e w4 ⟨D4, k4, d4, rfl, V4, hV4, p4, n1⟩; have HV4 := Lib.hid hV4; have x0 := p4.cell 0; have x1 := p4.cell 1; have x2 := p4.cell 2; have C4 := Lib.hid n1; clear hV4 p4 n1))
    | (rw [HV4.out])
    | (go_at_call 27; ((with_reducible refine C4.out.mono ?_); rintro e w5 ⟨D5, k5, d5, rfl, V5, hV5, p5, p1, cv, hw, hst, hb⟩; have HV5 := Lib.hid hV5; have y0 := p5.cell 0; have y1 := p5.cell 1; have y2 := p5.cell 2; have z0 := p1.cell 0; have z1 := p1.cell 1; have z2 := p1.cell 2; have WH := Lib.hid hw; have ST := Lib.hid hst; have FN := Lib.hid hb; clear hV5 p5 p1 hw hst hb))
    | (rw [HV5.out])
    | (go_at_call 29; ((with_reducible refine WH.out.mono ?_); rintro e w' ⟨rfl, rfl⟩))
    | (go_at_call 28; ((with_reducible refine ST.out.mono ?_); rintro e w' ⟨rfl, rfl⟩)))
  go_ret
  exact ⟨rfl, FN.out⟩
end Go.Proofs.YtdijgmijnoiliaaDoor
