/-
  lcp.Want; lcp.Reject of options that can be left out.
-/
import Derived.Test.YtonbdcajepmgbaaLcEndsM
import Derived.Test.YtonbdcajepmgbaaOpenRow
import Derived.Test.YtonbdcajepmgbaaLcBack
namespace Go.Proofs.Ytonbdcajepmgbaa
open Go.RowKit
set_option maxRecDepth 100000
set_option maxHeartbeats 2000000
set_option linter.unusedSimpArgs false
set_option linter.unusedVariables false

def wantO (cc : CV) (req mru acm magic : Int) : LOpts := ⟨mru, acm, req, if cc.mg then magic else 0, cc.pfc, cc.acfc⟩
def oz : Array Value := #[.int .i64 0, .int .i64 0, .int .i64 0, .int .u32 0, .bool false, .bool false]
theorem conf_cells {W : World} {z : Nat} {cv : Array Value} (h : Blk W z 102 cv.toList) {i : Nat} {v : Value} (e : cv[i]? = some v) : W.cell? ⟨z, i, none⟩ = some v := (h.cell i).trans (by simpa using e)
theorem below_set_alloc {w V : World} (h : Below w.heap.size w V) (o : Obj) : Below w.heap.size w (V.alloc o) := h.alloc h.size o
theorem want_any (cv : Array Value) (cc : CV) (req mru acm magic : Int) (w : World) (hs : cv.size = 33) (h2 : cv[2]? = some (.int .i64 req)) (h4 : cv[4]? = some (.int .i64 mru)) (h5 : cv[5]? = some (.int .i64 acm)) (h6 : cv[6]? = some (.bool cc.pfc)) (h7 : cv[7]? = some (.bool cc.acfc)) (h8 : cv[8]? = some (.bool cc.mg)) :
    Calls Try.prog 64 #[.agg cv, .int .u32 magic] w fun e w' => e = .returned (wantO cc req mru acm magic).val ∧ Below w.heap.size w w' := by
  have hzv : ∀ W, (zeroValue 76).run Try.prog W = .ok (.agg #[.int .i64 0, .int .i64 0, .int .i64 0, .int .u32 0, .bool false, .bool false]) W := fun W => by kernel_rfl
  obtain ⟨W2, hW2⟩ : ∃ W2, (w.alloc (.cells cv 102)).alloc (.cells #[.int .i64 0, .int .i64 0, .int .i64 0, .int .u32 0, .bool false, .bool false] 76) = W2 := ⟨_, rfl⟩
  have B2 : Below w.heap.size w W2 := by rw [← hW2]; exact ((Below.refl _ _).alloc (Nat.le_refl _) _).alloc (by simp) _
  have s2 : W2.heap.size = w.heap.size + 2 := by rw [← hW2]; simp
  have k2 : Blk W2 w.heap.size 102 cv.toList := by
    rw [← hW2]
    refine (Below.heap_alloc _ _ _ (by simp)).trans ?_
    have h := blk_new w 102 cv.toList
    unfold Blk at h
    simpa using h
  have kr : Blk W2 (w.heap.size + 1) 76 [.int .i64 0, .int .i64 0, .int .i64 0, .int .u32 0, .bool false, .bool false] := by
    rw [← hW2]
    have h := blk_new (w.alloc (.cells cv 102)) 76 [.int .i64 0, .int .i64 0, .int .i64 0, .int .u32 0, .bool false, .bool false]
    rw [World.size_alloc] at h
    exact h
  have c2 := conf_cells k2 h2
  have c4 := conf_cells k2 h4
  have c5 := conf_cells k2 h5
  have c6 := conf_cells k2 h6
  have c7 := conf_cells k2 h7
  have c8 := conf_cells k2 h8
  have q0 := kr.cell 0; have q1 := kr.cell 1; have q2 := kr.cell 2; have q3 := kr.cell 3; have q4 := kr.cell 4; have q5 := kr.cell 5
  have g0 := kr.frozen 0; have g1 := kr.frozen 1; have g2 := kr.frozen 2; have g3 := kr.frozen 3; have g4 := kr.frozen 4; have g5 := kr.frozen 5
  have HW := Lib.hid hW2
  have HB := Lib.hid B2
  have lt2 : w.heap.size + 1 < W2.heap.size := by omega
  have HG : Hid ((wantO cc req mru acm magic).val = .agg #[.int .i64 mru, .int .i64 acm, .int .i64 req, .int .u32 (if cc.mg then magic else 0), .bool cc.pfc, .bool cc.acfc]) := by show _ = _; rfl
  obtain ⟨mg, hg⟩ : ∃ x, cc.mg = x := ⟨_, rfl⟩
  rw [hg] at c8 HG
  generalize (wantO cc req mru acm magic).val = R at *
  rcases mg with _ | _
  all_goals
    clear hg hW2 B2 k2 kr h2 h4 h5 h6 h7 h8
    go_enter Try.func64, Try.ntmps64
    go_upto_region 1 with (fail)
    rw [HW.out]
    go_wp2
  · exact bodyPost_ret (v := .agg #[.int .i64 mru, .int .i64 acm, .int .i64 req, .int .u32 0, .bool cc.pfc, .bool cc.acfc]) (by simp [results, Try.results64, go_sem, lt2, World.cell?_alloc_past, q0, q1, q2, q3, q4, q5, g0, g1, g2, g3, g4, g5]) rfl ⟨by rw [HG.out]; rfl, below_set_alloc (set6_below HB.out (w.heap.size + 1) (by omega) (.int .i64 mru) (.int .i64 acm) (.int .i64 req) (.int .u32 0) (.bool cc.pfc) (.bool cc.acfc)) _⟩
  · exact bodyPost_ret (v := .agg #[.int .i64 mru, .int .i64 acm, .int .i64 req, .int .u32 magic, .bool cc.pfc, .bool cc.acfc]) (by simp [results, Try.results64, go_sem, lt2, World.cell?_alloc_past, q0, q1, q2, q3, q4, q5, g0, g1, g2, g3, g4, g5]) rfl ⟨by rw [HG.out]; rfl, below_set_alloc (set6_below HB.out (w.heap.size + 1) (by omega) (.int .i64 mru) (.int .i64 acm) (.int .i64 req) (.int .u32 magic) (.bool cc.pfc) (.bool cc.acfc)) _⟩
/-- Reject's variables: the result z6, what holds without z8, what is asked z9 -/
def RjJ (w V : World) (z6 z8 z9 : Nat) (A : Option Addr) (n : Nat) (s : List Opt) (o : LOpts) : Prop :=
  (Blk V z6 76 [.int .i64 0, .int .i64 0, .int .i64 0, .int .u32 0, .bool false, .bool false] ∧ Blk V z8 76 [.int .i64 1500, .int .i64 4294967295, .int .i64 0, .int .u32 0, .bool false, .bool false] ∧ Blk V z9 76 o.cells) ∧
  OptRd V w.heap.size A n s ∧ Below w.heap.size w V ∧ z6 ≠ z9 ∧ z8 ≠ z9 ∧ w.heap.size ≤ z6 ∧ w.heap.size ≤ z9
section
variable {w V V' : World} {z6 z8 z9 : Nat} {A : Option Addr} {n : Nat} {s : List Opt} {o : LOpts}
theorem RjJ.later (h : RjJ w V z6 z8 z9 A n s o) (hB : Below V.heap.size V V') : RjJ w V' z6 z8 z9 A n s o := by
  obtain ⟨⟨h1, h2, h3⟩, h4, h5, h6⟩ := h
  exact ⟨⟨(hB.block _ h1.lt).trans h1, (hB.block _ h2.lt).trans h2, (hB.block _ h3.lt).trans h3⟩, h4.below hB h5.size, h5.trans (hB.mono h5.size), h6⟩
theorem RjJ.put (h : RjJ w V z6 z8 z9 A n s o) (i : Nat) (v : Value) (o' : LOpts) (he : o'.cells = o.cells.set i v) : RjJ w (V.setCell ⟨z9, i, none⟩ v) z6 z8 z9 A n s o' := by
  obtain ⟨⟨h1, h2, h3⟩, h4, h5, h6, h7, h8, h9⟩ := h
  have hs := h3.set_ i v
  rw [← he] at hs
  have hB : Below w.heap.size V (V.setCell ⟨z9, i, none⟩ v) := (Below.refl _ _).setCell h9 _
  exact ⟨⟨(Below.heap_setCell V ⟨z9, i, none⟩ v z6 h6).trans h1, (Below.heap_setCell V ⟨z9, i, none⟩ v z8 h7).trans h2, hs⟩, h4.below hB (Nat.le_refl _), h5.trans hB, h6, h7, h8, h9⟩
end
theorem reject_any (cv : Array Value) (o : LOpts) (A : Option Addr) (n c : Nat) (s : List Opt) (w : World) (hr : OptRd w w.heap.size A n s) (hn : n ≤ 4398046511104) (hk : ∀ y ∈ s, y.1 = 5 ∨ y.1 = 7 ∨ y.1 = 8) :
    Calls Try.prog 66 #[.agg cv, .agg #[.int .i64 o.mru, .int .i64 o.accm, .int .i64 o.auth, .int .u32 o.magic, .bool o.pfc, .bool o.acfc], .slice A n c] w fun e w' =>
      e = .returned (.tuple #[.agg #[.int .i64 (rejF o s).mru, .int .i64 (rejF o s).accm, .int .i64 (rejF o s).auth, .int .u32 (rejF o s).magic, .bool (rejF o s).pfc, .bool (rejF o s).acfc], .bool true]) ∧ Below w.heap.size w w' := by
  have hzv : ∀ W, (zeroValue 76).run Try.prog W = .ok (.agg #[.int .i64 0, .int .i64 0, .int .i64 0, .int .u32 0, .bool false, .bool false]) W := fun W => by kernel_rfl
  obtain ⟨W3, hW3⟩ : ∃ W3, ((w.alloc (.cells cv 102)).alloc (.cells #[.int .i64 o.mru, .int .i64 o.accm, .int .i64 o.auth, .int .u32 o.magic, .bool o.pfc, .bool o.acfc] 76)).alloc (.cells #[.int .i64 0, .int .i64 0, .int .i64 0, .int .u32 0, .bool false, .bool false] 76) = W3 := ⟨_, rfl⟩
  have B3 : Below w.heap.size w W3 := by rw [← hW3]; exact (((Below.refl _ _).alloc (Nat.le_refl _) _).alloc (by simp) _).alloc (by simp; omega) _
  have s3 : W3.heap.size = w.heap.size + 3 := by rw [← hW3]; simp
  have k3 : cells6 W3 (w.heap.size + 1) o := by
    rw [← hW3]
    have h := cells6_new (w.alloc (.cells cv 102)) 76 o
    rw [World.size_alloc] at h
    exact cells6_later h (by simp) ((Below.refl _ _).alloc (Nat.le_refl _) _)
  have kr : Blk W3 (w.heap.size + 2) 76 [.int .i64 0, .int .i64 0, .int .i64 0, .int .u32 0, .bool false, .bool false] := by
    rw [← hW3]
    have h := blk_new ((w.alloc (.cells cv 102)).alloc (.cells #[.int .i64 o.mru, .int .i64 o.accm, .int .i64 o.auth, .int .u32 o.magic, .bool o.pfc, .bool o.acfc] 76)) 76 [.int .i64 0, .int .i64 0, .int .i64 0, .int .u32 0, .bool false, .bool false]
    rw [World.size_alloc, World.size_alloc] at h
    exact h
  have HW := Lib.hid hW3
  have DF : Hid (Calls Try.prog 52 #[] W3 fun e w4 => e = .returned (.agg #[.int .i64 1500, .int .i64 4294967295, .int .i64 0, .int .u32 0, .bool false, .bool false]) ∧ ∃ W5, w4.alloc (.cells #[.int .i64 1500, .int .i64 4294967295, .int .i64 0, .int .u32 0, .bool false, .bool false] 76) = W5 ∧ cells6 W5 (w.heap.size + 1) o ∧
      ∃ W6, W5.alloc (.cells #[.int .i64 o.mru, .int .i64 o.accm, .int .i64 o.auth, .int .u32 o.magic, .bool o.pfc, .bool o.acfc] 76) = W6 ∧ RjJ w W6 (w.heap.size + 2) w4.heap.size W5.heap.size A n s o) := by
    refine (default_any W3).mono ?_
    rintro e w4 ⟨rfl, b4⟩
    have s4 := b4.size
    have B5 : Below w4.heap.size w4 (w4.alloc (.cells #[.int .i64 1500, .int .i64 4294967295, .int .i64 0, .int .u32 0, .bool false, .bool false] 76)) := (Below.refl _ _).alloc (Nat.le_refl _) _
    have k5 := blk_new w4 76 [.int .i64 1500, .int .i64 4294967295, .int .i64 0, .int .u32 0, .bool false, .bool false]
    have s5 : (w4.alloc (.cells #[.int .i64 1500, .int .i64 4294967295, .int .i64 0, .int .u32 0, .bool false, .bool false] 76)).heap.size = w4.heap.size + 1 := by simp
    refine ⟨rfl, _, rfl, ?_⟩
    generalize w4.alloc (.cells #[.int .i64 1500, .int .i64 4294967295, .int .i64 0, .int .u32 0, .bool false, .bool false] 76) = W5 at *
    have k5' : Blk W5 w4.heap.size 76 [.int .i64 1500, .int .i64 4294967295, .int .i64 0, .int .u32 0, .bool false, .bool false] := k5
    have B35 : Below W3.heap.size W3 W5 := b4.trans (B5.mono s4)
    have B6 : Below W5.heap.size W5 (W5.alloc (.cells #[.int .i64 o.mru, .int .i64 o.accm, .int .i64 o.auth, .int .u32 o.magic, .bool o.pfc, .bool o.acfc] 76)) := (Below.refl _ _).alloc (Nat.le_refl _) _
    have B36 := B35.trans (B6.mono B35.size)
    have BW := B3.trans (B36.mono B3.size)
    exact ⟨cells6_later k3 (by omega) B35, _, rfl, ⟨(B36.block _ kr.lt).trans kr, (B6.block _ k5'.lt).trans k5', blk_new W5 _ o.cells⟩, hr.below BW (Nat.le_refl _), BW, by omega, by omega, by omega, by omega⟩
  have HK := Lib.hid hk
  clear hr hk hW3 B3 k3 kr
  go_enter Try.func66, Try.ntmps66
  go_upto_region 1 with (fail)
  rw [HW.out]
  go_wp2_with (first
    | (go_at_call 52; ((with_reducible refine DF.out.mono ?_); rintro e w4 ⟨rfl, W5, hw5, ⟨x0, x1, x2, x3, x4, x5⟩, W6, hw6, hj⟩; have HW5 := Lib.hid hw5; have HW6 := Lib.hid hw6; have HJ0 := Lib.hid hj; clear hw5 hw6 hj))
    | (rw [HW5.out])
    | (rw [HW6.out]))
  clear x0 x1 x2 x3 x4 x5 HW5 HW6 DF HW
  generalize w4.heap.size = z8 at *
  generalize W5.heap.size = z9 at *
  go_loopw [16] (fun v wr => ∃ (V : World) (k : Nat), V = wr ∧ k ≤ n ∧ v = .int .i64 k ∧ Hid (RjJ w V (w.heap.size + 2) z8 z9 A n s (rejF o (s.take k)))) (fun v _ => n - (intOf v).toNat)
  case atStart => exact ⟨_, 0, rfl, Nat.zero_le _, rfl, HJ0.out⟩
  case round =>
    obtain ⟨V, k, rfl, hkn, rfl, hJ⟩ := hrel
    have hR := hJ.out
    have hlen := hR.2.1.1
    by_cases hlt : k < n
    · obtain ⟨b, off, rfl, hbl, hc⟩ := hR.2.1.2 (by omega)
      obtain ⟨x1, E, kk, cc, x2, hRd, hE, hkc, hkb⟩ := hc k (by omega)
      have hy := HK.out _ (List.getElem_mem (by omega : k < s.length))
      have hst := rejF_take o s k (by omega)
      obtain ⟨K, hK⟩ : ∃ K, (s[k]'(by omega)).1 = K := ⟨_, rfl⟩
      rw [hK] at x1 hy hst
      generalize rejF o (s.take k) = p at *
      have BA : Below V.heap.size V (V.alloc (.cells #[.int .i64 K, .slice E kk cc] 70)) := (Below.refl _ _).alloc (Nat.le_refl _) _
      have hA := hR.later BA
      obtain ⟨VA, hVA⟩ : ∃ VA, V.alloc (.cells #[.int .i64 K, .slice E kk cc] 70) = VA := ⟨_, rfl⟩
      have knew := blk_new V 70 [.int .i64 K, .slice E kk cc]
      change Blk (V.alloc (.cells #[.int .i64 K, .slice E kk cc] 70)) _ _ _ at knew
      rw [hVA] at hA knew
      have d0 := hA.1.2.1.cell 3; have d1 := hA.1.2.1.cell 4; have d2 := hA.1.2.1.cell 5
      have y0 := hA.1.2.2.cell 3; have y1 := hA.1.2.2.cell 4; have y2 := hA.1.2.2.cell 5
      have f0 := hA.1.2.2.frozen 3; have f1 := hA.1.2.2.frozen 4; have f2 := hA.1.2.2.frozen 5
      have n0 := knew.cell 0
      have HVA := Lib.hid hVA
      have HA := Lib.hid hA
      clear hJ hR hc hRd hE hkc hK BA hA knew hVA
      rcases hy with rfl | rfl | rfl
      · have HS : Hid (rejF o (s.take (k + 1)) = { p with magic := 0 }) := by show _ = _; rw [hst]; rfl
        clear hst
        go_wp2_with (rw [HVA.out])
        go_roundw
        case rel => exact ⟨_, k + 1, rfl, by omega, by go_num, by rw [HS.out]; exact HA.out.put 3 (.int .u32 0) _ rfl⟩
        case measure => simp [intOf]; omega
      · have HS : Hid (rejF o (s.take (k + 1)) = { p with pfc := false }) := by show _ = _; rw [hst]; rfl
        clear hst
        go_wp2_with (rw [HVA.out])
        go_roundw
        case rel => exact ⟨_, k + 1, rfl, by omega, by go_num, by rw [HS.out]; exact HA.out.put 4 (.bool false) _ rfl⟩
        case measure => simp [intOf]; omega
      · have HS : Hid (rejF o (s.take (k + 1)) = { p with acfc := false }) := by show _ = _; rw [hst]; rfl
        clear hst
        go_wp2_with (rw [HVA.out])
        go_roundw
        case rel => exact ⟨_, k + 1, rfl, by omega, by go_num, by rw [HS.out]; exact HA.out.put 5 (.bool false) _ rfl⟩
        case measure => simp [intOf]; omega
    · have hkn' : k = n := by omega
      subst hkn'
      rw [List.take_of_length_le (by omega)] at hR
      obtain ⟨p, hp⟩ : ∃ p, rejF o s = p := ⟨_, rfl⟩
      rw [hp] at hR
      have HP := Lib.hid hp
      have HB := Lib.hid hR.2.2.1
      have q0 := hR.1.1.cell 0; have q1 := hR.1.1.cell 1; have q2 := hR.1.1.cell 2; have q3 := hR.1.1.cell 3; have q4 := hR.1.1.cell 4; have q5 := hR.1.1.cell 5
      have g0 := hR.1.1.frozen 0; have g1 := hR.1.1.frozen 1; have g2 := hR.1.1.frozen 2; have g3 := hR.1.1.frozen 3; have g4 := hR.1.1.frozen 4; have g5 := hR.1.1.frozen 5
      obtain ⟨p0, p1, p2, p3, p4, p5⟩ : cells6 V z9 p := ⟨hR.1.2.2.cell 0, hR.1.2.2.cell 1, hR.1.2.2.cell 2, hR.1.2.2.cell 3, hR.1.2.2.cell 4, hR.1.2.2.cell 5⟩
      clear hR hJ hp
      go_wp2
      exact bodyPost_ret (v := .tuple #[.agg #[.int .i64 p.mru, .int .i64 p.accm, .int .i64 p.auth, .int .u32 p.magic, .bool p.pfc, .bool p.acfc], .bool true]) (by simp [results, Try.results66, go_sem, q0, q1, q2, q3, q4, q5, g0, g1, g2, g3, g4, g5]) rfl ⟨by rw [HP.out], set6_below HB.out (w.heap.size + 2) (by omega) _ _ _ _ _ _⟩
end Go.Proofs.Ytonbdcajepmgbaa
