/-
  opt.follows, Fits; tetherref09.Fits.
-/
import Derived.Test.YtonbdcajepmgbaaDoorOpFollow
namespace Go.Proofs.YtonbdcajepmgbaaDoor
open Go.RowKit
set_option maxRecDepth 100000
set_option maxHeartbeats 4000000
set_option linter.unusedSimpArgs false
set_option linter.unusedVariables false

/-- what the comparison reads -/
def FG (w W : World) (z : Nat) (A : Option Addr) (n c : Nat) (K J : Int) : Prop := (Below w.heap.size w W ∧ w.heap.size + 2 ≤ W.heap.size) ∧ W.cell? ⟨z, 0, none⟩ = some (.slice A n c) ∧ W.cell? ⟨w.heap.size, 0, none⟩ = some (.int .i64 K) ∧ W.cell? ⟨w.heap.size + 1, 0, none⟩ = some (.int .i64 J)
theorem FG.later {w W W' : World} {z : Nat} {A : Option Addr} {n c : Nat} {K J : Int} (h : FG w W z A n c K J) (hz : z < w.heap.size) (hB : Below W.heap.size W W') : FG w W' z A n c K J := by
  obtain ⟨⟨h1, h2⟩, h3, h4, h5⟩ := h
  exact ⟨⟨h1.trans (hB.mono h1.size), Nat.le_trans h2 hB.size⟩, (hB.cell (show z < W.heap.size by omega)).trans h3, (hB.cell (show w.heap.size < W.heap.size by omega)).trans h4, (hB.cell (show w.heap.size + 1 < W.heap.size by omega)).trans h5⟩
theorem follow1_any (A : Option Addr) (n c B z : Nat) (s : List Opt) (K J : Int) (E F : Option Addr) (k1 c1 k2 c2 : Nat) (w : World) (hr : OptRd w B A n s) (hB : B ≤ w.heap.size) (hn : n ≤ 4398046511104) (hz : z < w.heap.size) (hc : w.cell? ⟨z, 0, none⟩ = some (.slice A n c)) :
    Calls Tryd.prog 40 #[.agg #[.int .i64 K, .slice E k1 c1], .agg #[.int .i64 J, .slice F k2 c2], .pointer (some ⟨z, 0, none⟩)] w fun e w' => e = .returned (.int .i64 (cmpI (plc s K : Nat) (plc s J : Nat))) ∧ Below w.heap.size w w' := by
  obtain ⟨W1, hW1⟩ : ∃ W1, (w.alloc (.cells #[.int .i64 K, .slice E k1 c1] 28)).alloc (.cells #[.int .i64 J, .slice F k2 c2] 28) = W1 := ⟨_, rfl⟩
  have B1 : Below w.heap.size w W1 := by rw [← hW1]; exact ((Below.refl _ _).alloc (Nat.le_refl _) _).alloc (by simp) _
  have s1 : W1.heap.size = w.heap.size + 2 := by rw [← hW1]; simp
  have ka : Blk W1 w.heap.size 28 [.int .i64 K, .slice E k1 c1] := by
    rw [← hW1]
    exact (Below.heap_alloc _ _ _ (by simp)).trans (blk_new w _ _)
  have kb : Blk W1 (w.heap.size + 1) 28 [.int .i64 J, .slice F k2 c2] := by
    rw [← hW1]
    have h := blk_new (w.alloc (.cells #[.int .i64 K, .slice E k1 c1] 28)) 28 [.int .i64 J, .slice F k2 c2]
    rw [World.size_alloc] at h
    exact h
  have hg : FG w W1.drew z A n c K J := ⟨⟨below_drewN B1 1, by show _ ≤ W1.heap.size; omega⟩, (B1.cell hz).trans hc, ka.cell 0, kb.cell 0⟩
  have HW := Lib.hid hW1
  have PK : Hid (∀ W, FG w W z A n c K J → Calls Tryd.prog 24 #[.slice A n c, .int .i64 K] W fun e w' => e = .returned (.int .i64 (plc s K : Nat)) ∧ FG w w' z A n c K J) := fun W hW => by
    refine (oplace_any A n c B s K W (hr.below (hW.1.1.mono hB) (Nat.le_refl _)) (Nat.le_trans hB hW.1.1.size) hn).mono ?_
    rintro e w' ⟨rfl, b⟩
    exact ⟨rfl, hW.later hz b⟩
  have PJ : Hid (∀ W, FG w W z A n c K J → Calls Tryd.prog 24 #[.slice A n c, .int .i64 J] W fun e w' => e = .returned (.int .i64 (plc s J : Nat)) ∧ FG w w' z A n c K J) := fun W hW => by
    refine (oplace_any A n c B s J W (hr.below (hW.1.1.mono hB) (Nat.le_refl _)) (Nat.le_trans hB hW.1.1.size) hn).mono ?_
    rintro e w' ⟨rfl, b⟩
    exact ⟨rfl, hW.later hz b⟩
  have FB : Hid (∀ W, FG w W z A n c K J → Below w.heap.size w W) := fun W hW => hW.1.1
  have x0 : W1.cell? ⟨z, 0, none⟩ = some (.slice A n c) := hg.2.1
  have x1 : W1.cell? ⟨w.heap.size, 0, none⟩ = some (.int .i64 K) := hg.2.2.1
  have x2 : W1.cell? ⟨w.heap.size + 1, 0, none⟩ = some (.int .i64 J) := hg.2.2.2
  have HG0 := Lib.hid hg
  clear hW1 B1 ka kb hg hr hc
  go_enter Tryd.func40, Tryd.ntmps40
  go_upto_region 1 with (fail)
  rw [HW.out]
  go_region_held3 (fun w' => w'.cell? ⟨z, 0, none⟩ = some (.slice A n c) ∧ w'.cell? ⟨w.heap.size, 0, none⟩ = some (.int .i64 K) ∧ w'.cell? ⟨w.heap.size + 1, 0, none⟩ = some (.int .i64 J)) (go_keep) (first
    | (go_at_call 24; (with_reducible refine (PK.out _ HG.out).mono ?_); rintro e v ⟨rfl, hg⟩; obtain ⟨-, a0, a1, a2⟩ := id hg; have HG := Lib.hid hg; clear hg)
    | (go_at_call 24; (with_reducible refine (PJ.out _ HG.out).mono ?_); rintro e v ⟨rfl, hg⟩; obtain ⟨-, a0, a1, a2⟩ := id hg; have HG := Lib.hid hg; clear hg)
    | (go_at_call 24; (with_reducible refine (PK.out _ HG0.out).mono ?_); rintro e v ⟨rfl, hg⟩; obtain ⟨-, a0, a1, a2⟩ := id hg; have HG := Lib.hid hg; clear hg)
    | (go_at_call 24; (with_reducible refine (PJ.out _ HG0.out).mono ?_); rintro e v ⟨rfl, hg⟩; obtain ⟨-, a0, a1, a2⟩ := id hg; have HG := Lib.hid hg; clear hg)
    | (go_at_call 41; (with_reducible refine (compare_any _ _ _).mono ?_); rintro e v ⟨rfl, rfl⟩))
  all_goals
    go_wp2_with fail
    go_ret
    exact ⟨rfl, FB.out _ HG.out⟩
/-- the types stand in the order of their places -/
def Srt (s t : List Opt) : Prop := ∀ j (h : j + 1 < t.length), plc s (t[j]'(by omega)).1 ≤ plc s t[j + 1].1
def SrtFrom (s t : List Opt) (x : Int) : Prop := ∀ j (h : j + 1 < t.length), x ≤ j → plc s (t[j]'(by omega)).1 ≤ plc s t[j + 1].1
theorem sorted_any (A D : Option Addr) (n c m d B z : Nat) (s t : List Opt) (R : Bool) (hR : R = true ↔ Srt s t) (w : World) (hr : OptRd w B A n s) (hq : OptRd w B D m t) (hB : B ≤ w.heap.size) (hn : n ≤ 4398046511104) (hm : m ≤ 4398046511104) (hz : z < w.heap.size) (hc : w.cell? ⟨z, 0, none⟩ = some (.slice A n c)) :
    Calls Tryd.prog 39 #[.slice D m d, .func (.func 40) #[] #[.pointer (some ⟨z, 0, none⟩)]] w fun e w' => e = .returned (.bool R) ∧ Below w.heap.size w w' := by
  have HR := Lib.hid hr
  have HQ := Lib.hid (hq.wide hB)
  have HRR := Lib.hid hR
  have HC := Lib.hid hc
  have hl := hq.1
  clear hr hq hR hc
  go_enter Tryd.func39, Tryd.ntmps39
  go_wp2
  go_loopw [5] (fun v wr => ∃ (V : World) (x : Int), V = wr ∧ v = .int .i64 x ∧ -1 ≤ x ∧ x < m ∧ Hid (Below w.heap.size w V ∧ SrtFrom s t x)) (fun v _ => (intOf v).toNat)
  case atStart => exact ⟨_, (m : Int) - 1, rfl, by go_num, by omega, by omega, Below.refl _ _, fun j h hx => by omega⟩
  case round =>
    obtain ⟨V, x, rfl, rfl, hx0, hx1, hJ⟩ := hrel
    obtain ⟨hBw, hS⟩ := hJ.out
    by_cases hlt : 0 < x
    · obtain ⟨k, p, hpk, rfl⟩ : ∃ k p : Nat, p = k + 1 ∧ x = (p : Nat) := ⟨(x - 1).toNat, x.toNat, by omega, by omega⟩
      have hkm : p < m := by omega
      have hp1 : (p : Int) - 1 = (k : Int) := by omega
      have hkm2 : k < m := by omega
      have hwk : IntKind.i64.wrap (k : Int) = (k : Int) := by rw [IntKind.wrap_i64]; omega
      have s1 := hBw.size
      obtain ⟨b, off, rfl, hb, hc⟩ := HQ.out.2 (by omega)
      obtain ⟨x1, E, kk, cc, x2, -⟩ := hc p (by omega)
      obtain ⟨y1, F, jj, dd, y2, -⟩ := hc k (by omega)
      obtain ⟨K, hK⟩ : ∃ K, (t[p]'(by omega)).1 = K := ⟨_, rfl⟩
      obtain ⟨J, hJ1⟩ : ∃ J, (t[k]'(by omega)).1 = J := ⟨_, rfl⟩
      rw [hK] at x1
      rw [hJ1] at y1
      have d1 : V.cell? ⟨b, off + p * 2, none⟩ = some (.int .i64 K) := (hBw.cell hb).trans x1
      have d2 : V.cell? ⟨b, off + p * 2 + 1, none⟩ = some (.slice E kk cc) := (hBw.cell hb).trans x2
      have d3 : V.cell? ⟨b, off + k * 2, none⟩ = some (.int .i64 J) := (hBw.cell hb).trans y1
      have d4 : V.cell? ⟨b, off + k * 2 + 1, none⟩ = some (.slice F jj dd) := (hBw.cell hb).trans y2
      have CM := Lib.hid (follow1_any A n c B z s K J E F kk cc jj dd V.drew ((HR.out.below (hBw.mono hB) (Nat.le_refl _)).drewN 1) (by show B ≤ V.heap.size; omega) hn (by show z < V.heap.size; omega) ((hBw.cell (show z < w.heap.size from hz)).trans HC.out))
      have HB := Lib.hid hBw
      by_cases hle : plc s J ≤ plc s K
      · have hcm : cmpI (plc s K : Nat) (plc s J : Nat) < 0 ↔ False := by
          unfold cmpI
          constructor
          · intro h
            split at h
            · omega
            · split at h <;> omega
          · exact False.elim
        have HN : Hid (SrtFrom s t (k : Int)) := fun j h hx => by
          by_cases hjk : j = k
          · subst hjk
            subst hpk
            rw [hJ1, hK]
            exact hle
          · exact hS j h (by omega)
        generalize cmpI (plc s K : Nat) (plc s J : Nat) = q at *
        have hq0 : ¬ q < 0 := hcm.1
        clear hc x1 x2 y1 y2 hJ hS hBw hK hJ1 hle hcm hpk
        go_wp2
        go_region_law (go_simp; go_at_call 40; (with_reducible refine CM.out.mono ?_); rintro e v ⟨rfl, h3⟩; have H3 := Lib.hid h3; clear h3)
        all_goals
          go_wp2
          go_roundw
          case rel => exact ⟨_, (k : Int), rfl, by go_num, by omega, by omega, HB.out.trans ((below_undrew H3.out).mono s1), HN.out⟩
          case measure => simp [intOf] <;> omega
      · have hq0 : cmpI (plc s K : Nat) (plc s J : Nat) < 0 := by unfold cmpI; rw [if_pos (by omega)]; omega
        have HS : Hid (R = false) := by
          show _ = _
          rw [Bool.eq_false_iff]
          intro h
          subst hpk
          have := HRR.out.1 h k (by omega)
          rw [hJ1, hK] at this
          exact hle this
        generalize cmpI (plc s K : Nat) (plc s J : Nat) = q at *
        clear hc x1 x2 y1 y2 hJ hS hBw hK hJ1 hle hpk
        go_wp2
        go_region_law (go_simp; go_at_call 40; (with_reducible refine CM.out.mono ?_); rintro e v ⟨rfl, h3⟩; have H3 := Lib.hid h3; clear h3)
        all_goals
          go_wp2
          go_ret
          exact ⟨by rw [HS.out]; rfl, HB.out.trans ((below_undrew H3.out).mono s1)⟩
    · have HS : Hid (R = true) := HRR.out.2 (fun j h => hS j h (by omega))
      have HB := Lib.hid hBw
      clear hJ hS hBw
      go_wp2
      go_ret
      exact ⟨by rw [HS.out]; rfl, HB.out⟩
theorem follows_any (A D : Option Addr) (n c m d B : Nat) (s t : List Opt) (R : Bool) (hR : R = true ↔ Srt s t) (w : World) (hr : OptRd w B A n s) (hq : OptRd w B D m t) (hB : B ≤ w.heap.size) (hn : n ≤ 4398046511104) (hm : m ≤ 4398046511104) :
    Calls Tryd.prog 28 #[.slice D m d, .slice A n c] w fun e w' => e = .returned (.bool R) ∧ Below w.heap.size w w' := by
  have hmf : ∀ (fn : Fn) (first cap : Array Value) (w : World), (Instr.makeFunc fn first cap).run Tryd.prog w = .ok (.func fn first cap) w := fun _ _ _ _ => rfl
  have B1 : Below w.heap.size w (w.alloc (.cells #[.slice A n c] 22)) := (Below.refl _ _).alloc (Nat.le_refl _) _
  have knew := blk_new w 22 [.slice A n c]
  have SO : Hid (Calls Tryd.prog 39 #[.slice D m d, .func (.func 40) #[] #[.pointer (some ⟨w.heap.size, 0, none⟩)]] (w.alloc (.cells #[.slice A n c] 22)) fun e w' => e = .returned (.bool R) ∧ Below w.heap.size w w') := by
    refine (sorted_any A D n c m d B w.heap.size s t R hR _ (hr.below (B1.mono hB) (Nat.le_refl _)) (hq.below (B1.mono hB) (Nat.le_refl _)) (by simp; omega) hn hm (by simp) (knew.cell 0)).mono ?_
    rintro e w' ⟨rfl, b⟩
    exact ⟨rfl, B1.trans (b.mono B1.size)⟩
  clear hr hq hR B1 knew
  go_enter Tryd.func28, Tryd.ntmps28
  go_wp2_with (go_at_call 39; ((with_reducible refine SO.out.mono ?_); rintro e v ⟨rfl, h3⟩; have H3 := Lib.hid h3; clear h3))
  go_ret
  exact ⟨rfl, H3.out⟩
/-- whether a reply fits, and what is at fault -/
def fitB (code : Int) (s t : List Opt) (R : Bool) : Bool := if code = 2 then decide (s = t) else if code = 3 then decide (0 < t.length) && R else if code = 4 then decide (0 < t.length) && decide (s.foldl eat t = []) else false
def fitE (code : Int) : Int := if code = 2 ∨ code = 3 ∨ code = 4 then 0 else 90
theorem ofits_any (code : Int) (A D : Option Addr) (n c m d B : Nat) (s t : List Opt) (R : Bool) (hR : R = true ↔ Srt s t) (w : World) (hr : OptRd w B A n s) (hq : OptRd w B D m t) (hB : B ≤ w.heap.size) (hn : n ≤ 4398046511104) (hm : m ≤ 4398046511104) (hmd : m ≤ d) :
    Calls Tryd.prog 14 #[.int .i64 code, .slice A n c, .slice D m d] w fun e w' => e = .returned (.tuple #[.bool (fitB code s t R), .int .i64 (fitE code)]) ∧ Below w.heap.size w w' := by
  have hl := hq.1
  by_cases h2 : code = 2
  · subst h2
    have SM := Lib.hid (osame_any A D n m c d B s t w hr hq hB hn hm)
    have E : Hid (fitB 2 s t R = decide (s = t)) := by show _ = _; rfl
    clear hr hq
    generalize decide (s = t) = b at *
    generalize fitB 2 s t R = fb at *
    go_enter Tryd.func14, Tryd.ntmps14
    go_wp2_with (go_at_call 16; ((with_reducible refine SM.out.mono ?_); rintro e v ⟨rfl, h3⟩; have H3 := Lib.hid h3; clear h3))
    go_ret2
    exact ⟨by rw [E.out]; rfl, H3.out⟩
  by_cases h3 : code = 3
  · subst h3
    have FO := Lib.hid (follows_any A D n c m d B s t R hR w hr hq hB hn hm)
    rcases Nat.eq_zero_or_pos m with h0 | h0
    · have E : Hid (fitB 3 s t R = false) := by show _ = _; unfold fitB; simp [hl, h0]
      have hd : decide ((0 : Int) < (m : Int)) = false := decide_eq_false (by omega)
      clear hr hq
      generalize fitB 3 s t R = fb at *
      subst h0
      go_enter Tryd.func14, Tryd.ntmps14
      go_wp2
      go_ret2
      exact ⟨by rw [E.out]; rfl, Below.refl _ _⟩
    · have E : Hid (fitB 3 s t R = R) := by show _ = _; unfold fitB; simp [hl, h0]
      have hd : (0 : Int) < (m : Int) := by omega
      clear hr hq
      generalize fitB 3 s t R = fb at *
      go_enter Tryd.func14, Tryd.ntmps14
      go_wp2_with (go_at_call 28; ((with_reducible refine FO.out.mono ?_); rintro e v ⟨rfl, h3⟩; have H3 := Lib.hid h3; clear h3))
      go_ret2
      exact ⟨by rw [E.out]; rfl, H3.out⟩
  by_cases h4 : code = 4
  · subst h4
    have SB := Lib.hid (subset_any D m d B t A n c s w hq hB hmd hm hr hn)
    rcases Nat.eq_zero_or_pos m with h0 | h0
    · have E : Hid (fitB 4 s t R = false) := by show _ = _; unfold fitB; simp [hl, h0]
      clear hr hq
      generalize fitB 4 s t R = fb at *
      subst h0
      go_enter Tryd.func14, Tryd.ntmps14
      go_wp2
      go_ret2
      exact ⟨by rw [E.out]; rfl, Below.refl _ _⟩
    · have E : Hid (fitB 4 s t R = decide (s.foldl eat t = [])) := by show _ = _; unfold fitB; simp [hl, h0]
      have hd : (0 : Int) < (m : Int) := by omega
      clear hr hq
      generalize fitB 4 s t R = fb at *
      generalize decide (s.foldl eat t = []) = b at *
      go_enter Tryd.func14, Tryd.ntmps14
      go_wp2_with (go_at_call 17; ((with_reducible refine SB.out.mono ?_); rintro e v ⟨rfl, h3⟩; have H3 := Lib.hid h3; clear h3))
      go_ret2
      exact ⟨by rw [E.out]; rfl, H3.out⟩
  · have E : Hid (fitB code s t R = false ∧ fitE code = 90) := by show _ ∧ _; unfold fitB fitE; simp [h2, h3, h4]
    have e2 : (code == 2) = false := by simpa using h2
    have e3 : (code == 3) = false := by simpa using h3
    have e4 : (code == 4) = false := by simpa using h4
    clear hr hq h2 h3 h4
    generalize fitB code s t R = fb at *
    generalize fitE code = fe at *
    go_enter Tryd.func14, Tryd.ntmps14
    go_wp2
    go_ret2
    exact ⟨by rw [E.out.1, E.out.2]; rfl, Below.refl _ _⟩
end Go.Proofs.YtonbdcajepmgbaaDoor
