/-
  The reference's Frame and Same.
-/
import Derived.Test.YtlpboleclehilaaDoorCcFrame
namespace Go.Proofs.YtlpboleclehilaaDoor
open Go.RowKit
set_option maxRecDepth 100000
set_option maxHeartbeats 4000000
set_option linter.unusedSimpArgs false
set_option linter.unusedVariables false

def FrT (w : World) (l : List UInt8) (e : Ending) (w' : World) : Prop := ∃ A n c, e = .returned (.tuple #[.agg #[.int .i64 (frQ l), .slice A n c], .int .i64 (frE l)]) ∧ Rd w' w'.heap.size A n (frL l) ∧ (A = none → c = 0) ∧ n ≤ c ∧ Below w.heap.size w w'
/-- behind the number: is it one, and is there not too much behind it? -/
theorem rframe_short (A : Option Addr) (n c B : Nat) (l : List UInt8) (w : World) (hr : Rd w B A n l) (hB : B ≤ w.heap.size) (hnc : n ≤ c) (h : l.length < hdN l) :
    Calls Tryd.prog 24 #[.slice A n c] w fun e w' => FrT w l e w' := by
  obtain ⟨W1, hW1⟩ : ∃ W1, w.alloc (.cells #[.int .i64 0, .slice none 0 0] 53) = W1 := ⟨_, rfl⟩
  have k1 : Blk W1 w.heap.size 53 [.int .i64 0, .slice none 0 0] := by rw [← hW1]; exact blk_new w _ _
  have B1 : Below w.heap.size w W1 := by rw [← hW1]; exact (Below.refl _ _).alloc (Nat.le_refl _) _
  have HW := Lib.hid hW1
  have hl := hr.1
  have HE : Hid (frE l = 8 ∧ frQ l = 0 ∧ frL l = []) := by
    have : frE l = 8 := if_pos h
    exact ⟨this, by unfold frQ; rw [this]; rfl, by unfold frL; rw [this]; rfl⟩
  have hbb := Blk.set_ (Blk.set_ k1 0 (.int .i64 0)) 1 (.slice none 0 0)
  have c0 := k1.cell 0
  have c1 := k1.cell 1
  have f0 := k1.frozen 0
  have f1 := k1.frozen 1
  have p0 := hbb.cell 0
  have p1 := hbb.cell 1
  have HB : Hid (Below w.heap.size w ((W1.setCell ⟨w.heap.size, 0, none⟩ (.int .i64 0)).setCell ⟨w.heap.size, 1, none⟩ (.slice none 0 0))) := (B1.setCell (Nat.le_refl _) _).setCell (Nat.le_refl _) _
  rcases l with _ | ⟨a, t⟩
  · simp at hl
    subst hl
    clear hW1 k1 B1 hr h hbb
    go_enter Tryd.func24, Tryd.ntmps24
    go_wp2_with (rw [HW.out])
    exact bodyPost_ret (v := .tuple #[.agg #[.int .i64 0, .slice none 0 0], .int .i64 8]) (by simp [results, Tryd.results24, go_sem, p0, p1]) rfl ⟨none, 0, 0, by rw [HE.out.1, HE.out.2.1], by rw [HE.out.2.2]; exact Rd.nil, fun _ => rfl, Nat.le_refl _, HB.out⟩
  · have ha : ¬ a.toNat % 2 = 1 := fun e => by
      have : hdN (a :: t) = 1 := if_pos e
      rw [this] at h
      simp at h
    have h2 : hdN (a :: t) = 2 := if_neg ha
    rw [h2] at h
    have ht : t = [] := List.eq_nil_of_length_eq_zero (by simp at h; omega)
    subst ht
    simp at hl
    subst hl
    obtain ⟨b, off, rfl, hb, hc⟩ := hr.2 (by omega)
    have x0 : W1.cell? ⟨b, off, none⟩ = some (.int .u8 (a.toNat : Int)) := (B1.cell (show b < w.heap.size by omega)).trans (hc 0 (by omega))
    have e1 : (a.toNat : Int).tmod 2 = 0 := by
      rw [Int.tmod_eq_emod_of_nonneg (by omega)]
      omega
    clear hW1 k1 B1 hr h hbb hc
    go_enter Tryd.func24, Tryd.ntmps24
    go_wp2_with (rw [HW.out])
    exact bodyPost_ret (v := .tuple #[.agg #[.int .i64 0, .slice none 0 0], .int .i64 8]) (by simp [results, Tryd.results24, go_sem, p0, p1]) rfl ⟨none, 0, 0, by rw [HE.out.1, HE.out.2.1], by rw [HE.out.2.2]; exact Rd.nil, fun _ => rfl, Nat.le_refl _, HB.out⟩
theorem rframe_any (A : Option Addr) (n c B : Nat) (l : List UInt8) (w : World) (hr : Rd w B A n l) (hB : B ≤ w.heap.size) (hnc : n ≤ c) (hA : A = none → c = 0) (hm : n ≤ 140737488355328) :
    Calls Tryd.prog 24 #[.slice A n c] w fun e w' => FrT w l e w' := by
  by_cases h : l.length < hdN l
  · exact rframe_short A n c B l w hr hB hnc h
  · have h := Nat.le_of_not_lt h
    have hl := hr.1
    obtain ⟨W1, hW1⟩ : ∃ W1, w.alloc (.cells #[.int .i64 0, .slice none 0 0] 53) = W1 := ⟨_, rfl⟩
    have k1 : Blk W1 w.heap.size 53 [.int .i64 0, .slice none 0 0] := by rw [← hW1]; exact blk_new w _ _
    have B1 : Below w.heap.size w W1 := by rw [← hW1]; exact (Below.refl _ _).alloc (Nat.le_refl _) _
    have HW := Lib.hid hW1
    have hr1 := hr.below (B1.mono hB)
    have hp := frP_num h
    obtain ⟨P, hP⟩ : ∃ P, frP l = P := ⟨_, rfl⟩
    have PR := Lib.hid (rproto_any P W1)
    have hbb := Blk.set_ (Blk.set_ k1 0 (.int .i64 0)) 1 (.slice none 0 0)
    have c0 := k1.cell 0
    have c1 := k1.cell 1
    have f0 := k1.frozen 0
    have f1 := k1.frozen 1
    have HB : Hid (Below w.heap.size w ((W1.setCell ⟨w.heap.size, 0, none⟩ (.int .i64 0)).setCell ⟨w.heap.size, 1, none⟩ (.slice none 0 0))) := (B1.setCell (Nat.le_refl _) _).setCell (Nat.le_refl _) _
    have s1 := B1.size
    rcases l with _ | ⟨a, t⟩
    · simp [hdN] at h
    obtain ⟨b, off, hAe, hbB, hcell⟩ := hr1.2 (by simp at hl; omega)
    have hln : (a :: t).length = n := hl
    have x0 : W1.cell? ⟨b, off, none⟩ = some (.int .u8 (a.toNat : Int)) := hcell 0 (by simp at hl; omega)
    have hn1 : 1 ≤ n := by simp at hl; omega
    have hn0 : ((n : Int) == 0) = false := by simp; omega
    obtain ⟨av, hav⟩ : ∃ av, a.toNat = av := ⟨_, rfl⟩
    have hav2 : av < 256 := by rw [← hav]; exact a.toNat_lt
    obtain ⟨A1, q1, hs1, hrd1, hA1, hnc1⟩ := slice_from A n c B 1 (a :: t) W1 hr1 hnc hA hn1
    by_cases ha : a.toNat % 2 = 1
    · have h1 : hdN (a :: t) = 1 := if_pos ha
      have hP1 : P = (av : Int) := by
        rw [← hP, ← hav]
        exact if_pos ha
      subst hP1
      have HE : Hid (frE (a :: t) = if prB (av : Int) = false then 30 else if 16384 < n - 1 then 4 else 0) := by
        show _ = _
        unfold frE
        rw [h1, hP, if_neg (by simp), hln]
      rw [hav] at x0 ha
      have e1 : (av : Int).tmod 2 = 1 := by
        rw [Int.tmod_eq_emod_of_nonneg (by omega)]
        omega
      have ew : ∀ W, (Instr.slice 51 (.slice A n c) (some (.int .i64 1)) none none).run Tryd.prog W = .ok (.slice A1 (n - 1) q1) W := hs1
      have HR := Lib.hid (And.intro hrd1 (And.intro hA1 hnc1))
      have HP := Lib.hid hP
      have H1 := Lib.hid h1
      subst hAe
      clear hW1 hr hr1 hp hcell hs1 hrd1 hA1 hnc1 hl hln ha h h1 hav hP
      by_cases hpr : prB (av : Int) = true
      · rw [hpr] at PR HE
        by_cases hbig : 16384 < n - 1
        · have HE2 : Hid (frE (a :: t) = 4 ∧ frQ (a :: t) = 0 ∧ frL (a :: t) = []) := by
            have : frE (a :: t) = 4 := by rw [HE.out, if_neg (by simp), if_pos hbig]
            exact ⟨this, by unfold frQ; rw [this]; rfl, by unfold frL; rw [this]; rfl⟩
          have hbig2 : (16384 : Int) < ((n - 1 : Nat) : Int) := by omega
          have p0 := hbb.cell 0
          have p1 := hbb.cell 1
          clear hbig hbb k1 B1
          go_enter Tryd.func24, Tryd.ntmps24
          go_wp2_with (first
            | (rw [HW.out])
            | (go_at_call 43; ((with_reducible refine PR.out.mono ?_); rintro e w' ⟨rfl, rfl⟩)))
          all_goals exact bodyPost_ret (v := .tuple #[.agg #[.int .i64 0, .slice none 0 0], .int .i64 4]) (by simp [results, Tryd.results24, go_sem, p0, p1]) rfl ⟨none, 0, 0, by rw [HE2.out.1, HE2.out.2.1], by rw [HE2.out.2.2]; exact Rd.nil, fun _ => rfl, Nat.le_refl _, HB.out⟩
        · have HE2 : Hid (frE (a :: t) = 0 ∧ frQ (a :: t) = (av : Int) ∧ frL (a :: t) = (a :: t).drop 1) := by
            have : frE (a :: t) = 0 := by rw [HE.out, if_neg (by simp), if_neg hbig]
            exact ⟨this, by unfold frQ; rw [this, HP.out]; rfl, by unfold frL; rw [this, H1.out]; rfl⟩
          have hbig2 : ¬ (16384 : Int) < ((n - 1 : Nat) : Int) := by omega
          have hb2 := Blk.set_ (Blk.set_ k1 0 (.int .i64 (av : Int))) 1 (.slice A1 (n - 1) q1)
          have p0 := hb2.cell 0
          have p1 := hb2.cell 1
          have g2 : W1.grownBy ((W1.setCell ⟨w.heap.size, 0, none⟩ (.int .i64 (av : Int))).setCell ⟨w.heap.size, 1, none⟩ (.slice A1 (n - 1) q1)) (some w.heap.size) := only_then (only_set (p := ⟨w.heap.size, 0, none⟩) _) (only_set (p := ⟨w.heap.size, 1, none⟩) _) (fun g e => .inl e)
          have HN : Hid (Rd ((W1.setCell ⟨w.heap.size, 0, none⟩ (.int .i64 (av : Int))).setCell ⟨w.heap.size, 1, none⟩ (.slice A1 (n - 1) q1)) ((W1.setCell ⟨w.heap.size, 0, none⟩ (.int .i64 (av : Int))).setCell ⟨w.heap.size, 1, none⟩ (.slice A1 (n - 1) q1)).heap.size A1 (n - 1) ((a :: t).drop 1) ∧ Below w.heap.size w ((W1.setCell ⟨w.heap.size, 0, none⟩ (.int .i64 (av : Int))).setCell ⟨w.heap.size, 1, none⟩ (.slice A1 (n - 1) q1))) :=
            ⟨(HR.out.1.grown g2 (by omega) (fun g e => by injection e; omega)).wide (by have := g2.size; omega), (B1.setCell (Nat.le_refl _) _).setCell (Nat.le_refl _) _⟩
          obtain ⟨m1, hm1⟩ : ∃ m1, n - 1 = m1 := ⟨_, rfl⟩
          rw [hm1] at ew HR hb2 HN p0 p1 hbig2
          clear hbig hbb k1 B1 hb2 g2 HB
          go_enter Tryd.func24, Tryd.ntmps24
          go_wp2_with (first
            | (rw [HW.out])
            | (go_at_call 43; ((with_reducible refine PR.out.mono ?_); rintro e w' ⟨rfl, rfl⟩)))
          all_goals exact bodyPost_ret (v := .tuple #[.agg #[.int .i64 (av : Int), .slice A1 m1 q1], .int .i64 0]) (by simp [results, Tryd.results24, go_sem, p0, p1]) rfl ⟨A1, m1, q1, by rw [HE2.out.1, HE2.out.2.1], by rw [HE2.out.2.2]; exact HN.out.1, HR.out.2.1, HR.out.2.2, HN.out.2⟩
      · have hpr : prB (av : Int) = false := by simpa using hpr
        rw [hpr] at PR HE
        have HE2 : Hid (frE (a :: t) = 30 ∧ frQ (a :: t) = 0 ∧ frL (a :: t) = []) := by
          have : frE (a :: t) = 30 := HE.out
          exact ⟨this, by unfold frQ; rw [this]; rfl, by unfold frL; rw [this]; rfl⟩
        have p0 := hbb.cell 0
        have p1 := hbb.cell 1
        clear hbb k1 B1
        go_enter Tryd.func24, Tryd.ntmps24
        go_wp2_with (first
          | (rw [HW.out])
          | (go_at_call 43; ((with_reducible refine PR.out.mono ?_); rintro e w' ⟨rfl, rfl⟩)))
        all_goals exact bodyPost_ret (v := .tuple #[.agg #[.int .i64 0, .slice none 0 0], .int .i64 30]) (by simp [results, Tryd.results24, go_sem, p0, p1]) rfl ⟨none, 0, 0, by rw [HE2.out.1, HE2.out.2.1], by rw [HE2.out.2.2]; exact Rd.nil, fun _ => rfl, Nat.le_refl _, HB.out⟩
    · have h1 : hdN (a :: t) = 2 := if_neg ha
      rw [h1] at h
      rcases t with _ | ⟨d, t⟩
      · simp at h
      have hn2 : 2 ≤ n := by simp at hl; omega
      have x1 : W1.cell? ⟨b, off + 1, none⟩ = some (.int .u8 (d.toNat : Int)) := hcell 1 (by omega)
      obtain ⟨dv, hdv⟩ : ∃ dv, d.toNat = dv := ⟨_, rfl⟩
      have hdv2 : dv < 256 := by rw [← hdv]; exact d.toNat_lt
      have hP1 : P = (av : Int) * 256 + (dv : Int) := by
        rw [← hP, ← hav, ← hdv]
        exact if_neg ha
      obtain ⟨A2, q2, hs2, hrd2, hA2, hnc2⟩ := slice_from A n c B 2 (a :: d :: t) W1 hr1 hnc hA hn2
      have HE : Hid (frE (a :: d :: t) = if prB P = false then 30 else if 16384 < n - 2 then 4 else 0) := by
        show _ = _
        unfold frE
        rw [h1, hP, if_neg (by omega), hln]
      rw [hav] at x0 ha
      rw [hdv] at x1
      have e1 : (av : Int).tmod 2 = 0 := by
        rw [Int.tmod_eq_emod_of_nonneg (by omega)]
        omega
      have en : ((n : Int) == 1) = false := by simp; omega
      have ew1 : ∀ W, (Instr.slice 51 (.slice A n c) (some (.int .i64 1)) none none).run Tryd.prog W = .ok (.slice A1 (n - 1) q1) W := hs1
      have ew : ∀ W, (Instr.slice 51 (.slice A n c) (some (.int .i64 2)) none none).run Tryd.prog W = .ok (.slice A2 (n - 2) q2) W := hs2
      have HR := Lib.hid (And.intro hrd2 (And.intro hA2 hnc2))
      have HP := Lib.hid hP
      have H1 := Lib.hid h1
      subst hAe hP1
      clear hW1 hr hr1 hp hcell hs1 hrd1 hA1 hnc1 hs2 hrd2 hA2 hnc2 hl hln ha h h1 hav hdv hP
      by_cases hpr : prB ((av : Int) * 256 + (dv : Int)) = true
      · rw [hpr] at PR HE
        by_cases hbig : 16384 < n - 2
        · have HE2 : Hid (frE (a :: d :: t) = 4 ∧ frQ (a :: d :: t) = 0 ∧ frL (a :: d :: t) = []) := by
            have : frE (a :: d :: t) = 4 := by rw [HE.out, if_neg (by simp), if_pos hbig]
            exact ⟨this, by unfold frQ; rw [this]; rfl, by unfold frL; rw [this]; rfl⟩
          have hbig2 : (16384 : Int) < ((n - 2 : Nat) : Int) := by omega
          have p0 := hbb.cell 0
          have p1 := hbb.cell 1
          clear hbig hbb k1 B1
          go_enter Tryd.func24, Tryd.ntmps24
          go_wp2_with (first
            | (rw [HW.out])
            | (go_at_call 43; ((with_reducible refine PR.out.mono ?_); rintro e w' ⟨rfl, rfl⟩)))
          all_goals exact bodyPost_ret (v := .tuple #[.agg #[.int .i64 0, .slice none 0 0], .int .i64 4]) (by simp [results, Tryd.results24, go_sem, p0, p1]) rfl ⟨none, 0, 0, by rw [HE2.out.1, HE2.out.2.1], by rw [HE2.out.2.2]; exact Rd.nil, fun _ => rfl, Nat.le_refl _, HB.out⟩
        · have HE2 : Hid (frE (a :: d :: t) = 0 ∧ frQ (a :: d :: t) = (av : Int) * 256 + (dv : Int) ∧ frL (a :: d :: t) = (a :: d :: t).drop 2) := by
            have : frE (a :: d :: t) = 0 := by rw [HE.out, if_neg (by simp), if_neg hbig]
            exact ⟨this, by unfold frQ; rw [this, HP.out]; rfl, by unfold frL; rw [this, H1.out]; rfl⟩
          have hbig2 : ¬ (16384 : Int) < ((n - 2 : Nat) : Int) := by omega
          have hb2 := Blk.set_ (Blk.set_ k1 0 (.int .i64 ((av : Int) * 256 + (dv : Int)))) 1 (.slice A2 (n - 2) q2)
          have p0 := hb2.cell 0
          have p1 := hb2.cell 1
          have g2 : W1.grownBy ((W1.setCell ⟨w.heap.size, 0, none⟩ (.int .i64 ((av : Int) * 256 + (dv : Int)))).setCell ⟨w.heap.size, 1, none⟩ (.slice A2 (n - 2) q2)) (some w.heap.size) := only_then (only_set (p := ⟨w.heap.size, 0, none⟩) _) (only_set (p := ⟨w.heap.size, 1, none⟩) _) (fun g e => .inl e)
          have HN : Hid (Rd ((W1.setCell ⟨w.heap.size, 0, none⟩ (.int .i64 ((av : Int) * 256 + (dv : Int)))).setCell ⟨w.heap.size, 1, none⟩ (.slice A2 (n - 2) q2)) ((W1.setCell ⟨w.heap.size, 0, none⟩ (.int .i64 ((av : Int) * 256 + (dv : Int)))).setCell ⟨w.heap.size, 1, none⟩ (.slice A2 (n - 2) q2)).heap.size A2 (n - 2) ((a :: d :: t).drop 2) ∧ Below w.heap.size w ((W1.setCell ⟨w.heap.size, 0, none⟩ (.int .i64 ((av : Int) * 256 + (dv : Int)))).setCell ⟨w.heap.size, 1, none⟩ (.slice A2 (n - 2) q2))) :=
            ⟨(HR.out.1.grown g2 (by omega) (fun g e => by injection e; omega)).wide (by have := g2.size; omega), (B1.setCell (Nat.le_refl _) _).setCell (Nat.le_refl _) _⟩
          obtain ⟨m1, hm1⟩ : ∃ m1, n - 2 = m1 := ⟨_, rfl⟩
          rw [hm1] at ew HR hb2 HN p0 p1 hbig2
          clear hbig hbb k1 B1 hb2 g2 HB
          go_enter Tryd.func24, Tryd.ntmps24
          go_wp2_with (first
            | (rw [HW.out])
            | (go_at_call 43; ((with_reducible refine PR.out.mono ?_); rintro e w' ⟨rfl, rfl⟩)))
          all_goals exact bodyPost_ret (v := .tuple #[.agg #[.int .i64 ((av : Int) * 256 + (dv : Int)), .slice A2 m1 q2], .int .i64 0]) (by simp [results, Tryd.results24, go_sem, p0, p1]) rfl ⟨A2, m1, q2, by rw [HE2.out.1, HE2.out.2.1], by rw [HE2.out.2.2]; exact HN.out.1, HR.out.2.1, HR.out.2.2, HN.out.2⟩
      · have hpr : prB ((av : Int) * 256 + (dv : Int)) = false := by simpa using hpr
        rw [hpr] at PR HE
        have HE2 : Hid (frE (a :: d :: t) = 30 ∧ frQ (a :: d :: t) = 0 ∧ frL (a :: d :: t) = []) := by
          have : frE (a :: d :: t) = 30 := HE.out
          exact ⟨this, by unfold frQ; rw [this]; rfl, by unfold frL; rw [this]; rfl⟩
        have p0 := hbb.cell 0
        have p1 := hbb.cell 1
        clear hbb k1 B1
        go_enter Tryd.func24, Tryd.ntmps24
        go_wp2_with (first
          | (rw [HW.out])
          | (go_at_call 43; ((with_reducible refine PR.out.mono ?_); rintro e w' ⟨rfl, rfl⟩)))
        all_goals exact bodyPost_ret (v := .tuple #[.agg #[.int .i64 0, .slice none 0 0], .int .i64 30]) (by simp [results, Tryd.results24, go_sem, p0, p1]) rfl ⟨none, 0, 0, by rw [HE2.out.1, HE2.out.2.1], by rw [HE2.out.2.2]; exact Rd.nil, fun _ => rfl, Nat.le_refl _, HB.out⟩
end Go.Proofs.YtlpboleclehilaaDoor
