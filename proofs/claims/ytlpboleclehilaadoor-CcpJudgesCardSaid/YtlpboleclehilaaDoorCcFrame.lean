/-
  ccp.own, Frame; the reference's Frame and Same.
-/
import Derived.Test.YtlpboleclehilaaDoorCcRBytes
import Derived.Test.YtlpboleclehilaaDoorCcStr
import Derived.Test.YtlpboleclehilaaDoorOpClone
import Derived.Test.YtlpboleclehilaaDoorSliceFrom
namespace Go.Proofs.YtlpboleclehilaaDoor
open Go.RowKit
set_option maxRecDepth 100000
set_option maxHeartbeats 4000000
set_option linter.unusedSimpArgs false
set_option linter.unusedVariables false

/-- a frame with memory of its own -/
theorem cown_any (K : Int) (D : Option Addr) (m c B : Nat) (l : List UInt8) (w : World) (hr : Rd w B D m l) (hB : B ≤ w.heap.size) (hnil : D = none → c = 0) (hn : m ≤ 140737488355328) :
    Calls Tryd.prog 45 #[.agg #[.int .i64 K, .slice D m c]] w fun e w' => ∃ A cc, e = .returned (.agg #[.int .i64 K, .slice A m cc]) ∧ Own w' w.heap.size (.slice A m cc) l ∧ Below w.heap.size w w' := by
  have hzv : ∀ W, (zeroValue 53).run Tryd.prog W = .ok (.agg #[.int .i64 0, .slice none 0 0]) W := fun W => by kernel_rfl
  have hl := hr.1
  obtain ⟨W2, hW2⟩ : ∃ W2, W2 = (w.alloc (.cells #[.int .i64 K, .slice D m c] 53)).alloc (.cells #[.int .i64 0, .slice none 0 0] 53) := ⟨_, rfl⟩
  have hB2 : Below w.heap.size w W2 := by rw [hW2]; exact ((Below.refl _ _).alloc (Nat.le_refl _) _).alloc (by simp) _
  have hs2 : W2.heap.size = w.heap.size + 2 := by rw [hW2]; simp
  have k2 : Blk W2 (w.heap.size + 1) 53 [.int .i64 0, .slice none 0 0] := by
    have h := blk_new (w.alloc (.cells #[.int .i64 K, .slice D m c] 53)) 53 [.int .i64 0, .slice none 0 0]
    rw [hW2]
    simpa using h
  have k1 : Blk W2 w.heap.size 53 [.int .i64 K, .slice D m c] := by
    rw [hW2]
    exact (((Below.refl (w.heap.size + 1) _).alloc (by simp) _).block w.heap.size (by omega)).trans (blk_new w 53 [.int .i64 K, .slice D m c])
  have N : Hid (Calls Tryd.prog 55 #[.slice D m c] W2.drew fun e w3 => ∃ A cc, e = .returned (.slice A m cc) ∧ Blk w3 w.heap.size 53 [.int .i64 K, .slice D m c] ∧ Blk w3 (w.heap.size + 1) 53 [.int .i64 0, .slice none 0 0] ∧
      Own ((w3.setCell ⟨w.heap.size + 1, 0, none⟩ (.int .i64 K)).setCell ⟨w.heap.size + 1, 1, none⟩ (.slice A m cc)) w.heap.size (.slice A m cc) l ∧ Below w.heap.size w ((w3.setCell ⟨w.heap.size + 1, 0, none⟩ (.int .i64 K)).setCell ⟨w.heap.size + 1, 1, none⟩ (.slice A m cc))) := by
    refine (bclone_any D m c B l W2.drew (hr.below (hB2.mono hB)).drew (by show B ≤ W2.heap.size; omega) hnil hn).mono ?_
    rintro e w3 ⟨v, rfl, ho, hB3⟩
    have hB3 : Below W2.heap.size W2 w3 := ⟨hB3.os, hB3.tape, hB3.output, hB3.size, fun i hi => hB3.block i hi⟩
    have s3 := hB3.size
    have ho : Own w3 W2.heap.size v l := ho
    obtain ⟨A, cc, rfl, _, hb⟩ := own_rdv1 ho
    rw [hl] at ho hb ⊢
    have st : w3.grownBy ((w3.setCell ⟨w.heap.size + 1, 0, none⟩ (.int .i64 K)).setCell ⟨w.heap.size + 1, 1, none⟩ (.slice A m cc)) (some (w.heap.size + 1)) :=
      only_then (only_set (p := ⟨w.heap.size + 1, 0, none⟩) _) (only_set (p := ⟨w.heap.size + 1, 1, none⟩) _) (fun g e => .inl e)
    have hne : (Value.slice A m cc).ownBlock = none ∨ (Value.slice A m cc).ownBlock ≠ some (w.heap.size + 1) := by
      rcases e : (Value.slice A m cc).ownBlock with _ | q
      · exact .inl rfl
      · have := hb q e
        exact .inr (fun e => by injection e; omega)
    have ho' : Own w3 w.heap.size (.slice A m cc) l := by
      refine ⟨ho.1, ?_⟩
      rcases ho.2 with h | ⟨g', cap, cur, h1, h2, h3⟩
      · exact .inl h
      · exact .inr ⟨g', cap, cur, h1, by omega, h3⟩
    exact ⟨A, cc, rfl, (hB3.block _ (by omega)).trans k1, (hB3.block _ (by omega)).trans k2, ho'.grown st hne, (hB2.trans (hB3.mono (by omega))).grown st (by omega) (fun q e => by injection e; omega)⟩
  have HW : Hid ((w.alloc (.cells #[.int .i64 K, .slice D m c] 53)).alloc (.cells #[.int .i64 0, .slice none 0 0] 53) = W2) := hW2.symm
  have y0 : W2.drew.cell? ⟨w.heap.size, 0, none⟩ = some (.int .i64 K) := k1.cell 0
  have y1 : W2.drew.cell? ⟨w.heap.size, 1, none⟩ = some (.slice D m c) := k1.cell 1
  clear hW2 hB2 hs2 k1 k2 hr hB hnil hn hl
  go_enter Tryd.func45, Tryd.ntmps45
  go_upto_region 1 with (fail)
  rw [HW.out]
  clear HW
  go_region_law (go_simp; go_at_call 55; (with_reducible refine N.out.mono ?_); rintro e w3 ⟨A, cc, rfl, b1, b2, ho, hb⟩; have x0 : w3.cell? ⟨w.heap.size, 0, none⟩ = some (.int .i64 K) := b1.cell 0; have x1 : w3.cell? ⟨w.heap.size, 1, none⟩ = some (.slice D m c) := b1.cell 1; have z0 : w3.cell? ⟨w.heap.size + 1, 0, none⟩ = some (.int .i64 0) := b2.cell 0; have z1 : w3.cell? ⟨w.heap.size + 1, 1, none⟩ = some (.slice none 0 0) := b2.cell 1; have f0 := b2.frozen 0; have f1 := b2.frozen 1; have HO := Lib.hid ho; have HB := Lib.hid hb; clear ho hb b1 b2)
  all_goals go_wp2
  all_goals exact bodyPost_ret (v := .agg #[.int .i64 K, .slice A m cc]) (by simp [results, Tryd.results45, go_sem, x0, x1, z0, z1, f0, f1]) rfl ⟨A, cc, rfl, HO.out, HB.out⟩
def FrR (w : World) (l : List UInt8) (e : Ending) (w' : World) : Prop := ∃ A n c, e = .returned (.tuple #[.agg #[.int .i64 (frQ l), .slice A n c], .int .i64 (frE l)]) ∧ Own w' w.heap.size (.slice A n c) (frL l) ∧ Below w.heap.size w w'
theorem num_one_c (l : List UInt8) : num l 1 = byteAt l 0 := by
  show num l 0 * 256 + byteAt l 0 = _
  show (0 : Int) * 256 + byteAt l 0 = _
  omega
theorem num_two_c (l : List UInt8) : num l 2 = 256 * byteAt l 0 + byteAt l 1 := by
  show (num l 1) * 256 + byteAt l 1 = _
  rw [num_one_c]
  omega
theorem hdN_two (l : List UInt8) : hdN l = 1 ∨ hdN l = 2 := by
  unfold hdN
  split
  · exact .inl rfl
  · split
    · exact .inl rfl
    · exact .inr rfl
theorem frP_num {l : List UInt8} (h : hdN l ≤ l.length) : frP l = num l (hdN l) := by
  rcases l with _ | ⟨a, t⟩
  · simp [hdN] at h
  · by_cases h1 : a.toNat % 2 = 1
    · have e1 : hdN (a :: t) = 1 := if_pos h1
      rw [e1, num_one_c]
      show (if a.toNat % 2 = 1 then (a.toNat : Int) else _) = _
      rw [if_pos h1]
      rfl
    · have e1 : hdN (a :: t) = 2 := if_neg h1
      rw [e1] at h ⊢
      rcases t with _ | ⟨b, t⟩
      · simp at h
      · rw [num_two_c]
        show (if a.toNat % 2 = 1 then (a.toNat : Int) else (a.toNat : Int) * 256 + b.toNat) = _
        rw [if_neg h1]
        show _ = 256 * (a.toNat : Int) + (b.toNat : Int)
        omega
theorem frame_short (A : Option Addr) (n c B : Nat) (l : List UInt8) (w : World) (hr : Rd w B A n l) (hB : B ≤ w.heap.size) (hnc : n ≤ c) (hA : A = none → c = 0) (h : l.length < hdN l) :
    Calls Tryd.prog 23 #[.slice A n c] w fun e w' => FrR w l e w' := by
  obtain ⟨W1, hW1⟩ : ∃ W1, w.alloc (.cells #[.int .i64 0, .slice none 0 0] 53) = W1 := ⟨_, rfl⟩
  have k1 : Blk W1 w.heap.size 53 [.int .i64 0, .slice none 0 0] := by rw [← hW1]; exact blk_new w _ _
  have B1 : Below w.heap.size w W1 := by rw [← hW1]; exact (Below.refl _ _).alloc (Nat.le_refl _) _
  have HW := Lib.hid hW1
  have HS := Lib.hid (headSize_any A n c B l W1 (hr.below (B1.mono hB)) hnc)
  have hl := hr.1
  have HE : Hid (frE l = 8 ∧ frQ l = 0 ∧ frL l = []) := by
    have : frE l = 8 := if_pos h
    exact ⟨this, by unfold frQ; rw [this]; rfl, by unfold frL; rw [this]; rfl⟩
  have hlt : (n : Int) < ((hdN l : Nat) : Int) := by omega
  obtain ⟨q, hq⟩ : ∃ q, hdN l = q := ⟨_, rfl⟩
  rw [hq] at HS hlt
  have hbb := Blk.set_ (Blk.set_ k1 0 (.int .i64 0)) 1 (.slice none 0 0)
  have c0 := k1.cell 0
  have c1 := k1.cell 1
  have f0 := k1.frozen 0
  have f1 := k1.frozen 1
  have p0 := hbb.cell 0
  have p1 := hbb.cell 1
  have HB : Hid (Below w.heap.size w ((W1.setCell ⟨w.heap.size, 0, none⟩ (.int .i64 0)).setCell ⟨w.heap.size, 1, none⟩ (.slice none 0 0))) := (B1.setCell (Nat.le_refl _) _).setCell (Nat.le_refl _) _
  clear hW1 k1 B1 hr hq h hl hbb
  go_enter Tryd.func23, Tryd.ntmps23
  go_wp2_with (first
    | (rw [HW.out])
    | (go_at_call 44; ((with_reducible refine HS.out.mono ?_); rintro e w' ⟨rfl, rfl⟩)))
  exact bodyPost_ret (v := .tuple #[.agg #[.int .i64 0, .slice none 0 0], .int .i64 8]) (by simp [results, Tryd.results23, go_sem, p0, p1]) rfl ⟨none, 0, 0, by rw [HE.out.1, HE.out.2.1], by rw [HE.out.2.2]; exact Own.nil _ _, HB.out⟩
theorem frame_any (A : Option Addr) (n c B : Nat) (l : List UInt8) (w : World) (hr : Rd w B A n l) (hB : B ≤ w.heap.size) (hnc : n ≤ c) (hA : A = none → c = 0) (hm : n ≤ 140737488355328) :
    Calls Tryd.prog 23 #[.slice A n c] w fun e w' => FrR w l e w' := by
  by_cases h : l.length < hdN l
  · exact frame_short A n c B l w hr hB hnc hA h
  · have h := Nat.le_of_not_lt h
    have hl := hr.1
    obtain ⟨W1, hW1⟩ : ∃ W1, w.alloc (.cells #[.int .i64 0, .slice none 0 0] 53) = W1 := ⟨_, rfl⟩
    have k1 : Blk W1 w.heap.size 53 [.int .i64 0, .slice none 0 0] := by rw [← hW1]; exact blk_new w _ _
    have B1 : Below w.heap.size w W1 := by rw [← hW1]; exact (Below.refl _ _).alloc (Nat.le_refl _) _
    have HW := Lib.hid hW1
    have hr1 := hr.below (B1.mono hB)
    have HS := Lib.hid (headSize_any A n c B l W1 hr1 hnc)
    have hp := frP_num h
    have h12 := hdN_two l
    obtain ⟨q, hq⟩ : ∃ q, hdN l = q := ⟨_, rfl⟩
    rw [hq] at HS h hp h12
    have HQ := Lib.hid hq
    have hqn : q ≤ n := by omega
    have hlt : ¬ (n : Int) < (q : Int) := by omega
    have hqc : q ≤ c := by omega
    have HRD := Lib.hid hr1
    have HP := Lib.hid hp
    obtain ⟨b, off, hAe, hbB, hcell⟩ := hr1.2 (by omega)
    obtain ⟨A', c', hsl, hrd', hA', hnc'⟩ := slice_from A n c B q l W1 hr1 hnc hA hqn
    subst hAe
    have PR := Lib.hid (protoRight_any (num l q) W1)
    have HC := Lib.hid hcell
    have HB1 := Lib.hid B1
    have hbb := Blk.set_ (Blk.set_ k1 0 (.int .i64 0)) 1 (.slice none 0 0)
    have c0 := k1.cell 0
    have c1 := k1.cell 1
    have f0 := k1.frozen 0
    have f1 := k1.frozen 1
    have p0 := hbb.cell 0
    have p1 := hbb.cell 1
    have HB : Hid (Below w.heap.size w ((W1.setCell ⟨w.heap.size, 0, none⟩ (.int .i64 0)).setCell ⟨w.heap.size, 1, none⟩ (.slice none 0 0))) := (B1.setCell (Nat.le_refl _) _).setCell (Nat.le_refl _) _
    have s1 := B1.size
    have CO : Hid (Calls Tryd.prog 45 #[.agg #[.int .i64 (num l q), .slice A' (n - q) c']] W1 fun e w' => ∃ F f, e = .returned (.agg #[.int .i64 (num l q), .slice F (n - q) f]) ∧ Hid (Own w' w.heap.size (.slice F (n - q) f) (l.drop q) ∧ Below w.heap.size w w') ∧ Hid (Blk w' w.heap.size 53 [.int .i64 0, .slice none 0 0])) := by
      refine (cown_any (num l q) A' (n - q) c' B (l.drop q) W1 hrd' (by omega) hA' (by omega)).mono ?_
      rintro e w' ⟨F, f, rfl, ho, hb⟩
      exact ⟨F, f, rfl, Lib.hid ⟨ho.base_le s1, B1.trans (hb.mono s1)⟩, Lib.hid ((hb.block _ (Blk.lt k1)).trans k1)⟩
    have HSL := hsl
    have hl := hr.1
    have HE : Hid (frE l = if prB (num l q) = false then 30 else if 16384 < n - q then 4 else 0) := by
      show frE l = _
      unfold frE
      rw [HQ.out, if_neg (by omega), HP.out, hl]
    clear hW1 k1 B1 hr hr1 hq hp hl hcell hbb hsl hrd' hA'
    go_enter Tryd.func23, Tryd.ntmps23
    go_upto_region 6 with (first
      | (rw [HW.out])
      | (go_at_call 44; ((with_reducible refine HS.out.mono ?_); rintro e w' ⟨rfl, rfl⟩)))
    go_loopw [5, 19] (fun v i wr => ∃ k : Nat, k ≤ q ∧ v = .int .i64 (num l k) ∧ i = .int .i64 k ∧ wr = W1) (fun _ i _ => q - (intOf i).toNat)
    case atStart => exact ⟨0, Nat.zero_le _, rfl, rfl, rfl⟩
    case round =>
      obtain ⟨k, hk, rfl, rfl, rfl⟩ := hrel
      by_cases hkq : k < q
      · have x0 := HC.out k (by omega)
        have hnk : num l k < 65536 := by
          have := num_hi l k
          have : k = 0 ∨ k = 1 := by omega
          rcases this with rfl | rfl <;> omega
        have hn0 := num_lo l k
        have hb0 := byteAt_lo l k
        have hb1 := byteAt_hi l k
        have hor : bits .or .i64 (num l k * 256) (byteAt l k) = num l (k + 1) := or_low8 _ _ hn0 hnk hb0 (by omega)
        go_wp2
        go_roundw
        case rel =>
          refine ⟨k + 1, by omega, ?_, by go_num, ?_⟩
          all_goals first | trivial | rfl
        case measure => simp [intOf]; omega
      · have hkq2 : k = q := by omega
        subst hkq2
        by_cases hpr : prB (num l k) = true
        · rw [hpr] at PR HE
          by_cases hbig : 16384 < n - k
          · have HE2 : Hid (frE l = 4 ∧ frQ l = 0 ∧ frL l = []) := by
              have : frE l = 4 := by rw [HE.out, if_neg (by simp), if_pos hbig]
              exact ⟨this, by unfold frQ; rw [this]; rfl, by unfold frL; rw [this]; rfl⟩
            have hbig2 : (16384 : Int) < (n : Int) - (k : Int) := by omega
            go_wp2_with (first
              | (go_at_call 42; ((with_reducible refine PR.out.mono ?_); rintro e w' ⟨rfl, rfl⟩)))
            exact bodyPost_ret (v := .tuple #[.agg #[.int .i64 0, .slice none 0 0], .int .i64 4]) (by simp [results, Tryd.results23, go_sem, p0, p1]) rfl ⟨none, 0, 0, by rw [HE2.out.1, HE2.out.2.1], by rw [HE2.out.2.2]; exact Own.nil _ _, HB.out⟩
          · have HE2 : Hid (frE l = 0 ∧ frQ l = num l k ∧ frL l = l.drop k) := by
              have : frE l = 0 := by rw [HE.out, if_neg (by simp), if_neg hbig]
              exact ⟨this, by unfold frQ; rw [this, HP.out]; rfl, by unfold frL; rw [this, HQ.out]; rfl⟩
            have hbig2 : ¬ (16384 : Int) < (n : Int) - (k : Int) := by omega
            clear p0 p1 f0 f1 HB
            go_wp2_with (first
              | (go_at_call 42; ((with_reducible refine PR.out.mono ?_); rintro e w' ⟨rfl, rfl⟩))
              | (go_at_call 45; ((with_reducible refine CO.out.mono ?_); rintro e w2 ⟨F, f, rfl, HO, HK⟩; have y0 := HK.out.cell 0; have y1 := HK.out.cell 1; have g0 := HK.out.frozen 0; have g1 := HK.out.frozen 1)))
            have hb2 := Blk.set_ (Blk.set_ HK.out 0 (.int .i64 (num l k))) 1 (.slice F (n - k) f)
            have p0 := hb2.cell 0
            have p1 := hb2.cell 1
            have HO2 : Own ((w2.setCell ⟨w.heap.size, 0, none⟩ (.int .i64 (num l k))).setCell ⟨w.heap.size, 1, none⟩ (.slice F (n - k) f)) w.heap.size (.slice F (n - k) f) (l.drop k) := by
              refine HO.out.1.grown (only_then (only_set (p := ⟨w.heap.size, 0, none⟩) _) (only_set (p := ⟨w.heap.size, 1, none⟩) _) (fun g e => .inl e)) ?_
              rcases HO.out.1.2 with ⟨h, _⟩ | ⟨g, cap, cur, h, _, hg, _⟩
              · rw [h]; exact .inl rfl
              · rw [h]
                refine .inr fun e => ?_
                simp only [Value.ownBlock, Option.some.injEq] at e
                subst e
                have hk := HK.out
                unfold Blk at hk
                rw [hk] at hg
                injection hg with hg
                injection hg with e1 e2 e3
                exact absurd e2 (by decide)
            have HB2 : Below w.heap.size w ((w2.setCell ⟨w.heap.size, 0, none⟩ (.int .i64 (num l k))).setCell ⟨w.heap.size, 1, none⟩ (.slice F (n - k) f)) := (HO.out.2.setCell (Nat.le_refl _) _).setCell (Nat.le_refl _) _
            exact bodyPost_ret (v := .tuple #[.agg #[.int .i64 (num l k), .slice F (n - k) f], .int .i64 0]) (by simp [results, Tryd.results23, go_sem, p0, p1]) rfl ⟨F, n - k, f, by rw [HE2.out.1, HE2.out.2.1], by rw [HE2.out.2.2]; exact HO2, HB2⟩
        · have hpr : prB (num l k) = false := by simpa using hpr
          rw [hpr] at PR HE
          have HE2 : Hid (frE l = 30 ∧ frQ l = 0 ∧ frL l = []) := by
            have : frE l = 30 := HE.out
            exact ⟨this, by unfold frQ; rw [this]; rfl, by unfold frL; rw [this]; rfl⟩
          go_wp2_with (first
            | (go_at_call 42; ((with_reducible refine PR.out.mono ?_); rintro e w' ⟨rfl, rfl⟩)))
          exact bodyPost_ret (v := .tuple #[.agg #[.int .i64 0, .slice none 0 0], .int .i64 30]) (by simp [results, Tryd.results23, go_sem, p0, p1]) rfl ⟨none, 0, 0, by rw [HE2.out.1, HE2.out.2.1], by rw [HE2.out.2.2]; exact Own.nil _ _, HB.out⟩
end Go.Proofs.YtlpboleclehilaaDoor
