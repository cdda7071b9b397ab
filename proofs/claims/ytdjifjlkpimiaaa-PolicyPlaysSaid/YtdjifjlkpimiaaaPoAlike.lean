/-
  The law's model of a call, whether two policies are alike, and PolicyPlays.
-/
import Derived.Test.YtdjifjlkpimiaaaPoRef3
import Derived.Test.YtdjifjlkpimiaaaPoRef4
import Derived.Test.YtdjifjlkpimiaaaPoIdles
namespace Go.Proofs.Ytdjifjlkpimiaaa
open Go.RowKit
set_option maxRecDepth 100000
set_option maxHeartbeats 8000000
set_option linter.unusedSimpArgs false
set_option linter.unusedVariables false

/-- what the model of a call leaves -/
def PmR (w : World) (g : Nat) (cs : List Value) (y : PoS) (l : List Int) (e : Ending) (w' : World) : Prop := ∃ v, e = .returned (.tuple #[v, .int .i64 0]) ∧ OwnI w' w.heap.size v l ∧ RpB w' g cs y ∧ w.grownBy w' (some g)
theorem model_bad (g : Nat) (cs : List Value) (x : PoS) (k b t : Int) (m : Bool) (w : World) (hx : RpB w g cs x) (ho : PoOk x) (hb : poBad t x = true) :
    Calls Try.prog 12 #[.pointer (some ⟨g, 0, none⟩), .agg #[.int .i64 k, .int .i64 b, .bool m], .int .i64 t] w fun e w' => e = .returned (.tuple #[.slice none 0 0, .int .i64 1]) ∧ Below w.heap.size w w' := by
  have HB := Lib.hid (rbegin_bad g cs x t _ (hx.alloc (.cells #[.int .i64 k, .int .i64 b, .bool m] 36)) ho hb)
  have AL : Hid (Below w.heap.size w (w.alloc (.cells #[.int .i64 k, .int .i64 b, .bool m] 36))) := (Below.refl _ _).alloc (Nat.le_refl _) _
  clear hx ho hb
  go_enter Try.func12, Try.ntmps12
  go_wp2_with (go_at_call 29; ((with_reducible refine HB.out.mono ?_); rintro e w' ⟨rfl, rfl⟩))
  go_ret2
  exact ⟨rfl, AL.out⟩
theorem model_any (g : Nat) (cs : List Value) (x : PoS) (k b t : Int) (m : Bool) (w : World) (hx : RpB w g cs x) (ho : PoOk x) (hb : poBad t x = false) :
    Calls Try.prog 12 #[.pointer (some ⟨g, 0, none⟩), .agg #[.int .i64 k, .int .i64 b, .bool m], .int .i64 t] w (PmR w g cs (poStep (kdO k m) t x) (poStepL (kdO k m) t x)) := by
  have hok : PoOk (poSet (poAt x t)) := poSet_ok (poAt_ok ho (by have := of_decide_eq_false hb; omega) (by have := of_decide_eq_false hb; omega))
  obtain ⟨W0, hW0⟩ : ∃ W0, w.alloc (.cells #[.int .i64 k, .int .i64 b, .bool m] 36) = W0 := ⟨_, rfl⟩
  have G0 : w.grownBy W0 (some g) := by rw [← hW0]; exact galloc' (World.grownBy.refl _ _) _
  have P0 : Blk W0 w.heap.size 36 [.int .i64 k, .int .i64 b, .bool m] := by rw [← hW0]; exact blk_new _ _ _
  have hlt := hx.lt
  have HBG : Hid (Calls Try.prog 29 #[.pointer (some ⟨g, 0, none⟩), .int .i64 t] W0 fun e w' => ∃ v, e = .returned (.tuple #[v, .int .i64 0]) ∧ Hid (OwnI w' w.heap.size v (poSetL (poAt x t))) ∧ Hid (RpB w' g cs (poSet (poAt x t))) ∧ Hid (w.grownBy w' (some g)) ∧ (w'.cell? ⟨w.heap.size, 0, none⟩ = some (.int .i64 k) ∧ w'.cell? ⟨w.heap.size, 2, none⟩ = some (.bool m))) := by
    have h0 : RpB W0 g cs x := by rw [← hW0]; exact hx.alloc _
    refine (rbegin_any g cs x t W0 h0 ho hb).mono ?_
    rintro e w' ⟨v, rfl, h1, h2, h3⟩
    have P1 := Blk.grown P0 h3 (fun e => by injection e with e; omega)
    exact ⟨v, rfl, h1.wide G0.size, h2, gtrans' G0 h3, P1.cell 0, P1.cell 2⟩
  have e1 : poStep (kdO k m) t x = poDo (kdO k m) (poSet (poAt x t)) := rfl
  have e2 : poStepL (kdO k m) t x = poSetL (poAt x t) ++ poDoL (kdO k m) (poSet (poAt x t)) := rfl
  rw [e1, e2]
  have hl1 := poSetL_len (poAt x t)
  have hl2 := poDoL_len (kdO k m) (poSet (poAt x t))
  have HOK := Lib.hid hok
  have HW := Lib.hid hW0
  have HXL := Lib.hid hlt
  clear hx ho hb hok hlt e1 e2 G0 P0 hW0
  generalize poSet (poAt x t) = y at *
  generalize poSetL (poAt x t) = l1 at *
  -- the append at the end
  have FIN : Hid (∀ (v u : Value) (W2 W3 : World) (z : PoS) (l2 : List Int), OwnI W2 w.heap.size v l1 → w.grownBy W2 (some g) → OwnI W3 W2.heap.size u l2 → RpB W3 g cs z → W2.grownBy W3 (some g) → l2.length ≤ 1 →
      ∃ v' W4, (Builtin.append_ #[22, 22] 22 #[v, u]).run Try.prog W3 = .ok v' W4 ∧ PmR w g cs z (l1 ++ l2) (.returned (.tuple #[v', .int .i64 0])) W4) := by
    show ∀ (v u : Value) (W2 W3 : World) (z : PoS) (l2 : List Int), _ → _ → _ → _ → _ → _ → _
    intro v u W2 W3 z l2 o1 g1 o2 r2 g2 hl
    have hv : ∀ i, v.ownBlock = some i → w.heap.size ≤ i := fun i h => (o1.form.2 i h).1
    have hnb : v.ownBlock = none ∨ v.ownBlock ≠ some g := by
      rcases h : v.ownBlock with _ | i
      · exact .inl rfl
      · refine .inr fun e => ?_
        injection e with e
        have := hv i h
        have := HXL.out
        omega
    have o3 := o1.grown g2 hnb
    obtain ⟨v', W4, hrun, o6, g6⟩ := ownI_app o3 o2 (by omega) (by omega) (Nat.le_trans g1.size g2.size) g1.size
    have hng : v.ownBlock ≠ some g := by
      rcases hnb with h | h
      · rw [h]; simp
      · exact h
    refine ⟨v', W4, hrun, v', rfl, o6, ⟨Blk.grown r2.blk g6 hng, r2.cf⟩, ?_⟩
    have gn := gtrans' g1 g2
    refine ⟨g6.os.trans gn.os, g6.tape.trans gn.tape, g6.output.trans gn.output, Nat.le_trans gn.size g6.size, fun i hi hne => (g6.block i (Nat.lt_of_lt_of_le hi gn.size) (fun e => ?_)).trans (gn.block i hi hne)⟩
    have := hv i e.symm
    omega
  have HL2 := Lib.hid hl2
  clear hl1 hl2
  have hk : k = 0 ∨ k = 1 ∨ k = 2 ∨ k = 3 ∨ k = 4 ∨ k = 5 ∨ (k ≠ 0 ∧ k ≠ 1 ∧ k ≠ 2 ∧ k ≠ 3 ∧ k ≠ 4 ∧ k ≠ 5) := by omega
  rcases hk with rfl | rfl | rfl | rfl | rfl | rfl | ⟨n0, n1, n2, n3, n4, n5⟩
  · have ek : kdO 0 m = 0 := rfl
    rw [ek] at HL2 ⊢
    clear ek
    go_enter Try.func12, Try.ntmps12
    go_upto_region 1 with (fail)
    rw [HW.out]
    go_upto_region 18 with (first | (go_at_call 29; ((with_reducible refine HBG.out.mono ?_); rintro e W2 ⟨v, rfl, O1, R1, G1, c0, c2⟩)) | (go_at_call 30; refine (rstart_any g cs y _ R1.out).mono ?_; rintro e W3 ⟨u, rfl, o2, r2, g2⟩; have O2 := Lib.hid o2; have R2 := Lib.hid r2; have G2 := Lib.hid g2; clear o2 r2 g2))
    obtain ⟨v', W4, hrun, PO⟩ := FIN.out _ _ _ _ _ _ O1.out G1.out O2.out R2.out G2.out HL2.out
    have HRUN := Lib.hid hrun
    have HPO := Lib.hid PO
    clear hrun PO
    go_wp2_with (at_builtin; refine wpList_appR 22 22 rfl (.tmp 48) (.tmp 49) rfl _ _ rfl rfl _ _ HRUN.out ?_)
    go_ret2
    exact HPO.out
  · cases m with
    | true =>
      have ek : kdO 1 true = 1 := rfl
      rw [ek] at HL2 ⊢
      clear ek
      go_enter Try.func12, Try.ntmps12
      go_upto_region 1 with (fail)
      rw [HW.out]
      go_upto_region 18 with (first | (go_at_call 29; ((with_reducible refine HBG.out.mono ?_); rintro e W2 ⟨v, rfl, O1, R1, G1, c0, c2⟩)) | (go_at_call 31; refine (rpacket_yes g cs y _ R1.out HOK.out).mono ?_; rintro e W3 ⟨u, rfl, o2, r2, g2⟩; have O2 := Lib.hid o2; have R2 := Lib.hid r2; have G2 := Lib.hid g2; clear o2 r2 g2))
      obtain ⟨v', W4, hrun, PO⟩ := FIN.out _ _ _ _ _ _ O1.out G1.out O2.out R2.out G2.out HL2.out
      have HRUN := Lib.hid hrun
      have HPO := Lib.hid PO
      clear hrun PO
      go_wp2_with (at_builtin; refine wpList_appR 22 22 rfl (.tmp 48) (.tmp 49) rfl _ _ rfl rfl _ _ HRUN.out ?_)
      go_ret2
      exact HPO.out
    | false =>
      have ek : kdO 1 false = 9 := rfl
      rw [ek] at HL2 ⊢
      clear ek
      go_enter Try.func12, Try.ntmps12
      go_upto_region 1 with (fail)
      rw [HW.out]
      go_upto_region 18 with (first | (go_at_call 29; ((with_reducible refine HBG.out.mono ?_); rintro e W2 ⟨v, rfl, O1, R1, G1, c0, c2⟩)) | (go_at_call 31; refine (rpacket_no g cs y _ R1.out).mono ?_; rintro e W3 ⟨u, rfl, o2, r2, g2⟩; have O2 := Lib.hid o2; have R2 := Lib.hid r2; have G2 := Lib.hid g2; clear o2 r2 g2))
      obtain ⟨v', W4, hrun, PO⟩ := FIN.out _ _ _ _ _ _ O1.out G1.out O2.out R2.out G2.out HL2.out
      have HRUN := Lib.hid hrun
      have HPO := Lib.hid PO
      clear hrun PO
      go_wp2_with (at_builtin; refine wpList_appR 22 22 rfl (.tmp 48) (.tmp 49) rfl _ _ rfl rfl _ _ HRUN.out ?_)
      go_ret2
      exact HPO.out
  · have ek : kdO 2 m = 2 := rfl
    rw [ek] at HL2 ⊢
    clear ek
    go_enter Try.func12, Try.ntmps12
    go_upto_region 1 with (fail)
    rw [HW.out]
    go_upto_region 18 with (first | (go_at_call 29; ((with_reducible refine HBG.out.mono ?_); rintro e W2 ⟨v, rfl, O1, R1, G1, c0, c2⟩)) | (go_at_call 32; refine (rup_any g cs y _ R1.out HOK.out).mono ?_; rintro e W3 ⟨u, rfl, o2, r2, g2⟩; have O2 := Lib.hid o2; have R2 := Lib.hid r2; have G2 := Lib.hid g2; clear o2 r2 g2))
    obtain ⟨v', W4, hrun, PO⟩ := FIN.out _ _ _ _ _ _ O1.out G1.out O2.out R2.out G2.out HL2.out
    have HRUN := Lib.hid hrun
    have HPO := Lib.hid PO
    clear hrun PO
    go_wp2_with (at_builtin; refine wpList_appR 22 22 rfl (.tmp 48) (.tmp 49) rfl _ _ rfl rfl _ _ HRUN.out ?_)
    go_ret2
    exact HPO.out
  · have ek : kdO 3 m = 3 := rfl
    rw [ek] at HL2 ⊢
    clear ek
    go_enter Try.func12, Try.ntmps12
    go_upto_region 1 with (fail)
    rw [HW.out]
    go_upto_region 18 with (first | (go_at_call 29; ((with_reducible refine HBG.out.mono ?_); rintro e W2 ⟨v, rfl, O1, R1, G1, c0, c2⟩)) | (go_at_call 33; refine (rdown_any g cs y _ R1.out).mono ?_; rintro e W3 ⟨u, rfl, o2, r2, g2⟩; have O2 := Lib.hid o2; have R2 := Lib.hid r2; have G2 := Lib.hid g2; clear o2 r2 g2))
    obtain ⟨v', W4, hrun, PO⟩ := FIN.out _ _ _ _ _ _ O1.out G1.out O2.out R2.out G2.out HL2.out
    have HRUN := Lib.hid hrun
    have HPO := Lib.hid PO
    clear hrun PO
    go_wp2_with (at_builtin; refine wpList_appR 22 22 rfl (.tmp 48) (.tmp 49) rfl _ _ rfl rfl _ _ HRUN.out ?_)
    go_ret2
    exact HPO.out
  · have ek : kdO 4 m = 4 := rfl
    rw [ek] at HL2 ⊢
    clear ek
    go_enter Try.func12, Try.ntmps12
    go_upto_region 1 with (fail)
    rw [HW.out]
    go_upto_region 18 with (first | (go_at_call 29; ((with_reducible refine HBG.out.mono ?_); rintro e W2 ⟨v, rfl, O1, R1, G1, c0, c2⟩)) | (go_at_call 34; refine (rlinkup_any g cs y _ R1.out).mono ?_; rintro e W3 ⟨u, rfl, o2, r2, g2⟩; have O2 := Lib.hid o2; have R2 := Lib.hid r2; have G2 := Lib.hid g2; clear o2 r2 g2))
    obtain ⟨v', W4, hrun, PO⟩ := FIN.out _ _ _ _ _ _ O1.out G1.out O2.out R2.out G2.out HL2.out
    have HRUN := Lib.hid hrun
    have HPO := Lib.hid PO
    clear hrun PO
    go_wp2_with (at_builtin; refine wpList_appR 22 22 rfl (.tmp 48) (.tmp 49) rfl _ _ rfl rfl _ _ HRUN.out ?_)
    go_ret2
    exact HPO.out
  · have ek : kdO 5 m = 5 := rfl
    rw [ek] at HL2 ⊢
    clear ek
    go_enter Try.func12, Try.ntmps12
    go_upto_region 1 with (fail)
    rw [HW.out]
    go_upto_region 18 with (first | (go_at_call 29; ((with_reducible refine HBG.out.mono ?_); rintro e W2 ⟨v, rfl, O1, R1, G1, c0, c2⟩)) | (go_at_call 35; refine (rlinkdown_any g cs y _ R1.out HOK.out).mono ?_; rintro e W3 ⟨u, rfl, o2, r2, g2⟩; have O2 := Lib.hid o2; have R2 := Lib.hid r2; have G2 := Lib.hid g2; clear o2 r2 g2))
    obtain ⟨v', W4, hrun, PO⟩ := FIN.out _ _ _ _ _ _ O1.out G1.out O2.out R2.out G2.out HL2.out
    have HRUN := Lib.hid hrun
    have HPO := Lib.hid PO
    clear hrun PO
    go_wp2_with (at_builtin; refine wpList_appR 22 22 rfl (.tmp 48) (.tmp 49) rfl _ _ rfl rfl _ _ HRUN.out ?_)
    go_ret2
    exact HPO.out
  · have t0 : (k == 0) = false := by simpa using n0
    have t1 : (k == 1) = false := by simpa using n1
    have t2 : (k == 2) = false := by simpa using n2
    have t3 : (k == 3) = false := by simpa using n3
    have t4 : (k == 4) = false := by simpa using n4
    have t5 : (k == 5) = false := by simpa using n5
    have ek : kdO k m = 9 := by unfold kdO; rw [if_neg n1, if_neg (by omega)]
    rw [ek] at HL2 ⊢
    clear ek
    go_enter Try.func12, Try.ntmps12
    go_upto_region 1 with (fail)
    rw [HW.out]
    go_upto_region 18 with (go_at_call 29; ((with_reducible refine HBG.out.mono ?_); rintro e W2 ⟨v, rfl, O1, R1, G1, c0, c2⟩))
    have O2 : Hid (OwnI W2 W2.heap.size (.slice none 0 0) []) := OwnI.nil _ _
    have R2 := R1
    have G2 : Hid (W2.grownBy W2 (some g)) := World.grownBy.refl _ _
    obtain ⟨v', W4, hrun, PO⟩ := FIN.out _ _ _ _ _ _ O1.out G1.out O2.out R2.out G2.out HL2.out
    have HRUN := Lib.hid hrun
    have HPO := Lib.hid PO
    clear hrun PO
    go_wp2_with (at_builtin; refine wpList_appR 22 22 rfl (.tmp 48) (.tmp 49) rfl _ _ rfl rfl _ _ HRUN.out ?_)
    go_ret2
    exact HPO.out
/-- a policy and the reference's in the same state are alike -/
theorem alike_yes (g h : Nat) (cs : List Value) (x : PoS) (w : World) (hp : PoB w g x) (hr : RpB w h cs x) (ho : PoOk x) :
    Calls Try.prog 14 #[.pointer (some ⟨g, 0, none⟩), .pointer (some ⟨h, 0, none⟩)] w fun e w' => e = .returned (.bool true) ∧ Below w.heap.size w w' := by
  obtain ⟨V, hV⟩ : ∃ V, nxV (poDl x) = V := ⟨_, rfl⟩
  obtain ⟨E, hE⟩ : ∃ E, nxE (poDl x) = E := ⟨_, rfl⟩
  have N1 : Hid (Calls Try.prog 18 #[.pointer (some ⟨g, 0, none⟩)] w fun e w' => e = .returned (.tuple #[.int .i64 V, .int .i64 E]) ∧ Hid (Below w.heap.size w w')) := by
    rw [← hV, ← hE]
    exact poNext_any g x w hp ho
  have N2 : Hid (∀ W, Hid (Below w.heap.size w W) → Calls Try.prog 36 #[.pointer (some ⟨h, 0, none⟩)] W fun e w' => e = .returned (.tuple #[.int .i64 V, .int .i64 E]) ∧ Hid (Below w.heap.size w w')) := by
    show ∀ W, _ → _
    intro W hW
    rw [← hV, ← hE]
    exact (rnext_any h cs x W (hr.below hW.out) ho).mono fun e w' h => ⟨h.1, bto hW.out h.2⟩
  have HP := Lib.hid hp
  have HR := Lib.hid hr
  clear hV hE hp hr ho
  go_enter Try.func14, Try.ntmps14
  go_upto_region 3 with (first | (go_at_call 18; ((with_reducible refine N1.out.mono ?_); rintro e w2 ⟨rfl, B2⟩)) | (go_at_call 36; ((with_reducible refine (N2.out _ B2).mono ?_); rintro e w3 ⟨rfl, B3⟩)))
  have hp3 := HP.out.below B3.out
  have hr3 := HR.out.below B3.out
  have c33 : w3.cell? ⟨h, 33, none⟩ = some (.int .i64 x.st) := hr3.hi 0
  have c35 : w3.cell? ⟨h, 35, none⟩ = some (.int .i64 x.fa) := hr3.hi 2
  have c36 : w3.cell? ⟨h, 36, none⟩ = some (.string x.wy) := hr3.hi 3
  have SG : Hid (∀ q, Calls Try.prog 16 #[.pointer (some ⟨g, 0, none⟩)] (w3.drewN q) fun e w' => e = .returned (.int .i64 x.st) ∧ w3.drewN q = w') := fun q => poMState_any g x _ (Blk.drewN hp3 q)
  have FG : Hid (∀ q, Calls Try.prog 20 #[.pointer (some ⟨g, 0, none⟩)] (w3.drewN q) fun e w' => e = .returned (.int .i64 x.fa) ∧ w3.drewN q = w') := fun q => poMFailures_any g x _ (Blk.drewN hp3 q)
  have YG : Hid (∀ q, Calls Try.prog 21 #[.pointer (some ⟨g, 0, none⟩)] (w3.drewN q) fun e w' => e = .returned (.string x.wy) ∧ w3.drewN q = w') := fun q => poMWhy_any g x _ (Blk.drewN hp3 q)
  clear hp3 hr3 HP HR N1 N2 B2
  generalize x.st = s at *
  generalize x.fa = fa at *
  generalize x.wy = wy at *
  have n1 : (s == s) = true := by simp
  have n2 : (fa == fa) = true := by simp
  have n3 : (wy.toList == wy.toList) = true := by simp
  have n4 : (V == V) = true := by simp
  have n5 : (E == E) = true := by simp
  go_quiet ((first | (go_at_call 16; refine (SG.out _).mono ?_; rintro e w' ⟨rfl, rfl⟩; exact ⟨rfl, _, rfl⟩) | (go_at_call 20; refine (FG.out _).mono ?_; rintro e w' ⟨rfl, rfl⟩; exact ⟨rfl, _, rfl⟩) | (go_at_call 21; refine (YG.out _).mono ?_; rintro e w' ⟨rfl, rfl⟩; exact ⟨rfl, _, rfl⟩)))
  go_wp2
  go_ret
  exact ⟨rfl, bdrewN B3.out _⟩
end Go.Proofs.Ytdjifjlkpimiaaa
