/-
  MeterBest.
-/
import Derived.Test.YtplmflgmfffdhaaDoorMeBest
import Derived.Test.YtplmflgmfffdhaaDoorMeWalks
namespace Go.Proofs.YtplmflgmfffdhaaDoor
open Go.RowKit
set_option maxRecDepth 100000
set_option maxHeartbeats 2000000
set_option linter.unusedSimpArgs false
set_option linter.unusedVariables false

theorem rev_drop {l : List Nat} {j : Nat} (h : j < l.length) : (l.drop j).reverse = (l.drop (j + 1)).reverse ++ [numAt l j] := by
  rw [numAt_eq h, List.drop_eq_getElem_cons h, List.reverse_cons]
/-- what the list told back holds -/
def BkJ (w1 V : World) (l : List Nat) (j : Nat) (v : Value) : Prop := OwnF V w1.heap.size v (l.drop j).reverse ∧ Below w1.heap.size w1 V
theorem bk_step {w1 V : World} {l : List Nat} {j : Nat} {v : Value} (h : BkJ w1 V l (j + 1) v) (hj : j < l.length) (hn : l.length ≤ 17592186043904) (k : Nat) :
    ∃ v' w', (Builtin.append_ #[31, 31] 31 #[v, .slice (some ⟨V.heap.size, 0, none⟩) 1 1]).run Tryd.prog ((V.drewN k).alloc (.cells #[.float .f64 (numAt l j)] 22)) = .ok v' w' ∧ BkJ w1 w' l j v' := by
  obtain ⟨v', w', h1, h2, h3, _, _⟩ := appF_one (h.1.drewN k) (numAt l j) (by simp only [List.length_reverse, List.length_drop]; omega) (by have := h.2.size; exact this)
  refine ⟨v', w', h1, ?_, ?_⟩
  · rw [rev_drop hj]
    exact h2
  · exact (below_drewN h.2 k).trans h3
theorem meterbest_walk (A : Option Addr) (n c : Nat) (l : List Nat) (w : World) (hr : RdF w w.heap.size A n l) (hl : ∀ x ∈ l, Word x) (hn : n ≤ 17592186043904) (hz : A = none → c = 0) :
    Calls Tryd.prog 4 #[.slice A n c] w fun e w' => e = .returned (.bool true) ∧ Below w.heap.size w w' := by
  obtain ⟨v1, w1, hrun, ho, hg, _⟩ := appF_rd (OwnF.nil w w.heap.size) hr hz (by simp; omega) (Nat.le_refl _)
  have hb1 : Below w.heap.size w w1 := (Below.refl _ w).grown hg (Nat.le_refl _) (fun k e => by simp [Value.ownBlock] at e)
  rw [List.nil_append] at ho
  have hlen := hr.1
  obtain ⟨A1, c1, rfl, hc1, hz1⟩ := ho.slice
  rw [hlen] at hrun ho
  have ho := (show OwnF w1 w.heap.size (.slice A1 l.length c1) l from by rw [hlen]; exact ho).rd
  rw [hlen] at ho
  have R1 := ho.1
  have R0 := hr.below hb1 (Nat.le_refl _)
  have R0w := R0.wide hb1.size
  have HRUN := Lib.hid hrun
  have HR1 := Lib.hid R1
  have HR0 := Lib.hid R0w
  have HB1 := Lib.hid hb1
  have hs1 := hb1.size
  have CB : Hid (∀ m, Calls Tryd.prog 17 #[.slice A1 n c1] (w1.drewN m) fun e w' => e = .returned (.tuple #[.float .f64 ((bstF false l).getD NC), .bool (bstF false l).isSome]) ∧ ∃ k, w' = w1.drewN k) :=
    fun m => (best_any A1 n c1 _ l (w1.drewN m) (R1.drewN m) hl hn).mono fun _ _ ⟨a, k, b⟩ => ⟨a, m + k, by rw [b, World.drewN_drewN]⟩
  have CW : Hid (∀ m, Calls Tryd.prog 19 #[.slice A1 n c1] (w1.drewN m) fun e w' => e = .returned (.tuple #[.float .f64 ((bstF true l).getD NC), .bool (bstF true l).isSome]) ∧ ∃ k, w' = w1.drewN k) :=
    fun m => (worst_any A1 n c1 _ l (w1.drewN m) (R1.drewN m) hl hn).mono fun _ _ ⟨a, k, b⟩ => ⟨a, m + k, by rw [b, World.drewN_drewN]⟩
  have RB : Hid (∀ m, Calls Tryd.prog 18 #[.slice A n c, .int .i64 (-1)] (w1.drewN m) fun e w' => e = .returned (.tuple #[.float .f64 ((bstF false l).getD NC), .bool (bstF false l).isSome]) ∧ ∃ k, w' = w1.drewN k) :=
    fun m => (rbest_any false A n c _ l (w1.drewN m) (R0w.drewN m) hl hn).mono fun _ _ ⟨a, k, b⟩ => ⟨a, m + k, by rw [b, World.drewN_drewN]⟩
  have RW : Hid (∀ m, Calls Tryd.prog 18 #[.slice A n c, .int .i64 1] (w1.drewN m) fun e w' => e = .returned (.tuple #[.float .f64 ((bstF true l).getD NC), .bool (bstF true l).isSome]) ∧ ∃ k, w' = w1.drewN k) :=
    fun m => (rbest_any true A n c _ l (w1.drewN m) (R0w.drewN m) hl hn).mono fun _ _ ⟨a, k, b⟩ => ⟨a, m + k, by rw [b, World.drewN_drewN]⟩
  have KB : Hid (∀ (V : World) (A2 : Option Addr) (c2 : Nat), RdF V V.heap.size A2 n l.reverse → Calls Tryd.prog 17 #[.slice A2 n c2] V fun e w' => e = .returned (.tuple #[.float .f64 ((bstF false l).getD NC), .bool (bstF false l).isSome]) ∧ ∃ k, w' = V.drewN k) := fun V A2 c2 h => by
    have := best_any A2 n c2 _ l.reverse V h (fun x hx => hl x (List.mem_reverse.1 hx)) hn
    rwa [bst_rev false hl] at this
  have KW : Hid (∀ (V : World) (A2 : Option Addr) (c2 : Nat) (m : Nat), RdF V V.heap.size A2 n l.reverse → Calls Tryd.prog 19 #[.slice A2 n c2] (V.drewN m) fun e w' => e = .returned (.tuple #[.float .f64 ((bstF true l).getD NC), .bool (bstF true l).isSome]) ∧ ∃ k, w' = V.drewN k) := fun V A2 c2 m h => by
    have := worst_any A2 n c2 _ l.reverse (V.drewN m) (h.drewN m) (fun x hx => hl x (List.mem_reverse.1 hx)) hn
    rw [bst_rev true hl] at this
    exact this.mono fun _ _ ⟨a, k, b⟩ => ⟨a, m + k, by rw [b, World.drewN_drewN]⟩
  have OO : Hid ((bstF false l).isSome = true → ∀ W, Calls Tryd.prog 14 #[.float .f64 ((bstF false l).getD NC), .float .f64 ((bstF true l).getD NC)] W fun e w' => ∃ z : Int, e = .returned (.int .i64 z) ∧ w' = W ∧ z ≤ 0) := fun h W => by
    have hbt := bst_both l
    rw [h] at hbt
    obtain ⟨x, hx⟩ := Option.isSome_iff_exists.1 h
    obtain ⟨y, hy⟩ := Option.isSome_iff_exists.1 hbt.symm
    rw [hx, hy]
    exact (order_any x y W (bst_word hl hx) (bst_word hl hy)).mono fun _ _ ⟨a, b⟩ => ⟨_, a, b.symm, bst_ord hx hy⟩
  have hbt := bst_both l
  obtain ⟨x, hx⟩ : ∃ x, (bstF false l).getD NC = x := ⟨_, rfl⟩
  obtain ⟨y, hy⟩ : ∃ y, (bstF true l).getD NC = y := ⟨_, rfl⟩
  obtain ⟨ok, hok⟩ : ∃ ok, (bstF true l).isSome = ok := ⟨_, rfl⟩
  rw [hbt] at CB RB KB OO
  rw [hx, hok] at CB RB KB
  rw [hy, hok] at CW RW KW
  rw [hx, hy, hok] at OO
  have BS := Lib.hid bits_same
  have hln : Hid (l.length = n) := hlen
  clear hbt hx hy hok R1 R0 R0w hr hl hz ho hg hrun hb1 hlen hc1 hz1
  cases ok
  all_goals
    go_enter Tryd.func4, Tryd.ntmps4
    go_wp2_with (first | (at_builtin; refine wpList_appR 31 31 rfl (.tmp 18) (.tmp 19) rfl _ _ rfl rfl _ _ HRUN.out ?_) | (go_at_call 17; refine (CB.out 0).mono ?_; rintro e w' ⟨rfl, m1, rfl⟩) | (go_at_call 19; refine (CW.out _).mono ?_; rintro e w' ⟨rfl, m3, rfl⟩) | (go_at_call 18; ((with_reducible refine (RB.out _).mono ?_); rintro e w' ⟨rfl, m2, rfl⟩)) | (go_at_call 18; ((with_reducible refine (RW.out _).mono ?_); rintro e w' ⟨rfl, m4, rfl⟩)) | (go_at_call 11; (with_reducible refine (BS.out _ _).mono ?_); rintro r w' ⟨rfl, rfl⟩))
    have H0 : Hid (BkJ w1 (w1.drewN m4) l n (.slice none 0 0)) := ⟨by rw [← hln.out, List.drop_length]; exact OwnF.nil _ _, below_drewN (Below.refl _ _) _⟩
    go_loopw [12, 13] (fun v i wr => ∃ (V : World) (j : Nat), V = wr ∧ j ≤ n ∧ i = .int .i64 ((j : Int) - 1) ∧ Hid (BkJ w1 V l j v)) (fun _ i _ => (intOf i + 1).toNat)
    case atStart => exact ⟨_, n, rfl, Nat.le_refl _, by go_num, H0⟩
    case round =>
      rename_i wr
      obtain ⟨V, j, rfl, hjn, hi, hJ⟩ := hrel
      obtain ⟨A2, c2, hv2, hc2, hz2⟩ := hJ.out.1.slice
      subst hv2
      rcases j with _ | j
      · have hi2 : _ = Value.int .i64 (-1) := hi
        subst hi2
        have hll : (l.drop 0).reverse.length = n := by simp [hln.out]
        rw [hll] at hJ ⊢
        have RV : Hid (RdF V V.heap.size A2 n l.reverse) := by
          have h := hJ.out.1
          rw [← hll] at h
          have h2 := h.rd.1
          rw [hll] at h2
          exact h2
        have HV := Lib.hid hJ.out.2
        clear hJ hi
        go_wp2_with (first | (go_at_call 17; refine (KB.out _ _ _ RV.out).mono ?_; rintro e w' ⟨rfl, m5, rfl⟩) | (go_at_call 19; refine (KW.out _ _ _ _ RV.out).mono ?_; rintro e w' ⟨rfl, m6, rfl⟩) | (go_at_call 11; (with_reducible refine (BS.out _ _).mono ?_); rintro r w' ⟨rfl, rfl⟩) | (go_at_call 14; refine (OO.out (by first | trivial | rfl) _).mono ?_; rintro r w' ⟨z, rfl, rfl, hz⟩) | (go_at_call 16; refine (known_any _).mono ?_; rintro r w5 ⟨rfl, hb⟩; have B5 := Lib.hid hb; clear hb))
        go_ret
        exact ⟨rfl, (below_drewN (HB1.out.trans (HV.out.mono hs1)) _).trans (B5.out.mono (Nat.le_trans hs1 HV.out.size))⟩
      · have hi2 := hi
        rw [show (((j + 1 : Nat) : Int) - 1) = (j : Int) by omega] at hi2
        subst hi2
        obtain ⟨b, off, rfl, hbl, hc⟩ := (HR0.out.below hJ.out.2 (Nat.le_refl _)).2 (by omega)
        obtain ⟨b1, off1, rfl, hbl1, hc1⟩ := (HR1.out.below hJ.out.2 (Nat.le_refl _)).2 (by omega)
        have x1 := hc j (by omega)
        have x2 := hc1 j (by omega)
        have hst := bk_step hJ.out (show j < l.length by have := hln.out; omega) (by have := hln.out; omega)
        have hss : ∃ (vf : Nat → Value) (wf : Nat → World), ∀ q, (Builtin.append_ #[31, 31] 31 #[.slice A2 (l.drop (j + 1)).reverse.length c2, .slice (some ⟨V.heap.size, 0, none⟩) 1 1]).run Tryd.prog ((V.drewN q).alloc (.cells #[.float .f64 (numAt l j)] 22)) = .ok (vf q) (wf q) ∧ BkJ w1 (wf q) l j (vf q) :=
          ⟨fun q => (hst q).choose, fun q => (hst q).choose_spec.choose, fun q => (hst q).choose_spec.choose_spec⟩
        obtain ⟨vf, wf, hss⟩ := hss
        obtain ⟨z, hz⟩ : ∃ z, numAt l j = z := ⟨_, rfl⟩
        rw [hz] at x1 x2
        simp only [hz] at hss
        have HSS := Lib.hid hss
        have BQ : Hid (∀ q, Calls Tryd.prog 11 #[.float .f64 z, .float .f64 z] (V.drewN q) fun e w' => e = .returned (.bool true) ∧ w' = V.drewN q) := fun q => (bits_same z (V.drewN q)).mono fun _ _ ⟨a, b⟩ => ⟨a, b.symm⟩
        obtain ⟨N, hN⟩ : ∃ N, (l.drop (j + 1)).reverse.length = N := ⟨_, rfl⟩
        rw [hN] at HSS ⊢
        have k0 : (0 : Int) ≤ j := by omega
        have k1 : (j : Int) < n := by omega
        have k2 : (j : Int).toNat = j := by omega
        have k3 : j < n := by omega
        clear hc hc1 hst hss hi hJ hz hN hz2 hc2 CB CW RB RW KB KW OO BS HRUN H0 HR1 HR0
        go_wp2
        go_quiet ((go_at_call 11; exact Calls.quiet_of_same (BQ.out _)))
        go_wp2_with (at_builtin; refine wpList_appR 31 31 rfl (.tmp 78) (.tmp 83) rfl _ _ rfl rfl _ _ (HSS.out _).1 ?_)
        go_roundw
        case rel => exact ⟨_, j, rfl, by omega, by go_num, (HSS.out _).2⟩
        case measure => simp [intOf] <;> omega
end Go.Proofs.YtplmflgmfffdhaaDoor
