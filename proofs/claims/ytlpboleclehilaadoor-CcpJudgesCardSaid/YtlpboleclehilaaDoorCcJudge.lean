/-
  ccp.Judge of anything: the walk.
-/
import Derived.Test.YtlpboleclehilaaDoorCcRound
namespace Go.Proofs.YtlpboleclehilaaDoor
open Go.RowKit
set_option maxRecDepth 100000
set_option maxHeartbeats 8000000
set_option linter.unusedSimpArgs false
set_option linter.unusedVariables false

theorem infoC : (Tryd.prog.info? 25).map (·.size) = some 33 := by kernel_rfl
theorem step_confC {ops : Array Oper} {rest : List Oper} {o : Oper} {a : Act} {w : World} {Q : Exit → Act → World → Prop} (x : Operand) (g : Nat) (cv : Array Value) (hg : w.heap[g]? = some (.cells cv 25 (0, 0))) (hi : (Tryd.prog.info? 25).map (·.size) = some cv.size)
    (h : wpList Tryd.prog ops Q rest (a.put o.dst (.agg cv)) w) (hgd : o.guard = none) (ho : o.op = .load 25 x) (hx : a.eval x = .pointer (some ⟨g, 0, none⟩)) : wpList Tryd.prog ops Q (o :: rest) a w :=
  wpList_load_row hgd 25 x ho g hx 25 cv (0, 0) _ hg Tryd.underlying25 rfl hi h
/-- the state behind k options -/
def CK (w V : World) (x : CC) (cv : Array Value) (D B : Int) (s : List Opt) (k : Nat) (a b c : Value) (R S N : List Opt) : Prop :=
  CJ w V x cv (if metK 26 s k = true then 0 else D) (if metK 21 s k = true then 0 else B) a b c R S N ∧ R = pickC (rfC D B s) s k ∧ S = pickC (stC D B s) s k ∧ N = S.map (turnO D B)
theorem most_at (D B : Int) (s : List Opt) (k : Nat) (K : Int) : tkV (if metK 26 s k = true then 0 else D) (if metK 21 s k = true then 0 else B) K = if metK K s k = true then 0 else cK D B K := by
  unfold tkV cK
  by_cases h26 : K = 26
  · subst h26; rfl
  · rw [if_neg h26, if_neg h26]
    by_cases h21 : K = 21
    · subst h21; rfl
    · rw [if_neg h21, if_neg h21]
      split <;> rfl
theorem left26 (D : Int) (s : List Opt) (k : Nat) (h : k < s.length) : tkD (if metK 26 s k = true then 0 else D) s[k].1 = if metK 26 s (k + 1) = true then 0 else D := by
  rw [metK_step 26 s k h]
  unfold tkD
  by_cases h26 : s[k].1 = 26
  · rw [if_pos h26, h26]
    simp
  · rw [if_neg h26]
    have : (s[k].1 == 26) = false := by simpa using h26
    rw [this, Bool.or_false]
theorem left21 (B : Int) (s : List Opt) (k : Nat) (h : k < s.length) : tkB (if metK 21 s k = true then 0 else B) s[k].1 = if metK 21 s (k + 1) = true then 0 else B := by
  rw [metK_step 21 s k h]
  unfold tkB
  by_cases h26 : s[k].1 = 21
  · rw [if_pos h26, h26]
    simp
  · rw [if_neg h26]
    have : (s[k].1 == 21) = false := by simpa using h26
    rw [this, Bool.or_false]
theorem getD_atC {s : List Opt} {i : Nat} (h : i < s.length) : s.getD i (0, []) = s[i] := by
  rw [List.getD_eq_getElem?_getD, List.getElem?_eq_getElem h]
  rfl
theorem rfC_at (D B : Int) (s : List Opt) (k : Nat) (h : k < s.length) : rfC D B s k = ((if metK s[k].1 s k = true then 0 else cK D B s[k].1) == 0 || !(s[k].2.length == szK s[k].1)) := by
  unfold rfC
  rw [getD_atC h]
theorem stC_at (D B : Int) (s : List Opt) (k : Nat) (h : k < s.length) : stC D B s k = (!rfC D B s k && (says s[k].1 s[k].2 == 0 || decide (cK D B s[k].1 < says s[k].1 s[k].2))) := by
  unfold stC
  rw [getD_atC h]
def JcPost (w : World) (mf D B : Int) (s : List Opt) (naks : Int) (e : Ending) (w' : World) : Prop :=
  ∃ A n c k L, e = .returned (.tuple #[.int .i64 k, .slice A n c]) ∧ (k, L) = jdC mf D B s naks ∧ n = L.length ∧ OwnL w' w.heap.size (.slice A n c) L ∧ Below w.heap.size w w'
theorem judge_ccp (cv : Array Value) (D B mf : Int) (A : Option Addr) (n c Bb : Nat) (s : List Opt) (naks : Int) (w : World) (hcf : ConfC cv D B mf) (hr0 : OptRd w Bb A n s) (hBb : Bb ≤ w.heap.size) (hn : n ≤ 4398046511103) :
    Calls Tryd.prog 7 #[.agg cv, .slice A n c, .int .i64 naks] w fun e w' => JcPost w mf D B s naks e w' := by
  have hr := hr0.wide hBb
  have hlen := hr.1
  obtain ⟨W1, hW1⟩ : ∃ W1, w.alloc (.cells cv 25) = W1 := ⟨_, rfl⟩
  have kc : Blk W1 w.heap.size 25 cv.toList := by
    rw [← hW1]
    have h := blk_new w 25 cv.toList
    unfold Blk at h ⊢
    simpa using h
  have B1 : Below w.heap.size w W1 := by rw [← hW1]; exact (Below.refl _ _).alloc (Nat.le_refl _) _
  have s1 : W1.heap.size = w.heap.size + 1 := by rw [← hW1]; simp
  have WT : Hid (Calls Tryd.prog 19 #[.agg cv] W1 fun e w2 => e = .returned (.agg #[.int .i64 D, .int .i64 B]) ∧ ∃ W3, Hid (w2.alloc (.cells #[.int .i64 D, .int .i64 B] 27) = W3) ∧ Hid ((⟨w.heap.size, w2.heap.size, w2.heap.size + 1⟩ : CC).ok w.heap.size ∧ CK w W3 ⟨w.heap.size, w2.heap.size, w2.heap.size + 1⟩ cv D B s 0 (.slice none 0 0) (.slice none 0 0) (.slice none 0 0) [] [] [])) := by
    refine (want_ccp cv D B mf W1 hcf).mono ?_
    rintro e w2 ⟨rfl, hb2⟩
    have s2 := hb2.size
    obtain ⟨W3, hW3⟩ : ∃ W3, w2.alloc (.cells #[.int .i64 D, .int .i64 B] 27) = W3 := ⟨_, rfl⟩
    have kl : Blk W3 w2.heap.size 27 (optC D B) := by rw [← hW3]; exact blk_new w2 _ _
    have B3 : Below w2.heap.size w2 W3 := by rw [← hW3]; exact (Below.refl _ _).alloc (Nat.le_refl _) _
    have s3 : W3.heap.size = w2.heap.size + 1 := by rw [← hW3]; simp
    refine ⟨rfl, W3, Lib.hid hW3, Lib.hid ⟨⟨⟨Nat.le_refl _, by show w.heap.size ≤ w2.heap.size; omega⟩, ⟨by show w.heap.size < w2.heap.size + 1; omega, by show w2.heap.size < w2.heap.size + 1; omega⟩, by show w.heap.size ≠ w2.heap.size; omega⟩, ⟨⟨?_, kl⟩, ⟨OwnR.nil _ _ _, OwnR.nil _ _ _, OwnL.nil _ _⟩, ⟨.inl rfl, .inl rfl, .inl rfl, .inl rfl, .inl rfl, .inl rfl⟩, ?_, ?_⟩, rfl, rfl, rfl⟩⟩
    · exact (B3.block _ (by show w.heap.size < w2.heap.size; omega)).trans ((hb2.block _ (by show w.heap.size < W1.heap.size; omega)).trans kc)
    · exact B1.trans ((hb2.mono (by omega)).trans (B3.mono (by omega)))
    · show w2.heap.size + 1 ≤ _; omega
  have HW := Lib.hid hW1
  have HR := Lib.hid hr
  have HCF := Lib.hid hcf
  have HRow : Hid (W1.heap[w.heap.size]? = some (.cells cv 25 (0, 0))) := by
    show _ = _
    unfold Blk at kc
    simpa using kc
  have IC : Hid ((Tryd.prog.info? 25).map (·.size) = some cv.size) := by show _ = _; rw [hcf.1]; exact infoC
  clear hW1 kc B1 s1 hr hcf hr0
  go_enter Tryd.func7, Tryd.ntmps7
  go_upto_region 1 with (fail)
  rw [HW.out]
  clear HW
  go_step3
  go_wp2_with (first
    | ((with_reducible refine step_confC (.tmp 3) w.heap.size cv HRow.out IC.out ?_ rfl rfl ?_); rotate_left; rfl)
    | (go_at_call 19; ((with_reducible refine WT.out.mono ?_); rintro e w2 ⟨rfl, W3, HW3, H0⟩))
    | (rw [HW3.out]))
  go_step3
  go_wp2
  have HX := Lib.hid H0.out.1
  have H1 := Lib.hid H0.out.2
  clear H0 WT HW3
  go_loopw [9, 10, 11, 20] (fun a b c i wr => ∃ (V : World) (k : Nat) (R S N : List Opt), V = wr ∧ k ≤ n ∧ i = .int .i64 k ∧ (∃ A1 d1, a = .slice A1 R.length d1) ∧ (∃ A1 d1, b = .slice A1 S.length d1) ∧ (∃ A1 d1, c = .slice A1 N.length d1) ∧ Hid (CK w V ⟨w.heap.size, w2.heap.size, w2.heap.size + 1⟩ cv D B s k a b c R S N)) (fun _ _ _ i _ => n - (intOf i).toNat)
  case atStart => exact ⟨_, 0, [], [], [], rfl, Nat.zero_le _, rfl, ⟨none, 0, rfl⟩, ⟨none, 0, rfl⟩, ⟨none, 0, rfl⟩, H1.out⟩
  case round =>
    obtain ⟨V, k, R, S, N, rfl, hkn, rfl, ⟨A1, d1, rfl⟩, ⟨A2, d2, rfl⟩, ⟨A3, d3, rfl⟩, hJ⟩ := hrel
    obtain ⟨hJJ, hR, hS, hN⟩ := hJ.out
    have hBw := hJJ.2.2.2.1
    have sV := hBw.size
    by_cases hlt : k < n
    · obtain ⟨b, off, rfl, hbl, hc⟩ := HR.out.2 (by omega)
      obtain ⟨x1, E, kk, d, x2, hRd, hE, hkc, hkb⟩ := hc k (by omega)
      have hks : k < s.length := by omega
      have hRl : R.length ≤ k := by rw [hR]; exact pickC_len _ _ _
      have hSl : S.length ≤ k := by rw [hS]; exact pickC_len _ _ _
      have hNl : N.length ≤ k := by rw [hN, List.length_map]; exact hSl
      have hrf := rfC_at D B s k hks
      have hst := stC_at D B s k hks
      have hl26 := left26 D s k hks
      have hl21 := left21 B s k hks
      have hpR := pickC_step (rfC D B s) s k hks
      have hpS := pickC_step (stC D B s) s k hks
      rw [← hR] at hpR
      rw [← hS] at hpS
      obtain ⟨y, hy⟩ : ∃ y, s[k]'(by omega) = y := ⟨_, rfl⟩
      rw [hy] at x1 hRd hrf hst hl26 hl21 hpR hpS
      obtain ⟨K, l⟩ := y
      have hll : l.length = kk := hRd.1
      have v1 : V.cell? ⟨b, off + k * 2, none⟩ = some (.int .i64 K) := (hBw.cell hbl).trans x1
      have v2 : V.cell? ⟨b, off + k * 2 + 1, none⟩ = some (.slice E kk d) := (hBw.cell hbl).trans x2
      have hbV : b < V.heap.size := by omega
      have HRD := c_round hJJ HX.out K E kk d l hRd hE hkc hkb (by omega) (by omega) (by omega)
      unfold CRound at HRD
      dsimp only at HRD hrf hst hl26 hl21
      rw [most_at D B s k K, hl26, hl21] at HRD
      obtain ⟨M, hM⟩ : ∃ M, (if metK K s k = true then 0 else cK D B K) = M := ⟨_, rfl⟩
      rw [hM] at HRD hrf
      rw [hll] at hrf
      have hMc : M ≠ 0 → M = cK D B K := by
        intro h0
        rw [← hM] at h0 ⊢
        split
        · rename_i e
          rw [if_pos e] at h0
          exact absurd rfl h0
        · rfl
      have HRD := Lib.hid HRD
      have HNX : Hid (∀ (a b c : Value) (W : World), rfC D B s k = true → CJ w W ⟨w.heap.size, w2.heap.size, w2.heap.size + 1⟩ cv (if metK 26 s (k + 1) = true then 0 else D) (if metK 21 s (k + 1) = true then 0 else B) a b c (R ++ [(K, l)]) S N → CK w W ⟨w.heap.size, w2.heap.size, w2.heap.size + 1⟩ cv D B s (k + 1) a b c (R ++ [(K, l)]) S N) := by
        intro a b c W hrt hcj
        have hs0 : stC D B s k = false := by rw [hst, hrt]; rfl
        refine ⟨hcj, ?_, ?_, hN⟩
        · rw [hpR, if_pos hrt]
        · rw [hpS, if_neg (by rw [hs0]; simp)]; simp
      have HNY : Hid (∀ (a b c : Value) (W : World), stC D B s k = true → CJ w W ⟨w.heap.size, w2.heap.size, w2.heap.size + 1⟩ cv (if metK 26 s (k + 1) = true then 0 else D) (if metK 21 s (k + 1) = true then 0 else B) a b c R (S ++ [(K, l)]) (N ++ [(K, dat K (cK D B K))]) → CK w W ⟨w.heap.size, w2.heap.size, w2.heap.size + 1⟩ cv D B s (k + 1) a b c R (S ++ [(K, l)]) (N ++ [(K, dat K (cK D B K))])) := by
        intro a b c W hsx hcj
        have hr0 : rfC D B s k = false := by
          rw [hst] at hsx
          rcases hq : rfC D B s k with _ | _
          · rfl
          · rw [hq] at hsx; simp at hsx
        refine ⟨hcj, ?_, ?_, ?_⟩
        · rw [hpR, if_neg (by rw [hr0]; simp)]; simp
        · rw [hpS, if_pos hsx]
        · rw [hN, List.map_append]; rfl
      have HNZ : Hid (∀ (a b c : Value) (W : World), rfC D B s k = false → stC D B s k = false → CJ w W ⟨w.heap.size, w2.heap.size, w2.heap.size + 1⟩ cv (if metK 26 s (k + 1) = true then 0 else D) (if metK 21 s (k + 1) = true then 0 else B) a b c R S N → CK w W ⟨w.heap.size, w2.heap.size, w2.heap.size + 1⟩ cv D B s (k + 1) a b c R S N) := by
        intro a b c W hr0 hs0 hcj
        refine ⟨hcj, ?_, ?_, hN⟩
        · rw [hpR, if_neg (by rw [hr0]; simp)]; simp
        · rw [hpS, if_neg (by rw [hs0]; simp)]; simp
      have HRF := Lib.hid hrf
      have HST := Lib.hid hst
      have HMC := Lib.hid hMc
      have LR := Lib.hid (show (R ++ [(K, l)]).length = R.length + 1 by simp)
      clear hc hy x1 x2 hRd hE hkc hkb hrf hst hl26 hl21 hpR hpS hR hS hN hM hMc hJJ hJ hBw
      by_cases hM0 : M = 0
      · have hrt : rfC D B s k = true := by rw [HRF.out, hM0]; rfl
        have HN := Lib.hid (fun a b c W => HNX.out a b c W hrt)
        subst hM0
        clear HNX HNY HNZ HRF HST HMC hrt
        go_upto_region 7 with (go_at_call 26; ((with_reducible refine HRD.out.mono ?_); rintro e V2 ⟨rfl, ⟨z0, z1⟩, HCR, -⟩))
        go_quiet (fail)
        obtain ⟨⟨y0, y1⟩, A4, n4, d4, w5, HRN, hn4, HJN⟩ := HCR.out nq
        have HN4 := Lib.hid hn4
        clear HCR hn4 z0 z1
        go_wp2_with (at_builtin; refine wpList_appO 28 28 rfl (.tmp 38) (.tmp 40) rfl _ _ rfl rfl _ _ HRN.out ?_)
        go_roundw
        case rel => exact ⟨_, k + 1, _, S, N, rfl, by omega, by go_num, ⟨A4, d4, by rw [← HN4.out]⟩, ⟨_, _, rfl⟩, ⟨_, _, rfl⟩, HN.out _ _ _ _ HJN.out⟩
        case measure => simp [intOf]; omega
      · have eM : (M == 0) = false := by simpa using hM0
        have hMK := HMC.out hM0
        have HMK := Lib.hid hMK
        by_cases hsz : kk = szK K
        · have esz : ((kk : Int) != ((szK K : Nat) : Int)) = false := by rw [hsz]; simp
          have hrf : rfC D B s k = false := by
            rw [HRF.out, eM, hsz]
            simp
          have hstt : stC D B s k = (says K l == 0 || decide (M < says K l)) := by
            rw [HST.out, hrf, hMK]
            rfl
          obtain ⟨q, hq⟩ : ∃ q, szK K = q := ⟨_, rfl⟩
          obtain ⟨X, hX⟩ : ∃ X, says K l = X := ⟨_, rfl⟩
          rw [hq] at esz HRD
          rw [hX] at hstt HRD
          have HSTT := Lib.hid hstt
          have HRF0 := Lib.hid hrf
          clear HNX HRF HST HMC hrf hstt hq hX hsz hM0 hMK
          by_cases hX0 : X = 0
          · have eX : (X == 0) = true := by simpa using hX0
            have HN : Hid (∀ (a b c : Value) (W : World), CJ w W ⟨w.heap.size, w2.heap.size, w2.heap.size + 1⟩ cv (if metK 26 s (k + 1) = true then 0 else D) (if metK 21 s (k + 1) = true then 0 else B) a b c R (S ++ [(K, l)]) (N ++ [(K, dat K M)]) → CK w W ⟨w.heap.size, w2.heap.size, w2.heap.size + 1⟩ cv D B s (k + 1) a b c R (S ++ [(K, l)]) (N ++ [(K, dat K M)])) := by
              intro a b c W h
              rw [HMK.out] at h ⊢
              exact HNY.out a b c W (by rw [HSTT.out, eX]; rfl) h
            clear HNY HNZ HSTT HRF0 hX0 HMK
            go_upto_region 7 with (go_at_call 26; ((with_reducible refine HRD.out.mono ?_); rintro e V2 ⟨rfl, ⟨z0, z1⟩, -, HSZ⟩))
            go_region_held3 (fun w' => w'.cell? ⟨V.heap.size, 0, none⟩ = some (.int .i64 K) ∧ w'.cell? ⟨V.heap.size, 1, none⟩ = some (.slice E kk d)) (go_keep) ((go_at_call 27; ((with_reducible refine HSZ.out.mono ?_); rintro e V3 ⟨rfl, ⟨y0, y1⟩, -, HAS⟩)))
            all_goals
              go_wp2_with (first
                | (go_at_call 28; ((with_reducible refine HAS.out.mono ?_); rintro e V4 ⟨rfl, ⟨g0, g1⟩, -, HOT⟩; obtain ⟨A4, n4, d4, w5, HRN, hn4, g2, HOP⟩ := HOT.out; have HN4 := Lib.hid hn4; clear hn4 HOT))
                | (go_at_call 29; ((with_reducible refine HOP.out.mono ?_); rintro e V6 ⟨g, p, rfl, A6, n6, d6, w7, HRN2, hn6, HJN⟩; have HN6 := Lib.hid hn6; clear hn6))
                | (at_builtin; refine wpList_appO 28 28 rfl (.tmp 51) (.tmp 53) rfl _ _ rfl rfl _ _ HRN.out ?_)
                | (at_builtin; refine wpList_appO 28 28 rfl (.tmp 55) (.tmp 60) rfl _ _ rfl rfl _ _ HRN2.out ?_))
              go_roundw
              case rel => exact ⟨_, k + 1, R, _, _, rfl, by omega, by go_num, ⟨_, _, rfl⟩, ⟨A4, d4, by rw [← HN4.out]⟩, ⟨A6, d6, by rw [← HN6.out]⟩, HN.out _ _ _ _ HJN.out⟩
              case measure => simp [intOf]; omega
          · have eX : (X == 0) = false := by simpa using hX0
            by_cases hXM : M < X
            · have dX : decide (M < X) = true := decide_eq_true hXM
              have HN : Hid (∀ (a b c : Value) (W : World), CJ w W ⟨w.heap.size, w2.heap.size, w2.heap.size + 1⟩ cv (if metK 26 s (k + 1) = true then 0 else D) (if metK 21 s (k + 1) = true then 0 else B) a b c R (S ++ [(K, l)]) (N ++ [(K, dat K M)]) → CK w W ⟨w.heap.size, w2.heap.size, w2.heap.size + 1⟩ cv D B s (k + 1) a b c R (S ++ [(K, l)]) (N ++ [(K, dat K M)])) := by
                intro a b c W h
                rw [HMK.out] at h ⊢
                exact HNY.out a b c W (by rw [HSTT.out, eX, dX]; rfl) h
              clear HNY HNZ HSTT HRF0 hX0 HMK dX
              go_upto_region 7 with (go_at_call 26; ((with_reducible refine HRD.out.mono ?_); rintro e V2 ⟨rfl, ⟨z0, z1⟩, -, HSZ⟩))
              go_region_held3 (fun w' => w'.cell? ⟨V.heap.size, 0, none⟩ = some (.int .i64 K) ∧ w'.cell? ⟨V.heap.size, 1, none⟩ = some (.slice E kk d)) (go_keep) ((go_at_call 27; ((with_reducible refine HSZ.out.mono ?_); rintro e V3 ⟨rfl, ⟨y0, y1⟩, -, HAS⟩)))
              all_goals
                go_wp2_with (first
                  | (go_at_call 28; ((with_reducible refine HAS.out.mono ?_); rintro e V4 ⟨rfl, ⟨g0, g1⟩, -, HOT⟩; obtain ⟨A4, n4, d4, w5, HRN, hn4, g2, HOP⟩ := HOT.out; have HN4 := Lib.hid hn4; clear hn4 HOT))
                  | (go_at_call 29; ((with_reducible refine HOP.out.mono ?_); rintro e V6 ⟨g, p, rfl, A6, n6, d6, w7, HRN2, hn6, HJN⟩; have HN6 := Lib.hid hn6; clear hn6))
                  | (at_builtin; refine wpList_appO 28 28 rfl (.tmp 51) (.tmp 53) rfl _ _ rfl rfl _ _ HRN.out ?_)
                  | (at_builtin; refine wpList_appO 28 28 rfl (.tmp 55) (.tmp 60) rfl _ _ rfl rfl _ _ HRN2.out ?_))
                go_roundw
                case rel => exact ⟨_, k + 1, R, _, _, rfl, by omega, by go_num, ⟨_, _, rfl⟩, ⟨A4, d4, by rw [← HN4.out]⟩, ⟨A6, d6, by rw [← HN6.out]⟩, HN.out _ _ _ _ HJN.out⟩
                case measure => simp [intOf]; omega
            · have dX : decide (M < X) = false := decide_eq_false hXM
              have HN := Lib.hid (fun a b c W => HNZ.out a b c W HRF0.out (by rw [HSTT.out, eX, dX]; rfl))
              clear HNY HNZ HSTT HRF0 hX0 HMK dX
              go_upto_region 7 with (go_at_call 26; ((with_reducible refine HRD.out.mono ?_); rintro e V2 ⟨rfl, ⟨z0, z1⟩, -, HSZ⟩))
              go_region_held3 (fun w' => w'.cell? ⟨V.heap.size, 0, none⟩ = some (.int .i64 K) ∧ w'.cell? ⟨V.heap.size, 1, none⟩ = some (.slice E kk d)) (go_keep) ((go_at_call 27; ((with_reducible refine HSZ.out.mono ?_); rintro e V3 ⟨rfl, ⟨y0, y1⟩, -, HAS⟩)))
              all_goals
                go_wp2_with (go_at_call 28; ((with_reducible refine HAS.out.mono ?_); rintro e V4 ⟨rfl, ⟨g0, g1⟩, HJN, -⟩))
                go_roundw
                case rel => exact ⟨_, k + 1, R, S, N, rfl, by omega, by go_num, ⟨_, _, rfl⟩, ⟨_, _, rfl⟩, ⟨_, _, rfl⟩, HN.out _ _ _ _ HJN.out⟩
                case measure => simp [intOf]; omega
        · have esz : ((kk : Int) != ((szK K : Nat) : Int)) = true := by simp; omega
          have hrf : rfC D B s k = true := by
            rw [HRF.out, eM]
            simp
            exact hsz
          have HN := Lib.hid (fun a b c W => HNX.out a b c W hrf)
          obtain ⟨q, hq⟩ : ∃ q, szK K = q := ⟨_, rfl⟩
          rw [hq] at esz HRD
          clear HNX HNY HNZ HRF HST HMC HMK hrf hq hsz hM0 hMK
          go_upto_region 7 with (go_at_call 26; ((with_reducible refine HRD.out.mono ?_); rintro e V2 ⟨rfl, ⟨z0, z1⟩, -, HSZ⟩))
          go_region_held3 (fun w' => w'.cell? ⟨V.heap.size, 0, none⟩ = some (.int .i64 K) ∧ w'.cell? ⟨V.heap.size, 1, none⟩ = some (.slice E kk d)) (go_keep) ((go_at_call 27; ((with_reducible refine HSZ.out.mono ?_); rintro e V3 ⟨rfl, ⟨y0, y1⟩, HCR, -⟩)))
          all_goals
            obtain ⟨-, A4, n4, d4, w5, HRN, hn4, HJN⟩ := HCR.out
            have HN4 := Lib.hid hn4
            clear HCR hn4
            go_wp2_with (at_builtin; refine wpList_appO 28 28 rfl (.tmp 38) (.tmp 40) rfl _ _ rfl rfl _ _ HRN.out ?_)
            go_roundw
            case rel => exact ⟨_, k + 1, _, S, N, rfl, by omega, by go_num, ⟨A4, d4, by rw [← HN4.out]⟩, ⟨_, _, rfl⟩, ⟨_, _, rfl⟩, HN.out _ _ _ _ HJN.out⟩
            case measure => simp [intOf]; omega
    · have hke : k = n := by omega
      subst hke
      have hRe : R = rfCL D B s := by rw [hR, ← hlen]; rfl
      have hSe : S = stCL D B s := by rw [hS, ← hlen]; rfl
      have hl2 : S.length = N.length := by rw [hN, List.length_map]
      have hcx : (⟨w.heap.size, w2.heap.size, w2.heap.size + 1⟩ : CC).base = w2.heap.size + 1 := rfl
      have hwb : w.heap.size ≤ w2.heap.size + 1 := by have := HX.out.1.2; have h2 : w.heap.size ≤ w2.heap.size := this; omega
      have cf := hJJ.1.1
      obtain ⟨r1, r2, r3⟩ := hJJ.2.1
      obtain ⟨A4, d4, e4, rd1, _⟩ := r1.rd sV
      injection e4 with e6 _ e8
      subst e6 e8
      obtain ⟨A4, d4, e4, rd2, _⟩ := r2.rd sV
      injection e4 with e6 _ e8
      subst e6 e8
      have c21 : V.cell? ⟨w.heap.size, 21, none⟩ = some (.int .i64 mf) := by
        have h21 := HCF.out.2.2.2
        have := cf.cell 21
        dsimp only at this
        rw [this, Array.getElem?_toList]
        exact h21
      have fin : ∀ (V' W' : World) (F : Option Addr) (q f : Nat) (t : List Opt), Below w.heap.size w V' → OwnL W' V'.heap.size (.slice F q f) t → Below V'.heap.size V' W' → OwnL W' w.heap.size (.slice F q f) t ∧ Below w.heap.size w W' := fun V' W' F q f t h1 h2 h3 => ⟨h2.base_le h1.size, h1.trans (h3.mono h1.size)⟩
      have FIN := Lib.hid fin
      have HBW := Lib.hid hBw
      clear fin
      by_cases hRn : R = []
      · by_cases hNn : N = []
        · have hSn : S = [] := List.eq_nil_of_length_eq_zero (by rw [hl2, hNn]; rfl)
          have HJ2 : Hid (jdC mf D B s naks = (2, s)) := by
            show _ = _
            unfold jdC
            rw [← hRe, ← hSe, hRn, hSn]
            simp
          have CL := Lib.hid (ccpclone_any A k c w.heap.size s V (HR.out.below hBw (Nat.le_refl _)) sV hn)
          subst hRn hNn
          clear hJJ hJ r1 r2 r3 rd1 rd2 hBw hRe hSe hR hS hN hl2 cf hSn
          go_wp2_with (go_at_call 30; ((with_reducible refine CL.out.mono ?_); rintro e w9 ⟨F, f, rfl, ho, hb⟩; have HO := Lib.hid (FIN.out _ _ _ _ _ _ HBW.out ho hb); clear ho hb))
          go_ret2
          exact ⟨F, k, f, 2, s, rfl, HJ2.out.symm, hlen.symm, HO.out.1, HO.out.2⟩
        · have n0 : (0 : Int) < (N.length : Int) := by
            rcases N with _ | ⟨y, N⟩
            · exact absurd rfl hNn
            · simp
          have hSn : S ≠ [] := fun e => hNn (List.eq_nil_of_length_eq_zero (by rw [← hl2, e]; rfl))
          by_cases hna : naks < mf
          · have HJ2 : Hid (jdC mf D B s naks = (3, N)) := by
              show _ = _
              unfold jdC
              rw [← hRe, ← hSe, hRn, hN]
              simp [hSn, hna]
            have HO := Lib.hid (And.intro (r3.base_le hwb) hBw)
            obtain ⟨q, hq⟩ : ∃ q, N.length = q := ⟨_, rfl⟩
            have HQ := Lib.hid hq
            rw [hq] at n0 HO ⊢
            subst hRn
            clear hJJ hJ r1 r2 r3 rd1 rd2 hBw hNn hq cf hRe hSe hR hS hN hl2 hSn
            go_wp2
            go_ret2
            exact ⟨_, _, _, 3, N, rfl, HJ2.out.symm, HQ.out.symm, HO.out.1, HO.out.2⟩
          · have HJ2 : Hid (jdC mf D B s naks = (4, S)) := by
              show _ = _
              unfold jdC
              rw [← hRe, ← hSe, hRn]
              simp [hSn, hna]
            have hSk : S.length ≤ k := by rw [hS]; exact pickC_len _ _ _
            have CL := Lib.hid (ccpclone_any A2 S.length d2 V.heap.size S V rd2 (Nat.le_refl _) (by omega))
            obtain ⟨q, hq⟩ : ∃ q, N.length = q := ⟨_, rfl⟩
            obtain ⟨u, hu⟩ : ∃ u, S.length = u := ⟨_, rfl⟩
            have HU := Lib.hid hu
            rw [hq] at n0 ⊢
            rw [hu] at CL ⊢
            subst hRn
            clear hJJ hJ r1 r2 r3 rd1 rd2 hBw hNn hq hu cf hRe hSe hR hS hN hl2 hSn hSk
            go_wp2_with (go_at_call 30; ((with_reducible refine CL.out.mono ?_); rintro e w9 ⟨F, f, rfl, ho, hb⟩; have HO := Lib.hid (FIN.out _ _ _ _ _ _ HBW.out ho hb); clear ho hb))
            go_ret2
            exact ⟨F, u, f, 4, S, rfl, HJ2.out.symm, HU.out.symm, HO.out.1, HO.out.2⟩
      · have n0 : (0 : Int) < (R.length : Int) := by
          rcases R with _ | ⟨y, R⟩
          · exact absurd rfl hRn
          · simp
        have HJ2 : Hid (jdC mf D B s naks = (4, R)) := by
          show _ = _
          unfold jdC
          rw [← hRe, if_pos hRn]
        have hRk : R.length ≤ k := by rw [hR]; exact pickC_len _ _ _
        have CL := Lib.hid (ccpclone_any A1 R.length d1 V.heap.size R V rd1 (Nat.le_refl _) (by omega))
        obtain ⟨u, hu⟩ : ∃ u, R.length = u := ⟨_, rfl⟩
        have HU := Lib.hid hu
        rw [hu] at n0 CL ⊢
        clear hJJ hJ r1 r2 r3 rd1 rd2 hBw hRn hu cf hRe hSe hR hS hN hl2 hRk
        go_wp2_with (go_at_call 30; ((with_reducible refine CL.out.mono ?_); rintro e w9 ⟨F, f, rfl, ho, hb⟩; have HO := Lib.hid (FIN.out _ _ _ _ _ _ HBW.out ho hb); clear ho hb))
        go_ret2
        exact ⟨F, u, f, 4, R, rfl, HJ2.out.symm, HU.out.symm, HO.out.1, HO.out.2⟩
end Go.Proofs.YtlpboleclehilaaDoor
