/-
  tetherref17.Judge.
-/
import Derived.Test.YtciijnhagdfpiaaI6Judge
import Derived.Test.YtciijnhagdfpiaaOLent
import Derived.Deep.CutRange
namespace Go.Proofs.Ytciijnhagdfpiaa
open Go.RowKit
set_option maxRecDepth 100000
set_option maxHeartbeats 4000000
set_option linter.unusedSimpArgs false
set_option linter.unusedVariables false

theorem rf_few {mine : Int} {s : List Opt} (h : rfL mine s = []) : s.length ≤ 1 := by
  rcases Nat.lt_or_ge 1 s.length with h2 | h2
  · have a := pick_nil h 0 (by omega)
    have b := pick_nil h 1 (by omega)
    unfold rfQ at a b
    have a1 := (not_refused a).2
    have b1 := (not_refused b).1
    rw [getD_at (by omega)] at a1
    unfold rgt at a1
    rw [mR_step s 0 (by omega)] at b1
    simp only [Bool.and_eq_true] at a1
    rw [a1.1] at b1
    simp at b1
  · exact h2
theorem tk_one {mine : Int} {o : Opt} : tkL mine [o] = if tkB mine o = true then [o] else [] := by
  show pick _ _ 1 = _
  rw [pick]
  have h : tkQ mine [o] 0 = tkB mine o := rfl
  rw [h]
  cases tkB mine o <;> rfl
def okQ (mine : Int) (o : Opt) : Bool := rgt o && (!(num o.2 8 == 0) || !(mine == 0))
theorem ok_not (mine : Int) (s : List Opt) (i : Nat) (h : i < s.length) : (okQ mine s[i] && !mR s i) = !rfQ mine s i := by
  unfold rfQ okQ rfB
  rw [getD_at h]
  cases rgt s[i] <;> cases mR s i <;> cases (num s[i].2 8 == 0) <;> cases (mine == 0) <;> rfl
theorem mR_more (s : List Opt) (k : Nat) (h : k < s.length) (b : Bool) : (b && !mR s (k + 1)) = ((b && !mR s k) && (s[k].1 != 1)) := by
  rw [mR_step s k h]
  cases b <;> cases mR s k <;> simp [bne]
def RjJ (w V : World) (z B : Nat) (mine : Int) (s : List Opt) (k : Nat) (v : Value) : Prop := OwnR V z B v (pick (rfQ mine s) s k) ∧ Below w.heap.size w V
theorem rjudge_loop (cv : Array Value) (id mf mine : Int) (A : Option Addr) (n c B : Nat) (s : List Opt) (naks draw : Int) (w : World) (hc : ConfI cv id mf) (hd : In64 draw) (hr : OptRd w B A n s) (hB : B ≤ w.heap.size) (hn : n ≤ 4398046511103) :
    Calls Try.prog 18 #[.agg cv, .int .u64 mine, .slice A n c, .int .i64 naks, .int .u64 draw] w fun e w' => ∃ F m d k L, e = .returned (.tuple #[.int .i64 k, .slice F m d]) ∧ (k, L) = jd6 mf mine s naks draw ∧ m = L.length ∧ OwnL w' w.heap.size (.slice F m d) L ∧ Below w.heap.size w w' := by
  obtain rfl := hr.1
  obtain ⟨W1, hW1⟩ : ∃ W1, w.alloc (.cells cv 26) = W1 := ⟨_, rfl⟩
  have k1 : Blk W1 w.heap.size 26 cv.toList := by rw [← hW1]; exact blk_new w _ _
  have B1 : Below w.heap.size w W1 := by rw [← hW1]; exact (Below.refl _ _).alloc (Nat.le_refl _) _
  have s1 : W1.heap.size = w.heap.size + 1 := by rw [← hW1]; simp
  have HR := Lib.hid hr
  have HK := Lib.hid k1
  have HD := Lib.hid hd
  have HCF := Lib.hid hc
  have H0 : Hid (RjJ w W1 W1.heap.size B mine s 0 (.slice none 0 0) ∧ Below W1.heap.size W1 W1) := ⟨⟨OwnR.nil _ _ _, B1⟩, Below.refl _ _⟩
  have HW := Lib.hid hW1
  have HB1 := Lib.hid B1
  clear hr k1 hc hd hW1 B1
  go_enter Try.func18, Try.ntmps18
  go_upto_region 1 with (fail)
  rw [HW.out]
  clear HW
  go_wp2
  go_loopw [12, 13] (fun v i wr => ∃ (V : World) (k : Nat), V = wr ∧ k ≤ s.length ∧ i = .int .i64 k ∧ Hid (RjJ w V W1.heap.size B mine s k v ∧ Below W1.heap.size W1 V)) (fun _ i _ => s.length - (intOf i).toNat)
  case atStart => exact ⟨_, 0, rfl, Nat.zero_le _, rfl, H0⟩
  case round =>
    rename_i wr
    obtain ⟨V, k, rfl, hkn, rfl, hJ⟩ := hrel
    by_cases hlt : k < s.length
    · obtain ⟨b, off, rfl, hbl, hcc⟩ := HR.out.2 (by omega)
      obtain ⟨c1, E, kk, cc, c2, hRd, hE, hkc, hkb⟩ := hcc k (by omega)
      have hstep := pick_step (rfQ mine s) s k hlt
      have hok := ok_not mine s k hlt
      obtain ⟨x, hx⟩ : ∃ x, s[k]'hlt = x := ⟨_, rfl⟩
      rw [hx] at c1 hRd hstep hok
      obtain ⟨K, l⟩ := x
      have hl : l.length = kk := hRd.1
      have hBw := hJ.out.1.2
      have hbw : b < w.heap.size := by omega
      have d1 : V.cell? ⟨b, off + k * 2, none⟩ = some (.int .i64 K) := (hBw.cell hbw).trans c1
      have d2 : V.cell? ⟨b, off + k * 2 + 1, none⟩ = some (.slice E kk cc) := (hBw.cell hbw).trans c2
      have hRV := hRd.below (hBw.mono hB)
      have hsz := hBw.size
      have HRV := Lib.hid hRV
      have HCC := Lib.hid hcc
      have HST := Lib.hid hstep
      have HOK := Lib.hid hok
      have HEK := Lib.hid (And.intro hE (And.intro hkc hkb))
      have HX := Lib.hid hx
      clear hcc c1 c2 hRd hstep hok hBw hE hkc hkb hx
      go_upto_region 5 with (fail)
      go_cut [14] from 17 to 72 (fun v W => v = .bool (okQ mine (K, l)) ∧ Hid (Below V.heap.size V W))
      case first =>
        by_cases h1 : K = 1
        · by_cases h8 : kk = 8
          · subst h8
            have e1 : (K == 1) = true := by simpa using h1
            have NM := Lib.hid (inumber_any K E cc B l V HRV.out (by omega))
            obtain ⟨x, hx⟩ : ∃ x, num l 8 = x := ⟨_, rfl⟩
            have hv : okQ mine (K, l) = (!(x == 0) || !(mine == 0)) := by unfold okQ rgt; simp [h1, hl, hx]
            rw [hx] at NM
            have HV := Lib.hid hv
            clear h1 hv hl hx
            by_cases h0 : x = 0
            · have e2 : (x != 0) = false := by simpa using h0
              have HV2 : Hid (okQ mine (K, l) = (mine != 0)) := by show _ = _; rw [HV.out]; simp [h0, bne]
              clear h0
              go_wp2_with (go_at_call 36; (with_reducible refine NM.out.mono ?_); rintro e w3 ⟨rfl, h3⟩; have H3 := Lib.hid h3; clear h3)
              go_meet
              case rel => exact ⟨by rw [HV2.out], H3⟩
            · have e2 : (x != 0) = true := by simpa using h0
              have HV2 : Hid (okQ mine (K, l) = true) := by show _ = _; rw [HV.out]; simp [h0]
              clear h0
              go_wp2_with (go_at_call 36; (with_reducible refine NM.out.mono ?_); rintro e w3 ⟨rfl, h3⟩; have H3 := Lib.hid h3; clear h3)
              go_meet
              case rel => exact ⟨by rw [HV2.out], H3⟩
          · have e1 : (K == 1) = true := by simpa using h1
            have e2 : (((kk : Nat) : Int) == 8) = false := by simp; omega
            have HV2 : Hid (okQ mine (K, l) = false) := by show _ = _; unfold okQ rgt; simp [hl, h8]
            clear h1 h8 hl
            go_wp2
            go_meet
            case rel => exact ⟨by rw [HV2.out], Below.refl _ _⟩
        · have e1 : (K == 1) = false := by simpa using h1
          have HV2 : Hid (okQ mine (K, l) = false) := by show _ = _; unfold okQ rgt; simp [h1]
          clear h1 hl
          go_wp2
          go_meet
          case rel => exact ⟨by rw [HV2.out], Below.refl _ _⟩
      case rest =>
        obtain ⟨rfl, hVc⟩ := hcut
        go_wp2
        go_loopw [14, 15] (fun v i wr => ∃ j : Nat, wr = wc ∧ j ≤ k ∧ i = .int .i64 j ∧ v = .bool (okQ mine (K, l) && !mR s j)) (fun _ i _ => k - (intOf i).toNat)
        case atStart => exact ⟨0, rfl, Nat.zero_le _, rfl, by simp [mR]⟩
        case round =>
          obtain ⟨j, rfl, hjk, rfl, rfl⟩ := hrel
          have hBV := hJ.out.1.2
          have hsV := hBV.size
          by_cases hjl : j < k
          · obtain ⟨c1, E', kk', cc', c2, -⟩ := HCC.out j (by omega)
            obtain ⟨Kj, hKj⟩ : ∃ Kj, (s[j]'(by omega)).1 = Kj := ⟨_, rfl⟩
            have hmm := mR_more s j (by omega) (okQ mine (K, l))
            rw [hKj] at c1 hmm
            have x1 : wr.cell? ⟨b, off + j * 2, none⟩ = some (.int .i64 Kj) := (hVc.out.cell (show b < V.heap.size by omega)).trans ((hBV.cell hbw).trans c1)
            have hjk' : (j : Int) < (k : Int) := by omega
            have HMM := Lib.hid hmm
            clear c1 c2 hKj hmm hBV
            obtain ⟨y, hy⟩ : ∃ y, (okQ mine (K, l) && !mR s j) = y := ⟨_, rfl⟩
            rw [hy] at HMM ⊢
            clear hy
            cases y
            · go_wp2
              go_roundw
              case rel => exact ⟨j + 1, trivial, by omega, by go_num, by rw [HMM.out]; rfl⟩
              case measure => simp [intOf]; omega
            · go_wp2
              go_roundw
              case rel => exact ⟨j + 1, trivial, by omega, by go_num, by rw [HMM.out]; rfl⟩
              case measure => simp [intOf]; omega
          · have hjk' : j = k := by omega
            subst hjk'
            rw [HOK.out]
            have hnl : ¬ (j : Int) < (j : Int) := by omega
            rcases hq : rfQ mine s j with _ | _
            · have HN : Hid (RjJ w wr W1.heap.size B mine s (j + 1) u12 ∧ Below W1.heap.size W1 wr) := by
                have h := hJ.out
                refine ⟨⟨?_, hBV.trans (hVc.out.mono hsV)⟩, h.2.trans (hVc.out.mono h.2.size)⟩
                rw [HST.out, hq, if_neg (by simp), List.append_nil]
                have hvn : u12.ownBlock = none ∨ u12.ownBlock ≠ none := by
                  rcases hvo : u12.ownBlock with _ | g
                  · exact .inl rfl
                  · exact .inr (by simp)
                exact h.1.1.grown (only_of_below hVc.out none) hvn (by omega) (fun g e => by simp at e)
              clear hq hBV
              go_wp2
              go_roundw
              case rel => exact ⟨_, j + 1, rfl, by omega, by go_num, HN.out⟩
              case measure => simp [intOf]; omega
            · have hsx : b < w.heap.size := hbw
              obtain ⟨c1, E', kk', cc', c2, -⟩ := HCC.out j hlt
              have x1 : wr.cell? ⟨b, off + j * 2, none⟩ = some (.int .i64 K) := (hVc.out.cell (show b < V.heap.size by omega)).trans d1
              have x2 : wr.cell? ⟨b, off + j * 2 + 1, none⟩ = some (.slice E kk cc) := (hVc.out.cell (show b < V.heap.size by omega)).trans d2
              have HAP : Hid (∃ v' w', (Builtin.append_ #[23, 23] 23 #[u12, .slice (some ⟨wr.heap.size, 0, none⟩) 1 1]).run Try.prog (wr.alloc (.cells #[.int .i64 K, .slice E kk cc] 54)) = .ok v' w' ∧ RjJ w w' W1.heap.size B mine s (j + 1) v' ∧ Below W1.heap.size W1 w') := by
                have h := hJ.out
                have hsc := hVc.out.size
                have BA : Below wr.heap.size wr (wr.alloc (.cells #[.int .i64 K, .slice E kk cc] 54)) := (Below.refl _ _).alloc (Nat.le_refl _) _
                have knew := blk_new wr 54 [.int .i64 K, .slice E kk cc]
                have BVA := hVc.out.trans (BA.mono hsc)
                have hvn : u12.ownBlock = none ∨ u12.ownBlock ≠ none := by
                  rcases hvo : u12.ownBlock with _ | g
                  · exact .inl rfl
                  · exact .inr (by simp)
                have hv2 := h.1.1.grown (only_of_below BVA none) hvn (by omega) (fun g e => by simp at e)
                have hpl := pick_len (rfQ mine s) s j
                obtain ⟨v', w', h1, h2, h3, h4⟩ := appR_run hv2 wr.heap.size K E kk cc l (knew.cell 0) (knew.cell 1) (HRV.out.below (BVA.mono (by omega))) HEK.out.1 HEK.out.2.1 HEK.out.2.2 (by omega) (by have := BVA.size; have := h.2.size; omega) (by omega)
                refine ⟨v', w', h1, ⟨by rw [HST.out, hq, if_pos rfl]; exact h2, ?_⟩, ?_⟩
                · exact (hBV.trans (BVA.mono hsV)).grown h3 (by have := BVA.size; omega) (fun g hg => by have := (hv2.block g hg).1; omega)
                · have hsB := h.2.size
                  refine (h.2.trans (BVA.mono hsB)).grown h3 (by have := BVA.size; omega) (fun g hg => (hv2.block g hg).1)
              obtain ⟨v', w', hrun, hn2⟩ := HAP.out
              have HR7 := Lib.hid hrun
              have HN := Lib.hid hn2
              clear hrun hn2 hq hBV c1 c2
              go_wp2_with (at_builtin; refine wpList_appO 23 23 rfl (.tmp 66) (.tmp 71) rfl _ _ rfl rfl _ _ HR7.out ?_)
              go_roundw
              case rel => exact ⟨_, j + 1, rfl, by omega, by go_num, HN.out⟩
              case measure => simp [intOf]; omega
    · have hk' : k = s.length := by omega
      subst hk'
      obtain ⟨hL, hBw⟩ := hJ.out.1
      have hBW := hJ.out.2
      have hL' : OwnR V W1.heap.size B u12 (rfL mine s) := hL
      obtain ⟨A2, c2, rfl, hrd, _⟩ := hL'.rd (by have := hBw.size; omega)
      have hpl : (rfL mine s).length ≤ s.length := pick_len _ _ _
      have hsV := hBw.size
      have c21 : V.cell? ⟨w.heap.size, 21, none⟩ = some (.int .i64 mf) := by
        have h := (hBW.block w.heap.size (by omega)).trans HK.out
        rw [Blk.cell h 21, Array.getElem?_toList]
        exact HCF.out.2.2
      have CL := Lib.hid ((olent_any A2 _ c2 V.heap.size (rfL mine s) V hrd (Nat.le_refl _) (by omega)).mono (R' := fun e w' => ∃ F d, e = .returned (.slice F (rfL mine s).length d) ∧ Hid (OwnL w' w.heap.size (.slice F (rfL mine s).length d) (rfL mine s) ∧ Below w.heap.size w w')) (by
        rintro e w' ⟨F, d, rfl, h1, h2⟩
        exact ⟨F, d, rfl, Lib.hid ⟨h1.base_le hsV, hBw.trans (h2.mono hsV)⟩⟩))
      have CLL := Lib.hid (fun W (hW : Below V.heap.size V W) => (olent_any A s.length c w.heap.size s W ((HR.out.wide hB).below (hBw.trans (hW.mono hsV)) (Nat.le_refl _)) (by have := hW.size; omega) hn).mono (R' := fun e w' => ∃ F d, e = .returned (.slice F s.length d) ∧ Hid (OwnL w' w.heap.size (.slice F s.length d) s ∧ Below w.heap.size w w')) (by
        rintro e w' ⟨F, d, rfl, h1, h2⟩
        have h3 := hBw.trans (hW.mono hsV)
        exact ⟨F, d, rfl, Lib.hid ⟨h1.base_le h3.size, h3.trans (h2.mono h3.size)⟩⟩))
      have CG := Lib.hid (fun W => rgiven_any draw mine W HD.out)
      have gi := giv_in mine HD.out
      have CO := Lib.hid (fun W (hW : Below V.heap.size V W) => (roptions6_any (giv draw mine) W gi.1 gi.2).mono (R' := fun e w' => ∃ g, e = .returned (.slice (some ⟨g, 0, none⟩) 1 1) ∧ Hid (OwnL w' w.heap.size (.slice (some ⟨g, 0, none⟩) 1 1) [(1, putB (giv draw mine).toNat 8)] ∧ Below w.heap.size w w')) (by
        rintro e w' ⟨g, rfl, h1, h2⟩
        have h3 := hBw.trans (hW.mono hsV)
        exact ⟨g, rfl, Lib.hid ⟨h1.base_le h3.size, h3.trans (h2.mono h3.size)⟩⟩))
      have HBV := Lib.hid hBw
      have HBV0 := Lib.hid (Below.refl V.heap.size V)
      obtain ⟨m, hm⟩ : ∃ m, (rfL mine s).length = m := ⟨_, rfl⟩
      have hpk : pick (rfQ mine s) s s.length = rfL mine s := rfl
      rw [hm] at CL ⊢
      by_cases hm0 : m = 0
      · subst hm0
        have hnil : rfL mine s = [] := List.eq_nil_of_length_eq_zero hm
        have hfew := rf_few hnil
        rcases s with _ | ⟨o, _ | ⟨o2, s⟩⟩
        · have htk : tkL mine [] = [] := rfl
          by_cases hk : naks = 0
          · have HJ : Hid (jd6 mf mine [] naks draw = (3, [(1, putB (giv draw mine).toNat 8)])) := by
              show _ = _
              unfold jd6
              rw [if_neg (by simp [hnil]), if_pos (.inr ⟨rfl, hk⟩)]
            have e0 : (naks == 0) = true := by simpa using hk
            clear hk hnil hfew htk hJ hL hL' hBw hBW hrd hpl hm gi hpk
            go_wp2_with (first
              | (go_at_call 25; (with_reducible refine (CG.out _).mono ?_); rintro e w5 ⟨rfl, rfl⟩)
              | (go_at_call 9; (with_reducible refine (CO.out _ HBV0.out).mono ?_); rintro e w6 ⟨g, rfl, HO⟩))
            exact bodyPost_ret (v := .tuple #[.int .i64 3, .slice (some ⟨g, 0, none⟩) 1 1]) (by simp [results, Try.results18, go_sem]) rfl ⟨_, _, _, _, _, rfl, HJ.out.symm, rfl, HO.out⟩
          · have HJ : Hid (jd6 mf mine [] naks draw = (2, [])) := by
              show _ = _
              unfold jd6
              rw [if_neg (by simp [hnil]), if_neg (by simp [htk, hk]), if_neg (by simp [htk])]
            have e0 : (naks == 0) = false := by simpa using hk
            clear hk hnil hfew htk hJ hL hL' hBw hBW hrd hpl hm gi hpk
            go_wp2
            exact bodyPost_ret (v := .tuple #[.int .i64 2, .slice none 0 0]) (by simp [results, Try.results18, go_sem]) rfl ⟨_, _, _, _, _, rfl, HJ.out.symm, rfl, OwnL.nil _ _, HBV.out⟩
        · have hno := pick_nil hnil 0 (by simp)
          have hrg : rgt o = true := (not_refused hno).2
          obtain ⟨K, l⟩ := o
          obtain ⟨hK1, h8⟩ := right_yes hrg
          subst hK1
          obtain ⟨b, off, rfl, hbl, hcc⟩ := HR.out.2 (by simp)
          obtain ⟨c1, E, kk, cc, c2', hRd, -⟩ := hcc 0 (by simp)
          have hl : l.length = kk := hRd.1
          obtain rfl : kk = 8 := by omega
          have hbw : b < w.heap.size := by omega
          have d1 : V.cell? ⟨b, off, none⟩ = some (.int .i64 1) := (HBV.out.cell (p := ⟨b, off, none⟩) hbw).trans c1
          have d2 : V.cell? ⟨b, off + 1, none⟩ = some (.slice E 8 cc) := (HBV.out.cell (p := ⟨b, off + 1, none⟩) hbw).trans c2'
          have NM := inumber_any 1 E cc B l V (hRd.below (hBw.mono hB)) (by omega)
          obtain ⟨x, hx⟩ : ∃ x, num l 8 = x := ⟨_, rfl⟩
          have htk : tkL mine [(1, l)] = if (x == 0 || x == mine) = true then [(1, l)] else [] := by rw [tk_one]; unfold tkB; rw [hx]
          rw [hx] at NM
          have hw21 : w.heap.size < V.heap.size := by have := hBW.size; omega
          have NM := Lib.hid (NM.mono (R' := fun e w3 => e = .returned (.int .u64 x) ∧ w3.cell? ⟨w.heap.size, 21, none⟩ = some (.int .i64 mf) ∧ Hid (Below V.heap.size V w3)) (by
            rintro e w3 ⟨rfl, h3⟩
            exact ⟨rfl, (h3.cell (p := ⟨w.heap.size, 21, none⟩) hw21).trans c21, Lib.hid h3⟩))
          have hl1 : ([(1, l)] : List Opt).length = 1 := rfl
          simp only [hl1] at CLL ⊢
          clear hcc c1 c2' hRd hJ hL hL' hBw hBW hrd hpl hm gi hpk hno hrg hfew h8 hl hx hl1
          have HW3 : ∀ w3, Below V.heap.size V w3 → Hid (Below V.heap.size V w3) := fun _ h => h
          by_cases h0 : x = 0
          · have e0 : (x != 0) = false := by simpa using h0
            have hb : (x == 0 || x == mine) = true := by simp [h0]
            rw [if_pos hb] at htk
            by_cases hk : naks < mf
            · have HJ : Hid (jd6 mf mine [(1, l)] naks draw = (3, [(1, putB (giv draw mine).toNat 8)])) := by
                show _ = _
                unfold jd6
                rw [htk, if_neg (by simp [hnil])]
                rw [if_pos (.inl ⟨by simp, hk⟩)]
              clear hnil htk h0 hb
              go_wp2_with (first
                | (go_at_call 36; (with_reducible refine NM.out.mono ?_); rintro e w3 ⟨rfl, x21, H3⟩)
                | (go_at_call 25; (with_reducible refine (CG.out _).mono ?_); rintro e w5 ⟨rfl, rfl⟩)
                | (go_at_call 9; (with_reducible refine (CO.out _ H3.out).mono ?_); rintro e w6 ⟨g, rfl, HO⟩)
                | (go_at_call 12; (with_reducible refine (CLL.out _ H3.out).mono ?_); rintro e w6 ⟨F, d, rfl, HO⟩))
              exact bodyPost_ret (v := .tuple #[.int .i64 3, .slice (some ⟨g, 0, none⟩) 1 1]) (by simp [results, Try.results18, go_sem]) rfl ⟨_, _, _, _, _, rfl, HJ.out.symm, rfl, HO.out⟩
            · have HJ : Hid (jd6 mf mine [(1, l)] naks draw = (4, [(1, l)])) := by
                show _ = _
                unfold jd6
                rw [htk, if_neg (by simp [hnil])]
                rw [if_neg (by simp [hk]), if_pos (by simp)]
              clear hnil htk h0 hb
              go_wp2_with (first
                | (go_at_call 36; (with_reducible refine NM.out.mono ?_); rintro e w3 ⟨rfl, x21, H3⟩)
                | (go_at_call 25; (with_reducible refine (CG.out _).mono ?_); rintro e w5 ⟨rfl, rfl⟩)
                | (go_at_call 9; (with_reducible refine (CO.out _ H3.out).mono ?_); rintro e w6 ⟨g, rfl, HO⟩)
                | (go_at_call 12; (with_reducible refine (CLL.out _ H3.out).mono ?_); rintro e w6 ⟨F, d, rfl, HO⟩))
              exact bodyPost_ret (v := .tuple #[.int .i64 4, .slice F 1 d]) (by simp [results, Try.results18, go_sem]) rfl ⟨_, _, _, _, _, rfl, HJ.out.symm, rfl, HO.out⟩
          · have e0 : (x != 0) = true := by simpa using h0
            by_cases hxm : x = mine
            · have e1 : (x != mine) = false := by simpa using hxm
              have hb : (x == 0 || x == mine) = true := by simp [hxm]
              rw [if_pos hb] at htk
              by_cases hk : naks < mf
              · have HJ : Hid (jd6 mf mine [(1, l)] naks draw = (3, [(1, putB (giv draw mine).toNat 8)])) := by
                  show _ = _
                  unfold jd6
                  rw [htk, if_neg (by simp [hnil])]
                  rw [if_pos (.inl ⟨by simp, hk⟩)]
                clear hnil htk h0 hxm hb
                go_wp2_with (first
                  | (go_at_call 36; (with_reducible refine NM.out.mono ?_); rintro e w3 ⟨rfl, x21, H3⟩)
                  | (go_at_call 25; (with_reducible refine (CG.out _).mono ?_); rintro e w5 ⟨rfl, rfl⟩)
                  | (go_at_call 9; (with_reducible refine (CO.out _ H3.out).mono ?_); rintro e w6 ⟨g, rfl, HO⟩)
                  | (go_at_call 12; (with_reducible refine (CLL.out _ H3.out).mono ?_); rintro e w6 ⟨F, d, rfl, HO⟩))
                exact bodyPost_ret (v := .tuple #[.int .i64 3, .slice (some ⟨g, 0, none⟩) 1 1]) (by simp [results, Try.results18, go_sem]) rfl ⟨_, _, _, _, _, rfl, HJ.out.symm, rfl, HO.out⟩
              · have HJ : Hid (jd6 mf mine [(1, l)] naks draw = (4, [(1, l)])) := by
                  show _ = _
                  unfold jd6
                  rw [htk, if_neg (by simp [hnil])]
                  rw [if_neg (by simp [hk]), if_pos (by simp)]
                clear hnil htk h0 hxm hb
                go_wp2_with (first
                  | (go_at_call 36; (with_reducible refine NM.out.mono ?_); rintro e w3 ⟨rfl, x21, H3⟩)
                  | (go_at_call 25; (with_reducible refine (CG.out _).mono ?_); rintro e w5 ⟨rfl, rfl⟩)
                  | (go_at_call 9; (with_reducible refine (CO.out _ H3.out).mono ?_); rintro e w6 ⟨g, rfl, HO⟩)
                  | (go_at_call 12; (with_reducible refine (CLL.out _ H3.out).mono ?_); rintro e w6 ⟨F, d, rfl, HO⟩))
                exact bodyPost_ret (v := .tuple #[.int .i64 4, .slice F 1 d]) (by simp [results, Try.results18, go_sem]) rfl ⟨_, _, _, _, _, rfl, HJ.out.symm, rfl, HO.out⟩
            · have e1 : (x != mine) = true := by simpa using hxm
              have hb : ¬ (x == 0 || x == mine) = true := by simp [h0, hxm]
              rw [if_neg hb] at htk
              have HJ : Hid (jd6 mf mine [(1, l)] naks draw = (2, [(1, l)])) := by
                show _ = _
                unfold jd6
                rw [htk, if_neg (by simp [hnil])]
                rw [if_neg (by simp), if_neg (by simp)]
              clear hnil htk h0 hxm hb
              go_wp2_with (first
                | (go_at_call 36; (with_reducible refine NM.out.mono ?_); rintro e w3 ⟨rfl, x21, H3⟩)
                | (go_at_call 25; (with_reducible refine (CG.out _).mono ?_); rintro e w5 ⟨rfl, rfl⟩)
                | (go_at_call 9; (with_reducible refine (CO.out _ H3.out).mono ?_); rintro e w6 ⟨g, rfl, HO⟩)
                | (go_at_call 12; (with_reducible refine (CLL.out _ H3.out).mono ?_); rintro e w6 ⟨F, d, rfl, HO⟩))
              exact bodyPost_ret (v := .tuple #[.int .i64 2, .slice F 1 d]) (by simp [results, Try.results18, go_sem]) rfl ⟨_, _, _, _, _, rfl, HJ.out.symm, rfl, HO.out⟩
        · simp at hfew
      · have HJ : Hid (jd6 mf mine s naks draw = (4, rfL mine s)) := by
          show _ = _
          unfold jd6
          rw [if_pos (fun h => hm0 (by rw [← hm, h]; rfl))]
        have hp : 0 < m := by omega
        have HM := Lib.hid hm
        clear hJ hL hL' hBw hBW hrd hpl hm gi hpk hm0
        go_wp2_with (first
          | (go_at_call 12; (with_reducible refine CL.out.mono ?_); rintro e w3 ⟨F, d, rfl, HO⟩))
        exact bodyPost_ret (v := .tuple #[.int .i64 4, .slice F m d]) (by simp [results, Try.results18, go_sem]) rfl ⟨_, _, _, _, _, rfl, HJ.out.symm, HM.out.symm, HO.out⟩
end Go.Proofs.Ytciijnhagdfpiaa
