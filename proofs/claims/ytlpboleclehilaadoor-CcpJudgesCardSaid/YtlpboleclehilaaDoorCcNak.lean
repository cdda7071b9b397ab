/-
  ccp.Nak and Reject: what is asked next.
-/
import Derived.Test.YtlpboleclehilaaDoorCcJudge
namespace Go.Proofs.YtlpboleclehilaaDoor
open Go.RowKit
set_option maxRecDepth 100000
set_option maxHeartbeats 4000000
set_option linter.unusedSimpArgs false
set_option linter.unusedVariables false

/-- what a told copy holds behind k options -/
def tdK (K : Int) (b : Int) (s : List Opt) (k : Nat) : Int := if lstK K s k = 0 then b else lstK K s k
theorem tdK_zero (K b : Int) (s : List Opt) : tdK K b s 0 = b := if_pos rfl
theorem tdK_same {K b : Int} {s : List Opt} {k : Nat} (h : k < s.length) (h0 : says s[k].1 s[k].2 = 0 ∨ s[k].1 ≠ K) : tdK K b s (k + 1) = tdK K b s k := by
  have e : lstK K s (k + 1) = lstK K s k := by rw [lstK_step K s k h, if_neg (fun hh => by rcases h0 with e | e; exact hh.2 e; exact e hh.1)]
  unfold tdK
  rw [e]
theorem tdK_new {K b : Int} {s : List Opt} {k : Nat} (h : k < s.length) (h0 : says s[k].1 s[k].2 ≠ 0) (h1 : s[k].1 = K) : tdK K b s (k + 1) = says s[k].1 s[k].2 := by
  have e : lstK K s (k + 1) = says s[k].1 s[k].2 := by rw [lstK_step K s k h, if_pos ⟨h1, h0⟩]
  unfold tdK
  rw [e, if_neg h0]
theorem td_min (K b : Int) (s : List Opt) (k : Nat) : (if b < tdK K b s k then b else tdK K b s k) = nkC (lstK K s k) b := by
  have h := lstK_range K s k
  unfold tdK nkC
  split
  · rename_i h0
    rw [h0, if_neg (by omega)]
    omega
  · split <;> omega
theorem grown_into {w V W : World} {z : Nat} (h1 : w.grownBy V (some z)) (h2 : Below V.heap.size V W) : w.grownBy W (some z) :=
  ⟨h2.os.trans h1.os, h2.tape.trans h1.tape, h2.output.trans h1.output, Nat.le_trans h1.size h2.size, fun i hi hne => (h2.block i (Nat.lt_of_lt_of_le hi h1.size)).trans (h1.block i hi hne)⟩
theorem grown_cell {w V : World} {z q : Nat} {v : Value} (h1 : w.grownBy V (some z)) : w.grownBy (V.setCell ⟨z, q, none⟩ v) (some z) := only_then h1 (only_set (p := ⟨z, q, none⟩) _) (fun g e => .inl e)
def NkR (w : World) (X Y : Int) (b : Bool) (e : Ending) (w' : World) : Prop := e = .returned (.tuple #[.agg #[.int .i64 X, .int .i64 Y], .bool b]) ∧ Below w.heap.size w w'
theorem nak_ccp (cv : Array Value) (D B : Int) (A : Option Addr) (n c Bb : Nat) (s : List Opt) (w : World) (hr0 : OptRd w Bb A n s) (hBb : Bb ≤ w.heap.size) (hn : n ≤ 4398046511103) :
    Calls Tryd.prog 11 #[.agg cv, .agg #[.int .i64 D, .int .i64 B], .slice A n c] w fun e w' => NkR w (nkC (lstK 26 s s.length) D) (nkC (lstK 21 s s.length) B) (!(nkC (lstK 26 s s.length) D == D) || !(nkC (lstK 21 s s.length) B == B)) e w' := by
  have hr := hr0.wide hBb
  have hlen := hr.1
  obtain ⟨X, hX⟩ : ∃ X, nkC (lstK 26 s s.length) D = X := ⟨_, rfl⟩
  obtain ⟨Y, hY⟩ : ∃ Y, nkC (lstK 21 s s.length) B = Y := ⟨_, rfl⟩
  rw [hX, hY]
  have HX := Lib.hid hX
  have HY := Lib.hid hY
  clear hX hY
  obtain ⟨W3, hW3⟩ : ∃ W3, ((w.alloc (.cells cv 25)).alloc (.cells #[.int .i64 D, .int .i64 B] 27)).alloc (.cells #[.int .i64 0, .int .i64 0] 27) = W3 := ⟨_, rfl⟩
  have B3 : Below w.heap.size w W3 := by rw [← hW3]; exact (((Below.refl _ _).alloc (Nat.le_refl _) _).alloc (by simp) _).alloc (by simp; omega) _
  have s3 : W3.heap.size = w.heap.size + 3 := by rw [← hW3]; simp
  have kO : Blk W3 (w.heap.size + 1) 27 [.int .i64 D, .int .i64 B] := by
    rw [← hW3]
    have h := blk_new (w.alloc (.cells cv 25)) 27 [.int .i64 D, .int .i64 B]
    rw [World.size_alloc] at h
    exact (Below.heap_alloc _ _ _ (by simp)).trans h
  have kR : Blk W3 (w.heap.size + 2) 27 [.int .i64 0, .int .i64 0] := by
    rw [← hW3]
    have h := blk_new ((w.alloc (.cells cv 25)).alloc (.cells #[.int .i64 D, .int .i64 B] 27)) 27 [.int .i64 0, .int .i64 0]
    rw [World.size_alloc, World.size_alloc] at h
    exact h
  obtain ⟨W4, hW4⟩ : ∃ W4, W3.alloc (.cells #[.int .i64 D, .int .i64 B] 27) = W4 := ⟨_, rfl⟩
  have B4 : Below W3.heap.size W3 W4 := by rw [← hW4]; exact (Below.refl _ _).alloc (Nat.le_refl _) _
  have kT : Blk W4 (w.heap.size + 3) 27 [.int .i64 D, .int .i64 B] := by rw [← hW4, ← s3]; exact blk_new W3 _ _
  have s4 : W4.heap.size = w.heap.size + 4 := by rw [← hW4]; simp [s3]
  have o0 := kO.cell 0
  have o1 := kO.cell 1
  have HW3 := Lib.hid hW3
  have HW4 := Lib.hid hW4
  have HR := Lib.hid hr
  have kO4 := (B4.block _ (by omega)).trans kO
  have kR4 := (B4.block _ (by omega)).trans kR
  have HK := Lib.hid (show Blk W4 (w.heap.size + 1) 27 [.int .i64 D, .int .i64 B] ∧ Blk W4 (w.heap.size + 2) 27 [.int .i64 0, .int .i64 0] from ⟨kO4, kR4⟩)
  have HB := Lib.hid (B3.trans (B4.mono (by omega)))
  have HT := Lib.hid kT
  clear hW3 hW4 kO kR kT B3 B4 kO4 kR4 hr hr0
  go_enter Tryd.func11, Tryd.ntmps11
  go_upto_region 1 with (fail)
  rw [HW3.out]
  clear HW3
  go_wp2_with (rw [HW4.out])
  go_loopw [16] (fun i wr => ∃ (V : World) (k : Nat), V = wr ∧ k ≤ n ∧ i = .int .i64 k ∧ Hid (Blk V (w.heap.size + 3) 27 [.int .i64 (tdK 26 D s k), .int .i64 (tdK 21 B s k)] ∧ W4.grownBy V (some (w.heap.size + 3)))) (fun i _ => n - (intOf i).toNat)
  case atStart => exact ⟨_, 0, rfl, Nat.zero_le _, rfl, by rw [tdK_zero, tdK_zero]; exact HT.out, World.grownBy.refl _ _⟩
  case round =>
    obtain ⟨V, k, rfl, hkn, rfl, hJ⟩ := hrel
    obtain ⟨hT, hG⟩ := hJ.out
    have hBw : Below w.heap.size w V := HB.out.grown hG (by omega) (fun q e => by injection e; omega)
    have sV := hG.size
    by_cases hlt : k < n
    · obtain ⟨b, off, rfl, hbl, hc⟩ := HR.out.2 (by omega)
      obtain ⟨x1, E, kk, d, x2, hRd, hE, hkc, hkb⟩ := hc k (by omega)
      have hks : k < s.length := by omega
      have t26s := tdK_same (K := 26) (b := D) hks
      have t21s := tdK_same (K := 21) (b := B) hks
      have t26n := tdK_new (K := 26) (b := D) hks
      have t21n := tdK_new (K := 21) (b := B) hks
      obtain ⟨y, hy⟩ : ∃ y, s[k]'(by omega) = y := ⟨_, rfl⟩
      rw [hy] at x1 hRd t26s t21s t26n t21n
      obtain ⟨K, l⟩ := y
      have v1 : V.cell? ⟨b, off + k * 2, none⟩ = some (.int .i64 K) := (hBw.cell hbl).trans x1
      have v2 : V.cell? ⟨b, off + k * 2 + 1, none⟩ = some (.slice E kk d) := (hBw.cell hbl).trans x2
      have hbV : b < V.heap.size := by omega
      dsimp only at t26s t21s t26n t21n
      have AS : Hid (Calls Tryd.prog 28 #[.agg #[.int .i64 K, .slice E kk d]] (V.alloc (.cells #[.int .i64 K, .slice E kk d] 61)) fun e w' => e = .returned (.int .i64 (says K l)) ∧ (w'.cell? ⟨V.heap.size, 0, none⟩ = some (.int .i64 K) ∧ w'.cell? ⟨V.heap.size, 1, none⟩ = some (.slice E kk d)) ∧
          (w'.cell? ⟨w.heap.size + 3, 0, none⟩ = some (.int .i64 (tdK 26 D s k)) ∧ w'.cell? ⟨w.heap.size + 3, 1, none⟩ = some (.int .i64 (tdK 21 B s k)) ∧ w'.frozen? ⟨w.heap.size + 3, 0, none⟩ = false ∧ w'.frozen? ⟨w.heap.size + 3, 1, none⟩ = false) ∧
          Hid (Blk w' (w.heap.size + 3) 27 [.int .i64 (tdK 26 D s k), .int .i64 (tdK 21 B s k)] ∧ W4.grownBy w' (some (w.heap.size + 3)))) := by
        have BA : Below V.heap.size V (V.alloc (.cells #[.int .i64 K, .slice E kk d] 61)) := (Below.refl _ _).alloc (Nat.le_refl _) _
        have kb := blk_new V 61 [.int .i64 K, .slice E kk d]
        refine (asked_any K E kk d w.heap.size l _ (hRd.below (hBw.trans (BA.mono hBw.size))) (by have := BA.size; have := hBw.size; omega) hkb).mono ?_
        rintro e w' ⟨rfl, hb⟩
        have hb2 := BA.trans (hb.mono BA.size)
        have kb2 := (hb.block _ (Blk.lt kb)).trans kb
        have hT2 : Blk w' (w.heap.size + 3) 27 [.int .i64 (tdK 26 D s k), .int .i64 (tdK 21 B s k)] := (hb2.block _ (Blk.lt hT)).trans hT
        have kb2 : Blk w' V.heap.size 61 [.int .i64 K, .slice E kk d] := kb2
        exact ⟨rfl, ⟨kb2.cell 0, kb2.cell 1⟩, ⟨hT2.cell 0, hT2.cell 1, hT2.frozen 0, hT2.frozen 1⟩, Lib.hid ⟨hT2, grown_into hG hb2⟩⟩
      have HF := Lib.hid (fun W => field_any (w.heap.size + 3) K W)
      obtain ⟨Z, hZ⟩ : ∃ Z, says K l = Z := ⟨_, rfl⟩
      have hk21 : Z ≠ 0 → K = 26 ∨ K = 21 := fun h0 => said_kind (K := K) (l := l) (by rw [hZ]; exact h0)
      rw [hZ] at AS t26s t21s t26n t21n
      by_cases hX0 : Z = 0
      · have eX : (Z != 0) = false := by simpa using hX0
        have e26 := t26s (.inl hX0)
        have e21 := t21s (.inl hX0)
        rw [← e26, ← e21] at AS
        clear hc hy x1 x2 hRd hE hkc hkb hJ hT hG hBw t26s t21s t26n t21n e26 e21 hZ hX0 hk21 HF
        go_wp2_with (go_at_call 28; ((with_reducible refine AS.out.mono ?_); rintro e w5 ⟨rfl, ⟨y0, y1⟩, -, HN⟩))
        go_roundw
        case rel => exact ⟨_, k + 1, rfl, by omega, by go_num, HN.out⟩
        case measure => simp [intOf]; omega
      · have eX : (Z != 0) = true := by simpa using hX0
        rcases hk21 hX0 with rfl | rfl
        · have e26 := t26n hX0 rfl
          have e21 := t21s (.inr (by decide))
          have HF2 : Hid (∀ W, Calls Tryd.prog 36 #[.pointer (some ⟨w.heap.size + 3, 0, none⟩), .int .i64 26] W fun e w' => e = .returned (.pointer (some ⟨w.heap.size + 3, 0, none⟩)) ∧ W = w') := HF.out
          have HE := Lib.hid (And.intro e26 e21)
          clear hc hy x1 x2 hRd hE hkc hkb hJ hT hG hBw t26s t21s t26n t21n e26 e21 hZ hX0 hk21 HF
          go_wp2_with (first
            | (go_at_call 28; ((with_reducible refine AS.out.mono ?_); rintro e w5 ⟨rfl, ⟨y0, y1⟩, ⟨z0, z1, g0, g1⟩, HN⟩))
            | (go_at_call 36; ((with_reducible refine (HF2.out _).mono ?_); rintro e w' ⟨rfl, rfl⟩)))
          go_roundw
          case rel =>
            refine ⟨_, k + 1, rfl, by omega, by go_num, ?_, grown_cell HN.out.2⟩
            rw [HE.out.1, HE.out.2]
            exact Blk.set_ HN.out.1 0 _
          case measure => simp [intOf]; omega
        · have e21 := t21n hX0 rfl
          have e26 := t26s (.inr (by decide))
          have HF2 : Hid (∀ W, Calls Tryd.prog 36 #[.pointer (some ⟨w.heap.size + 3, 0, none⟩), .int .i64 21] W fun e w' => e = .returned (.pointer (some ⟨w.heap.size + 3, 1, none⟩)) ∧ W = w') := HF.out
          have HE := Lib.hid (And.intro e26 e21)
          clear hc hy x1 x2 hRd hE hkc hkb hJ hT hG hBw t26s t21s t26n t21n e26 e21 hZ hX0 hk21 HF
          go_wp2_with (first
            | (go_at_call 28; ((with_reducible refine AS.out.mono ?_); rintro e w5 ⟨rfl, ⟨y0, y1⟩, ⟨z0, z1, g0, g1⟩, HN⟩))
            | (go_at_call 36; ((with_reducible refine (HF2.out _).mono ?_); rintro e w' ⟨rfl, rfl⟩)))
          go_roundw
          case rel =>
            refine ⟨_, k + 1, rfl, by omega, by go_num, ?_, grown_cell HN.out.2⟩
            rw [HE.out.1, HE.out.2]
            exact Blk.set_ HN.out.1 1 _
          case measure => simp [intOf]; omega
    · have hke : k = n := by omega
      subst hke
      have m26 := td_min 26 D s k
      have m21 := td_min 21 B s k
      have kO := (hG.block _ (Blk.lt HK.out.1) (fun e => by injection e; omega)).trans HK.out.1
      have kR := (hG.block _ (Blk.lt HK.out.2) (fun e => by injection e; omega)).trans HK.out.2
      have kO : Blk V (w.heap.size + 1) 27 [.int .i64 D, .int .i64 B] := kO
      have kR : Blk V (w.heap.size + 2) 27 [.int .i64 0, .int .i64 0] := kR
      rw [← hlen] at m26 m21 hT
      have t0 := hT.cell 0
      have t1 := hT.cell 1
      have a0 := kO.cell 0
      have a1 := kO.cell 1
      rw [HX.out] at m26
      rw [HY.out] at m21
      generalize tdK 26 D s s.length = T at *
      generalize tdK 21 B s s.length = T' at *
      obtain ⟨U, hU⟩ : ∃ U, V.alloc (.cells #[.int .i64 X, .int .i64 Y] 27) = U := ⟨_, rfl⟩
      have bU : Below V.heap.size V U := by rw [← hU]; exact (Below.refl _ _).alloc (Nat.le_refl _) _
      have kN : Blk U V.heap.size 27 [.int .i64 X, .int .i64 Y] := by rw [← hU]; exact blk_new V _ _
      have kOU : Blk U (w.heap.size + 1) 27 [.int .i64 D, .int .i64 B] := (bU.block _ (Blk.lt kO)).trans kO
      have kRU : Blk U (w.heap.size + 1 + 1) 27 [.int .i64 0, .int .i64 0] := (bU.block _ (Blk.lt kR)).trans kR
      have HU := Lib.hid hU
      have n0 := kN.cell 0
      have n1 := kN.cell 1
      have b0 := kOU.cell 0
      have b1 := kOU.cell 1
      have r0 := kRU.cell 0
      have r1 := kRU.cell 1
      have f0 := kRU.frozen 0
      have f1 := kRU.frozen 1
      have kE := Blk.set_ (Blk.set_ kRU 0 (.int .i64 X)) 1 (.int .i64 Y)
      have BU : Below w.heap.size w U := hBw.trans (bU.mono hBw.size)
      have FN : Hid (∀ q, Below w.heap.size w (((U.setCell ⟨w.heap.size + 1 + 1, 0, none⟩ (.int .i64 X)).setCell ⟨w.heap.size + 1 + 1, 1, none⟩ (.int .i64 Y)).drewN q)) := fun q => below_drewN ((BU.setCell (by show w.heap.size ≤ w.heap.size + 1 + 1; omega) _).setCell (by show w.heap.size ≤ w.heap.size + 1 + 1; omega) _) q
      clear hJ hT hG hBw kO kR hU bU kN kOU kRU BU
      have e0 := kE.cell 0
      have e1 := kE.cell 1
      clear kE
      rcases hx : (X == D) with _ | _ <;> rcases hy : (Y == B) with _ | _
      all_goals
        go_upto_region 10 with (rw [HU.out])
        go_region
        have e0' : ((U.setCell ⟨w.heap.size + 1 + 1, 0, none⟩ (.int .i64 X)).setCell ⟨w.heap.size + 1 + 1, 1, none⟩ (.int .i64 Y)).drew.cell? ⟨w.heap.size + 1 + 1, 0, none⟩ = some (.int .i64 X) := e0
        have e1' : ((U.setCell ⟨w.heap.size + 1 + 1, 0, none⟩ (.int .i64 X)).setCell ⟨w.heap.size + 1 + 1, 1, none⟩ (.int .i64 Y)).drew.cell? ⟨w.heap.size + 1 + 1, 1, none⟩ = some (.int .i64 Y) := e1
        go_wp2
        refine bodyPost_ret (v := .tuple #[.agg #[.int .i64 X, .int .i64 Y], _]) (by simp [results, Tryd.results11, go_sem, e0', e1']; rfl) rfl ⟨by rw [hx, hy]; rfl, FN.out 1⟩
end Go.Proofs.YtlpboleclehilaaDoor
