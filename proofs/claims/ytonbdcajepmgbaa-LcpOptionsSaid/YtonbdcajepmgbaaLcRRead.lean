/-
  tetherref11.Read: what options say, by the reference.
-/
import Derived.Test.YtonbdcajepmgbaaLcRSmall
namespace Go.Proofs.Ytonbdcajepmgbaa
open Go.RowKit
set_option maxRecDepth 100000
set_option maxHeartbeats 4000000
set_option linter.unusedSimpArgs false
set_option linter.unusedVariables false

/-- Read's variables: the result z2, the options so far z4 -/
def RRJ (w V : World) (z2 z4 : Nat) (A : Option Addr) (n : Nat) (s : List Opt) (o : LOpts) : Prop :=
  (Blk V z2 74 [.int .i64 0, .int .i64 0, .int .i64 0, .int .u32 0, .bool false, .bool false] ∧ Blk V z4 74 o.cells) ∧ OptRd V w.heap.size A n s ∧ Below w.heap.size w V ∧ z2 ≠ z4 ∧ w.heap.size ≤ z2 ∧ w.heap.size ≤ z4
section
variable {w V V' : World} {z2 z4 : Nat} {A : Option Addr} {n : Nat} {s : List Opt} {o : LOpts}
theorem RRJ.later (h : RRJ w V z2 z4 A n s o) (hB : Below V.heap.size V V') : RRJ w V' z2 z4 A n s o := by
  obtain ⟨⟨h1, h2⟩, h3, h4, h5⟩ := h
  exact ⟨⟨(hB.block _ h1.lt).trans h1, (hB.block _ h2.lt).trans h2⟩, h3.below hB h4.size, h4.trans (hB.mono h4.size), h5⟩
theorem RRJ.put (h : RRJ w V z2 z4 A n s o) (i : Nat) (v : Value) (o' : LOpts) (he : o'.cells = o.cells.set i v) : RRJ w (V.setCell ⟨z4, i, none⟩ v) z2 z4 A n s o' := by
  obtain ⟨⟨h1, h2⟩, h3, h4, h5, h6, h7⟩ := h
  have hs := h2.set_ i v
  rw [← he] at hs
  have hB : Below w.heap.size V (V.setCell ⟨z4, i, none⟩ v) := (Below.refl _ _).setCell h7 _
  exact ⟨⟨(Below.heap_setCell V ⟨z4, i, none⟩ v z2 h5).trans h1, hs⟩, h3.below hB (Nat.le_refl _), h4.trans hB, h5, h6, h7⟩
/-- one option: its size, whether it stands twice, its number -/
def RRound (w V : World) (z2 z4 : Nat) (A : Option Addr) (n c : Nat) (s : List Opt) (o : LOpts) (b off i : Nat) (K : Int) (E : Option Addr) (kk cc : Nat) (l : List UInt8) (sz tw : Bool) : Prop :=
  Calls Try.prog 108 #[.agg #[.int .i64 K, .slice E kk cc]] V fun e w1 => e = .returned (.bool sz) ∧ RRJ w w1 z2 z4 A n s o ∧
    Calls Try.prog 109 #[.slice A n c, .int .i64 (i : Int)] w1 fun e w2 => e = .returned (.bool tw) ∧ RRJ w w2 z2 z4 A n s o ∧ (w2.cell? ⟨b, off + i * 2, none⟩ = some (.int .i64 K) ∧ w2.cell? ⟨b, off + i * 2 + 1, none⟩ = some (.slice E kk cc)) ∧
      Calls Try.prog 110 #[.slice E kk cc] w2 fun e w3 => (∃ x, e = .returned (.int .u64 x) ∧ (0 ≤ x ∧ x < 18446744073709551616) ∧ (kk ≤ 8 → x = num l kk)) ∧ w2 = w3 ∧
        Calls Try.prog 50 #[.slice E kk cc] w3 fun e w4 => e = .returned (.int .i64 (mth l)) ∧ RRJ w w4 z2 z4 A n s o ∧ (w4.cell? ⟨b, off + i * 2, none⟩ = some (.int .i64 K) ∧ w4.cell? ⟨b, off + i * 2 + 1, none⟩ = some (.slice E kk cc)) ∧
          Calls Try.prog 50 #[.slice E kk cc] w4 fun e w5 => e = .returned (.int .i64 (mth l)) ∧ RRJ w w5 z2 z4 A n s o
theorem rround {b off : Nat} (h : RRJ w V z2 z4 (some ⟨b, off, none⟩) n s o) (i : Nat) (hi : i < n) (hn : n ≤ 4398046511104) (K : Int) (E : Option Addr) (kk cc : Nat) (l : List UInt8) (c : Nat) (hb : b < w.heap.size)
    (d1 : V.cell? ⟨b, off + i * 2, none⟩ = some (.int .i64 K)) (d2 : V.cell? ⟨b, off + i * 2 + 1, none⟩ = some (.slice E kk cc)) (hr : Rd V w.heap.size E kk l) (hk : kk ≤ 140737488351232) (hy : s[i]'(by have := h.2.1.1; omega) = (K, l)) :
    RRound w V z2 z4 (some ⟨b, off, none⟩) n c s o b off i K E kk cc l (sizeB K kk) ((kinds (s.take i)).contains K) := by
  have s0 := h.2.2.1.size
  refine (size_any K E kk cc V).mono ?_
  rintro e w1 ⟨rfl, b1⟩
  have h1 := h.later b1
  have s1 := b1.size
  refine ⟨rfl, h1, ?_⟩
  have TW := twice_any (some ⟨b, off, none⟩) n c i w.heap.size s w1 h1.2.1 h1.2.2.1.size hi hn
  rw [hy] at TW
  refine TW.mono ?_
  rintro e w2 ⟨rfl, b2⟩
  have h2 := h1.later b2
  have s2 := b2.size
  have B2 : Below V.heap.size V w2 := b1.trans (b2.mono s1)
  have r2 : Rd w2 w.heap.size E kk l := hr.below (B2.mono s0)
  have e1 : w2.cell? ⟨b, off + i * 2, none⟩ = some (.int .i64 K) := (B2.cell (show b < V.heap.size by omega)).trans d1
  have e2 : w2.cell? ⟨b, off + i * 2 + 1, none⟩ = some (.slice E kk cc) := (B2.cell (show b < V.heap.size by omega)).trans d2
  refine ⟨rfl, h2, ⟨e1, e2⟩, (refnumber_any E kk cc l w2 w.heap.size r2 hk).mono ?_⟩
  rintro e w3 ⟨hx, rfl⟩
  refine ⟨hx, rfl, (rmethod_any E kk cc w.heap.size l w2 r2 h2.2.2.1.size).mono ?_⟩
  rintro e w4 ⟨rfl, b4⟩
  have h4 := h2.later b4
  have s4 := b4.size
  have r4 : Rd w4 w.heap.size E kk l := r2.below (b4.mono h2.2.2.1.size)
  have f1 := (b4.cell (show b < w2.heap.size by omega)).trans e1
  have f2 := (b4.cell (show b < w2.heap.size by omega)).trans e2
  refine ⟨rfl, h4, ⟨f1, f2⟩, (rmethod_any E kk cc w.heap.size l w4 r4 h4.2.2.1.size).mono ?_⟩
  rintro e w5 ⟨rfl, b5⟩
  exact ⟨rfl, h4.later b5⟩
end
theorem wth1 {o : LOpts} {l : List UInt8} (h : l.length = 2 ∧ 64 ≤ num l 2 ∧ num l 2 ≤ 16384) : withO o (1, l) = some { o with mru := num l 2 } := by unfold withO; rw [if_pos rfl, if_pos h]
theorem wth1n {o : LOpts} {l : List UInt8} (h : ¬ (l.length = 2 ∧ 64 ≤ num l 2 ∧ num l 2 ≤ 16384)) : withO o (1, l) = none := by unfold withO; rw [if_pos rfl, if_neg h]
theorem wth2 {o : LOpts} {l : List UInt8} (h : l.length = 4) : withO o (2, l) = some { o with accm := num l 4 } := by unfold withO; rw [if_neg (show ¬ (2 : Int) = 1 by decide), if_pos rfl, if_pos h]
theorem wth3 {o : LOpts} {l : List UInt8} (h : mth l ≠ 0) : withO o (3, l) = some { o with auth := mth l } := by unfold withO; rw [if_neg (show ¬ (3 : Int) = 1 by decide), if_neg (show ¬ (3 : Int) = 2 by decide), if_pos rfl, if_pos h]
theorem wth3n {o : LOpts} {l : List UInt8} (h : mth l = 0) : withO o (3, l) = none := by unfold withO; rw [if_neg (show ¬ (3 : Int) = 1 by decide), if_neg (show ¬ (3 : Int) = 2 by decide), if_pos rfl, if_neg (show ¬ mth l ≠ 0 from fun e => e h)]
theorem wth5 {o : LOpts} {l : List UInt8} (h : l.length = 4 ∧ num l 4 ≠ 0) : withO o (5, l) = some { o with magic := num l 4 } := by unfold withO; rw [if_neg (show ¬ (5 : Int) = 1 by decide), if_neg (show ¬ (5 : Int) = 2 by decide), if_neg (show ¬ (5 : Int) = 3 by decide), if_pos rfl, if_pos h]
theorem wth5n {o : LOpts} {l : List UInt8} (h : num l 4 = 0) : withO o (5, l) = none := by unfold withO; rw [if_neg (show ¬ (5 : Int) = 1 by decide), if_neg (show ¬ (5 : Int) = 2 by decide), if_neg (show ¬ (5 : Int) = 3 by decide), if_pos rfl, if_neg (fun e => e.2 h)]
theorem wth7 {o : LOpts} {l : List UInt8} (h : l.length = 0) : withO o (7, l) = some { o with pfc := true } := by unfold withO; rw [if_neg (show ¬ (7 : Int) = 1 by decide), if_neg (show ¬ (7 : Int) = 2 by decide), if_neg (show ¬ (7 : Int) = 3 by decide), if_neg (show ¬ (7 : Int) = 5 by decide), if_pos rfl, if_pos h]
theorem wth8 {o : LOpts} {l : List UInt8} (h : l.length = 0) : withO o (8, l) = some { o with acfc := true } := by unfold withO; rw [if_neg (show ¬ (8 : Int) = 1 by decide), if_neg (show ¬ (8 : Int) = 2 by decide), if_neg (show ¬ (8 : Int) = 3 by decide), if_neg (show ¬ (8 : Int) = 5 by decide), if_neg (show ¬ (8 : Int) = 7 by decide), if_pos rfl, if_pos h]
def rv (o : LOpts) (E : Int) : Value := .tuple #[.agg #[.int .i64 o.mru, .int .i64 o.accm, .int .i64 o.auth, .int .u32 o.magic, .bool o.pfc, .bool o.acfc], .int .i64 E]
theorem readO_none {s : List Opt} (h : readL s = none) : readO s = zeroO ∧ readE s = 91 := by unfold readO readE; rw [h]; exact ⟨rfl, rfl⟩
theorem readO_some {s : List Opt} {o : LOpts} {ks : List Int} (h : readL s = some (o, ks)) : readO s = o ∧ readE s = 0 := by unfold readO readE; rw [h]; exact ⟨rfl, rfl⟩
theorem set6_below' {w V : World} {z : Nat} (h : Below w.heap.size w V) (hz : w.heap.size ≤ z) (a b c d e f : Value) : Below w.heap.size w (set6 V z a b c d e f) := set6_below h z hz a b c d e f
theorem step_none {s : List Opt} {k : Nat} {o : LOpts} {K : Int} {l : List UInt8} (hk : k < s.length) (hy : s[k] = (K, l)) (h : readL (s.take k) = some (o, kinds (s.take k))) (hc : (kinds (s.take k)).contains K = true ∨ withO o (K, l) = none) : readL s = none := by
  refine readL_stop s (k + 1) ?_
  rw [readL_take s k hk, h]
  unfold stepR
  rw [hy]
  rcases hc with hc | hc
  · simp only [hc, if_true]
  · by_cases hd : (kinds (s.take k)).contains K = true
    · simp only [hd, if_true]
    · simp only [hd, hc]; rfl
theorem step_some {s : List Opt} {k : Nat} {o o' : LOpts} {K : Int} {l : List UInt8} (hk : k < s.length) (hy : s[k] = (K, l)) (h : readL (s.take k) = some (o, kinds (s.take k))) (hc : (kinds (s.take k)).contains K = false) (hw : withO o (K, l) = some o') : readL (s.take (k + 1)) = some (o', kinds (s.take (k + 1))) := by
  rw [readL_take s k hk, h, kinds_take s k hk]
  unfold stepR
  rw [hy]
  simp only [hc, hw]
  rfl
theorem rread_any (A : Option Addr) (n c : Nat) (s : List Opt) (w : World) (hr : OptRd w w.heap.size A n s) (hK : okK s) (hn : n ≤ 4398046511104) :
    Calls Try.prog 45 #[.slice A n c] w fun e w' => e = .returned (rv (readO s) (readE s)) ∧ Below w.heap.size w w' := by
  have hzv : ∀ W, (zeroValue 74).run Try.prog W = .ok (.agg #[.int .i64 0, .int .i64 0, .int .i64 0, .int .u32 0, .bool false, .bool false]) W := fun W => by kernel_rfl
  have HR := Lib.hid hr
  have HK := Lib.hid hK
  have DF : Hid (Calls Try.prog 53 #[] (w.alloc (.cells #[.int .i64 0, .int .i64 0, .int .i64 0, .int .u32 0, .bool false, .bool false] 74)) fun e w1 => e = .returned (.agg #[.int .i64 1500, .int .i64 4294967295, .int .i64 0, .int .u32 0, .bool false, .bool false]) ∧
      ∃ W2, w1.alloc (.cells #[.int .i64 1500, .int .i64 4294967295, .int .i64 0, .int .u32 0, .bool false, .bool false] 74) = W2 ∧ RRJ w W2 w.heap.size w1.heap.size A n s dflt) := by
    have k0 := blk_new w 74 [.int .i64 0, .int .i64 0, .int .i64 0, .int .u32 0, .bool false, .bool false]
    have B0 : Below w.heap.size w (w.alloc (.cells #[.int .i64 0, .int .i64 0, .int .i64 0, .int .u32 0, .bool false, .bool false] 74)) := (Below.refl _ _).alloc (Nat.le_refl _) _
    refine (rdefault_any _).mono ?_
    rintro e w1 ⟨rfl, b1⟩
    have s1 := b1.size
    have s0 := B0.size
    have k1 : Blk w1 w.heap.size 74 [.int .i64 0, .int .i64 0, .int .i64 0, .int .u32 0, .bool false, .bool false] := (b1.block _ (by simp)).trans k0
    have k2 := blk_new w1 74 dflt.cells
    have B1 : Below w.heap.size w w1 := B0.trans (b1.mono s0)
    have B2 : Below w1.heap.size w1 (w1.alloc (.cells #[.int .i64 1500, .int .i64 4294967295, .int .i64 0, .int .u32 0, .bool false, .bool false] 74)) := (Below.refl _ _).alloc (Nat.le_refl _) _
    have hlt : w.heap.size < w1.heap.size := by simp at s1; omega
    have BW : Below w.heap.size w (w1.alloc (.cells #[.int .i64 1500, .int .i64 4294967295, .int .i64 0, .int .u32 0, .bool false, .bool false] 74)) := B1.trans (B2.mono B1.size)
    exact ⟨rfl, _, rfl, ⟨(B2.block _ hlt).trans k1, k2⟩, HR.out.below BW (Nat.le_refl _), BW, by omega, Nat.le_refl _, by omega⟩
  clear hr hK
  unfold rv
  go_enter Try.func45, Try.ntmps45
  go_wp2_with (first
    | (go_at_call 53; ((with_reducible refine DF.out.mono ?_); rintro e w1 ⟨rfl, W2, hw2, hj⟩; have HW := Lib.hid hw2; have HJ0 := Lib.hid hj; clear hw2 hj))
    | (rw [HW.out]))
  clear DF
  generalize w1.heap.size = z4 at *
  go_loopw [5] (fun v wr => ∃ (V : World) (k : Nat) (o : LOpts), V = wr ∧ k ≤ n ∧ v = .int .i64 k ∧ Hid (RRJ w V w.heap.size z4 A n s o ∧ readL (s.take k) = some (o, kinds (s.take k)))) (fun v _ => n - (intOf v).toNat)
  case atStart => exact ⟨_, 0, dflt, rfl, Nat.zero_le _, rfl, HJ0.out, rfl⟩
  case round =>
    obtain ⟨V, k, o, rfl, hkn, rfl, hJ⟩ := hrel
    obtain ⟨hR, hL⟩ := hJ.out
    have hlen := hR.2.1.1
    obtain ⟨-, -, -, hne, hzz2, hzz4⟩ := hR
    replace hR := hJ.out.1
    by_cases hlt : k < n
    · obtain ⟨b, off, rfl, hbl, hc⟩ := hR.2.1.2 (by omega)
      obtain ⟨x1, E, kk, cc, x2, hRd, hE, hkc, hkb⟩ := hc k (by omega)
      obtain ⟨y, hy⟩ : ∃ y, s[k]'(by omega) = y := ⟨_, rfl⟩
      have hKy := HK.out _ (List.getElem_mem (by omega : k < s.length))
      rw [hy] at x1 hRd hKy
      obtain ⟨K, l⟩ := y
      have hll : l.length = kk := hRd.1
      have RC := rround hR k hlt hn K E kk cc l c hbl x1 x2 hRd hkb hy
      have SN : ∀ (h : (kinds (s.take k)).contains K = true ∨ withO o (K, l) = none), readO s = zeroO ∧ readE s = 91 := fun h => readO_none (step_none (by omega) hy hL h)
      have SS : ∀ (o' : LOpts), (kinds (s.take k)).contains K = false → withO o (K, l) = some o' → readL (s.take (k + 1)) = some (o', kinds (s.take (k + 1))) := fun o' h h2 => step_some (by omega) hy hL h h2
      have HSN := Lib.hid SN
      have HSS := Lib.hid SS
      have hkk := Lib.hid (show kinds (s.take (k + 1)) = kinds (s.take (k + 1)) from rfl)
      clear hkk SN SS hL hJ hc hR hRd hy hkc hE
      unfold RRound at RC
      obtain ⟨d1, d2⟩ : V.cell? ⟨b, off + k * 2, none⟩ = some (.int .i64 K) ∧ V.cell? ⟨b, off + k * 2 + 1, none⟩ = some (.slice E kk cc) := ⟨x1, x2⟩
      clear x1 x2
      by_cases hsz : sizeB K kk = true
      · rw [hsz] at RC
        by_cases htw : (kinds (s.take k)).contains K = true
        · have hsn := Lib.hid (HSN.out (.inl htw))
          rw [htw] at RC
          have RC := Lib.hid RC
          clear HSN HSS htw hsz hKy hll
          go_wp2_with (first
            | (go_at_call 108; ((with_reducible refine RC.out.mono ?_); rintro e w2 ⟨rfl, h1, c2⟩; have H1 := Lib.hid h1; have C2 := Lib.hid c2; clear h1 c2))
            | (go_at_call 109; ((with_reducible refine C2.out.mono ?_); rintro e w3 ⟨rfl, h2, ⟨e1, e2⟩, c3⟩; have H2 := Lib.hid h2; have q0 := h2.1.1.cell 0; have q1 := h2.1.1.cell 1; have q2 := h2.1.1.cell 2; have q3 := h2.1.1.cell 3; have q4 := h2.1.1.cell 4; have q5 := h2.1.1.cell 5; have g0 := h2.1.1.frozen 0; have g1 := h2.1.1.frozen 1; have g2 := h2.1.1.frozen 2; have g3 := h2.1.1.frozen 3; have g4 := h2.1.1.frozen 4; have g5 := h2.1.1.frozen 5; have C3 := Lib.hid c3; clear h2 c3)))
          obtain ⟨HO, HE⟩ := hsn.out
          rw [HO, HE]
          exact bodyPost_ret (v := .tuple #[.agg #[.int .i64 0, .int .i64 0, .int .i64 0, .int .u32 0, .bool false, .bool false], .int .i64 91]) (by simp [results, Try.results45, go_sem, q0, q1, q2, q3, q4, q5, g0, g1, g2, g3, g4, g5]) rfl ⟨rfl, set6_below' H2.out.2.2.1 (Nat.le_refl _) _ _ _ _ _ _⟩
        · have htw : (kinds (s.take k)).contains K = false := by simpa using htw
          rw [htw] at RC
          have RC := Lib.hid RC
          unfold sizeB at hsz
          by_cases hk1 : K = 1
          · subst hk1
            rw [if_pos rfl] at hsz
            have hkk2 : kk = 2 := by simpa using hsz
            subst hkk2
            have hb0 := num_2 l
            obtain ⟨xx, hxx⟩ : ∃ z, num l 2 = z := ⟨_, rfl⟩
            rw [hxx] at RC hb0
            by_cases hlo : xx < 64
            · have hsn := Lib.hid (HSN.out (.inr (wth1n (by omega))))
              clear HSN HSS htw hsz hll hxx
              go_wp2_with (first
                | (go_at_call 108; ((with_reducible refine RC.out.mono ?_); rintro e w2 ⟨rfl, h1, c2⟩; have H1 := Lib.hid h1; have C2 := Lib.hid c2; clear h1 c2))
                | (go_at_call 109; ((with_reducible refine C2.out.mono ?_); rintro e w3 ⟨rfl, h2, ⟨e1, e2⟩, c3⟩; have H2 := Lib.hid h2; have q0 := h2.1.1.cell 0; have q1 := h2.1.1.cell 1; have q2 := h2.1.1.cell 2; have q3 := h2.1.1.cell 3; have q4 := h2.1.1.cell 4; have q5 := h2.1.1.cell 5; have g0 := h2.1.1.frozen 0; have g1 := h2.1.1.frozen 1; have g2 := h2.1.1.frozen 2; have g3 := h2.1.1.frozen 3; have g4 := h2.1.1.frozen 4; have g5 := h2.1.1.frozen 5; have C3 := Lib.hid c3; clear h2 c3))
                | (go_at_call 110; ((with_reducible refine C3.out.mono ?_); rintro e w4 ⟨⟨x, rfl, ⟨hx0, hx1⟩, hx⟩, rfl, c4⟩; have hx := (hx (by omega)).symm; subst hx; have C4 := Lib.hid c4; clear c4)))
              obtain ⟨HO, HE⟩ := hsn.out
              rw [HO, HE]
              exact bodyPost_ret (v := .tuple #[.agg #[.int .i64 0, .int .i64 0, .int .i64 0, .int .u32 0, .bool false, .bool false], .int .i64 91]) (by simp [results, Try.results45, go_sem, q0, q1, q2, q3, q4, q5, g0, g1, g2, g3, g4, g5]) rfl ⟨rfl, set6_below' H2.out.2.2.1 (Nat.le_refl _) _ _ _ _ _ _⟩
            by_cases hhi : 16384 < xx
            · have hsn := Lib.hid (HSN.out (.inr (wth1n (by omega))))
              clear HSN HSS htw hsz hll hxx
              go_wp2_with (first
                | (go_at_call 108; ((with_reducible refine RC.out.mono ?_); rintro e w2 ⟨rfl, h1, c2⟩; have H1 := Lib.hid h1; have C2 := Lib.hid c2; clear h1 c2))
                | (go_at_call 109; ((with_reducible refine C2.out.mono ?_); rintro e w3 ⟨rfl, h2, ⟨e1, e2⟩, c3⟩; have H2 := Lib.hid h2; have q0 := h2.1.1.cell 0; have q1 := h2.1.1.cell 1; have q2 := h2.1.1.cell 2; have q3 := h2.1.1.cell 3; have q4 := h2.1.1.cell 4; have q5 := h2.1.1.cell 5; have g0 := h2.1.1.frozen 0; have g1 := h2.1.1.frozen 1; have g2 := h2.1.1.frozen 2; have g3 := h2.1.1.frozen 3; have g4 := h2.1.1.frozen 4; have g5 := h2.1.1.frozen 5; have C3 := Lib.hid c3; clear h2 c3))
                | (go_at_call 110; ((with_reducible refine C3.out.mono ?_); rintro e w4 ⟨⟨x, rfl, ⟨hx0, hx1⟩, hx⟩, rfl, c4⟩; have hx := (hx (by omega)).symm; subst hx; have C4 := Lib.hid c4; clear c4)))
              obtain ⟨HO, HE⟩ := hsn.out
              rw [HO, HE]
              exact bodyPost_ret (v := .tuple #[.agg #[.int .i64 0, .int .i64 0, .int .i64 0, .int .u32 0, .bool false, .bool false], .int .i64 91]) (by simp [results, Try.results45, go_sem, q0, q1, q2, q3, q4, q5, g0, g1, g2, g3, g4, g5]) rfl ⟨rfl, set6_below' H2.out.2.2.1 (Nat.le_refl _) _ _ _ _ _ _⟩
            · have HSW := Lib.hid (HSS.out { o with mru := xx } htw (by rw [← hxx]; exact wth1 (by omega)))
              clear HSN HSS htw hsz hll hxx
              go_wp2_with (first
                | (go_at_call 108; ((with_reducible refine RC.out.mono ?_); rintro e w2 ⟨rfl, h1, c2⟩; have H1 := Lib.hid h1; have C2 := Lib.hid c2; clear h1 c2))
                | (go_at_call 109; ((with_reducible refine C2.out.mono ?_); rintro e w3 ⟨rfl, h2, ⟨e1, e2⟩, c3⟩; have H2 := Lib.hid h2; have p0 := h2.1.2.cell 0; have p1 := h2.1.2.cell 1; have p2 := h2.1.2.cell 2; have p3 := h2.1.2.cell 3; have p4 := h2.1.2.cell 4; have p5 := h2.1.2.cell 5; have k0 := h2.1.2.frozen 0; have k1 := h2.1.2.frozen 1; have k2 := h2.1.2.frozen 2; have k3 := h2.1.2.frozen 3; have k4 := h2.1.2.frozen 4; have k5 := h2.1.2.frozen 5; have C3 := Lib.hid c3; clear h2 c3))
                | (go_at_call 110; ((with_reducible refine C3.out.mono ?_); rintro e w4 ⟨⟨x, rfl, ⟨hx0, hx1⟩, hx⟩, rfl, c4⟩; have hx := (hx (by omega)).symm; subst hx; have C4 := Lib.hid c4; clear c4)))
              go_roundw
              case rel => exact ⟨_, k + 1, { o with mru := xx }, rfl, by omega, by go_num, H2.out.put 0 (.int .i64 xx) _ rfl, HSW.out⟩
              case measure => simp [intOf]; omega
          by_cases hk2 : K = 2
          · subst hk2
            rw [if_neg (by decide), if_pos (.inl rfl)] at hsz
            have hkk2 : kk = 4 := by simpa using hsz
            subst hkk2
            have hb0 := num_4 l
            obtain ⟨xx, hxx⟩ : ∃ z, num l 4 = z := ⟨_, rfl⟩
            rw [hxx] at RC hb0
            have HSW := Lib.hid (HSS.out { o with accm := xx } htw (by rw [← hxx]; exact wth2 hll))
            clear HSN HSS htw hsz hll hxx
            go_wp2_with (first
              | (go_at_call 108; ((with_reducible refine RC.out.mono ?_); rintro e w2 ⟨rfl, h1, c2⟩; have H1 := Lib.hid h1; have C2 := Lib.hid c2; clear h1 c2))
              | (go_at_call 109; ((with_reducible refine C2.out.mono ?_); rintro e w3 ⟨rfl, h2, ⟨e1, e2⟩, c3⟩; have H2 := Lib.hid h2; have p0 := h2.1.2.cell 0; have p1 := h2.1.2.cell 1; have p2 := h2.1.2.cell 2; have p3 := h2.1.2.cell 3; have p4 := h2.1.2.cell 4; have p5 := h2.1.2.cell 5; have k0 := h2.1.2.frozen 0; have k1 := h2.1.2.frozen 1; have k2 := h2.1.2.frozen 2; have k3 := h2.1.2.frozen 3; have k4 := h2.1.2.frozen 4; have k5 := h2.1.2.frozen 5; have C3 := Lib.hid c3; clear h2 c3))
              | (go_at_call 110; ((with_reducible refine C3.out.mono ?_); rintro e w4 ⟨⟨x, rfl, ⟨hx0, hx1⟩, hx⟩, rfl, c4⟩; have hx := (hx (by omega)).symm; subst hx; have C4 := Lib.hid c4; clear c4)))
            go_roundw
            case rel => exact ⟨_, k + 1, { o with accm := xx }, rfl, by omega, by go_num, H2.out.put 1 (.int .i64 xx) _ rfl, HSW.out⟩
            case measure => simp [intOf]; omega
          by_cases hk3 : K = 3
          · subst hk3
            by_cases hm0 : mth l = 0
            · have hsn := Lib.hid (HSN.out (.inr (wth3n hm0)))
              rw [hm0] at RC
              clear HSN HSS htw hsz hll
              go_wp2_with (first
                | (go_at_call 108; ((with_reducible refine RC.out.mono ?_); rintro e w2 ⟨rfl, h1, c2⟩; have H1 := Lib.hid h1; have C2 := Lib.hid c2; clear h1 c2))
                | (go_at_call 109; ((with_reducible refine C2.out.mono ?_); rintro e w3 ⟨rfl, h2, ⟨e1, e2⟩, c3⟩; have H2 := Lib.hid h2; have C3 := Lib.hid c3; clear h2 c3))
                | (go_at_call 110; ((with_reducible refine C3.out.mono ?_); rintro e w4 ⟨⟨x, rfl, ⟨hx0, hx1⟩, hx⟩, rfl, c4⟩; clear hx; have C4 := Lib.hid c4; clear c4))
                | (go_at_call 50; ((with_reducible refine C4.out.mono ?_); rintro e w5 ⟨rfl, h4, ⟨f1, f2⟩, c5⟩; have H4 := Lib.hid h4; have q0 := h4.1.1.cell 0; have q1 := h4.1.1.cell 1; have q2 := h4.1.1.cell 2; have q3 := h4.1.1.cell 3; have q4 := h4.1.1.cell 4; have q5 := h4.1.1.cell 5; have g0 := h4.1.1.frozen 0; have g1 := h4.1.1.frozen 1; have g2 := h4.1.1.frozen 2; have g3 := h4.1.1.frozen 3; have g4 := h4.1.1.frozen 4; have g5 := h4.1.1.frozen 5; have C5 := Lib.hid c5; clear h4 c5)))
              obtain ⟨HO, HE⟩ := hsn.out
              rw [HO, HE]
              exact bodyPost_ret (v := .tuple #[.agg #[.int .i64 0, .int .i64 0, .int .i64 0, .int .u32 0, .bool false, .bool false], .int .i64 91]) (by simp [results, Try.results45, go_sem, q0, q1, q2, q3, q4, q5, g0, g1, g2, g3, g4, g5]) rfl ⟨rfl, set6_below' H4.out.2.2.1 (Nat.le_refl _) _ _ _ _ _ _⟩
            · have HSW := Lib.hid (HSS.out { o with auth := mth l } htw (wth3 hm0))
              have hm1 : (mth l == 0) = false := by simpa using hm0
              generalize mth l = mm at *
              clear HSN HSS htw hsz hll
              go_wp2_with (first
                | (go_at_call 108; ((with_reducible refine RC.out.mono ?_); rintro e w2 ⟨rfl, h1, c2⟩; have H1 := Lib.hid h1; have C2 := Lib.hid c2; clear h1 c2))
                | (go_at_call 109; ((with_reducible refine C2.out.mono ?_); rintro e w3 ⟨rfl, h2, ⟨e1, e2⟩, c3⟩; have H2 := Lib.hid h2; have C3 := Lib.hid c3; clear h2 c3))
                | (go_at_call 110; ((with_reducible refine C3.out.mono ?_); rintro e w4 ⟨⟨x, rfl, ⟨hx0, hx1⟩, hx⟩, rfl, c4⟩; clear hx; have C4 := Lib.hid c4; clear c4))
                | (go_at_call 50; ((with_reducible refine C4.out.mono ?_); rintro e w5 ⟨rfl, h4, ⟨f1, f2⟩, c5⟩; have H4 := Lib.hid h4; have C5 := Lib.hid c5; clear h4 c5))
                | (go_at_call 50; ((with_reducible refine C5.out.mono ?_); rintro e w6 ⟨rfl, h5⟩; have H5 := Lib.hid h5; have p0 := h5.1.2.cell 0; have p1 := h5.1.2.cell 1; have p2 := h5.1.2.cell 2; have p3 := h5.1.2.cell 3; have p4 := h5.1.2.cell 4; have p5 := h5.1.2.cell 5; have k0 := h5.1.2.frozen 0; have k1 := h5.1.2.frozen 1; have k2 := h5.1.2.frozen 2; have k3 := h5.1.2.frozen 3; have k4 := h5.1.2.frozen 4; have k5 := h5.1.2.frozen 5; clear h5)))
              go_roundw
              case rel => exact ⟨_, k + 1, { o with auth := mm }, rfl, by omega, by go_num, H5.out.put 2 (.int .i64 mm) _ rfl, HSW.out⟩
              case measure => simp [intOf]; omega
          by_cases hk5 : K = 5
          · subst hk5
            rw [if_neg (by decide), if_pos (.inr rfl)] at hsz
            have hkk2 : kk = 4 := by simpa using hsz
            subst hkk2
            have hb0 := num_4 l
            obtain ⟨xx, hxx⟩ : ∃ z, num l 4 = z := ⟨_, rfl⟩
            rw [hxx] at RC hb0
            by_cases hz0 : xx = 0
            · have hsn := Lib.hid (HSN.out (.inr (wth5n (by rw [hxx, hz0]))))
              subst hz0
              clear HSN HSS htw hsz hll hxx
              go_wp2_with (first
                | (go_at_call 108; ((with_reducible refine RC.out.mono ?_); rintro e w2 ⟨rfl, h1, c2⟩; have H1 := Lib.hid h1; have C2 := Lib.hid c2; clear h1 c2))
                | (go_at_call 109; ((with_reducible refine C2.out.mono ?_); rintro e w3 ⟨rfl, h2, ⟨e1, e2⟩, c3⟩; have H2 := Lib.hid h2; have q0 := h2.1.1.cell 0; have q1 := h2.1.1.cell 1; have q2 := h2.1.1.cell 2; have q3 := h2.1.1.cell 3; have q4 := h2.1.1.cell 4; have q5 := h2.1.1.cell 5; have g0 := h2.1.1.frozen 0; have g1 := h2.1.1.frozen 1; have g2 := h2.1.1.frozen 2; have g3 := h2.1.1.frozen 3; have g4 := h2.1.1.frozen 4; have g5 := h2.1.1.frozen 5; have C3 := Lib.hid c3; clear h2 c3))
                | (go_at_call 110; ((with_reducible refine C3.out.mono ?_); rintro e w4 ⟨⟨x, rfl, ⟨hx0, hx1⟩, hx⟩, rfl, c4⟩; have hx := hx (by omega); subst hx; have C4 := Lib.hid c4; clear c4)))
              obtain ⟨HO, HE⟩ := hsn.out
              rw [HO, HE]
              exact bodyPost_ret (v := .tuple #[.agg #[.int .i64 0, .int .i64 0, .int .i64 0, .int .u32 0, .bool false, .bool false], .int .i64 91]) (by simp [results, Try.results45, go_sem, q0, q1, q2, q3, q4, q5, g0, g1, g2, g3, g4, g5]) rfl ⟨rfl, set6_below' H2.out.2.2.1 (Nat.le_refl _) _ _ _ _ _ _⟩
            · have HSW := Lib.hid (HSS.out { o with magic := xx } htw (by rw [← hxx]; exact wth5 ⟨hll, by rw [hxx]; exact hz0⟩))
              have hz1 : (xx == 0) = false := by simpa using hz0
              clear HSN HSS htw hsz hll hxx
              go_wp2_with (first
                | (go_at_call 108; ((with_reducible refine RC.out.mono ?_); rintro e w2 ⟨rfl, h1, c2⟩; have H1 := Lib.hid h1; have C2 := Lib.hid c2; clear h1 c2))
                | (go_at_call 109; ((with_reducible refine C2.out.mono ?_); rintro e w3 ⟨rfl, h2, ⟨e1, e2⟩, c3⟩; have H2 := Lib.hid h2; have p0 := h2.1.2.cell 0; have p1 := h2.1.2.cell 1; have p2 := h2.1.2.cell 2; have p3 := h2.1.2.cell 3; have p4 := h2.1.2.cell 4; have p5 := h2.1.2.cell 5; have k0 := h2.1.2.frozen 0; have k1 := h2.1.2.frozen 1; have k2 := h2.1.2.frozen 2; have k3 := h2.1.2.frozen 3; have k4 := h2.1.2.frozen 4; have k5 := h2.1.2.frozen 5; have C3 := Lib.hid c3; clear h2 c3))
                | (go_at_call 110; ((with_reducible refine C3.out.mono ?_); rintro e w4 ⟨⟨x, rfl, ⟨hx0, hx1⟩, hx⟩, rfl, c4⟩; have hx := (hx (by omega)).symm; subst hx; have C4 := Lib.hid c4; clear c4)))
              go_roundw
              case rel => exact ⟨_, k + 1, { o with magic := xx }, rfl, by omega, by go_num, H2.out.put 3 (.int .u32 xx) _ rfl, HSW.out⟩
              case measure => simp [intOf]; omega
          by_cases hk7 : K = 7
          · subst hk7
            rw [if_neg (by decide), if_neg (by decide), if_neg (by decide), if_pos (.inl rfl)] at hsz
            have hkk2 : kk = 0 := by simpa using hsz
            subst hkk2
            have HSW := Lib.hid (HSS.out { o with pfc := true } htw (wth7 hll))
            clear HSN HSS htw hsz hll
            go_wp2_with (first
              | (go_at_call 108; ((with_reducible refine RC.out.mono ?_); rintro e w2 ⟨rfl, h1, c2⟩; have H1 := Lib.hid h1; have C2 := Lib.hid c2; clear h1 c2))
              | (go_at_call 109; ((with_reducible refine C2.out.mono ?_); rintro e w3 ⟨rfl, h2, ⟨e1, e2⟩, c3⟩; have H2 := Lib.hid h2; have p0 := h2.1.2.cell 0; have p1 := h2.1.2.cell 1; have p2 := h2.1.2.cell 2; have p3 := h2.1.2.cell 3; have p4 := h2.1.2.cell 4; have p5 := h2.1.2.cell 5; have k0 := h2.1.2.frozen 0; have k1 := h2.1.2.frozen 1; have k2 := h2.1.2.frozen 2; have k3 := h2.1.2.frozen 3; have k4 := h2.1.2.frozen 4; have k5 := h2.1.2.frozen 5; have C3 := Lib.hid c3; clear h2 c3))
              | (go_at_call 110; ((with_reducible refine C3.out.mono ?_); rintro e w4 ⟨⟨x, rfl, ⟨hx0, hx1⟩, hx⟩, rfl, c4⟩; clear hx; have C4 := Lib.hid c4; clear c4)))
            go_roundw
            case rel => exact ⟨_, k + 1, { o with pfc := true }, rfl, by omega, by go_num, H2.out.put 4 (.bool true) _ rfl, HSW.out⟩
            case measure => simp [intOf]; omega
          by_cases hk8 : K = 8
          · subst hk8
            rw [if_neg (by decide), if_neg (by decide), if_neg (by decide), if_pos (.inr rfl)] at hsz
            have hkk2 : kk = 0 := by simpa using hsz
            subst hkk2
            have HSW := Lib.hid (HSS.out { o with acfc := true } htw (wth8 hll))
            clear HSN HSS htw hsz hll
            go_wp2_with (first
              | (go_at_call 108; ((with_reducible refine RC.out.mono ?_); rintro e w2 ⟨rfl, h1, c2⟩; have H1 := Lib.hid h1; have C2 := Lib.hid c2; clear h1 c2))
              | (go_at_call 109; ((with_reducible refine C2.out.mono ?_); rintro e w3 ⟨rfl, h2, ⟨e1, e2⟩, c3⟩; have H2 := Lib.hid h2; have p0 := h2.1.2.cell 0; have p1 := h2.1.2.cell 1; have p2 := h2.1.2.cell 2; have p3 := h2.1.2.cell 3; have p4 := h2.1.2.cell 4; have p5 := h2.1.2.cell 5; have k0 := h2.1.2.frozen 0; have k1 := h2.1.2.frozen 1; have k2 := h2.1.2.frozen 2; have k3 := h2.1.2.frozen 3; have k4 := h2.1.2.frozen 4; have k5 := h2.1.2.frozen 5; have C3 := Lib.hid c3; clear h2 c3))
              | (go_at_call 110; ((with_reducible refine C3.out.mono ?_); rintro e w4 ⟨⟨x, rfl, ⟨hx0, hx1⟩, hx⟩, rfl, c4⟩; clear hx; have C4 := Lib.hid c4; clear c4)))
            go_roundw
            case rel => exact ⟨_, k + 1, { o with acfc := true }, rfl, by omega, by go_num, H2.out.put 5 (.bool true) _ rfl, HSW.out⟩
            case measure => simp [intOf]; omega
          rw [if_neg hk1, if_neg (by omega), if_neg hk3, if_neg (by omega)] at hsz
          cases hsz
      · have hsz : sizeB K kk = false := by simpa using hsz
        have hsn := Lib.hid (HSN.out (.inr (size_no (by rw [hll]; exact hsz))))
        rw [hsz] at RC
        have RC := Lib.hid RC
        clear HSN HSS hsz hll hKy
        go_wp2_with (first
          | (go_at_call 108; ((with_reducible refine RC.out.mono ?_); rintro e w2 ⟨rfl, h1, c2⟩; have H1 := Lib.hid h1; have q0 := h1.1.1.cell 0; have q1 := h1.1.1.cell 1; have q2 := h1.1.1.cell 2; have q3 := h1.1.1.cell 3; have q4 := h1.1.1.cell 4; have q5 := h1.1.1.cell 5; have g0 := h1.1.1.frozen 0; have g1 := h1.1.1.frozen 1; have g2 := h1.1.1.frozen 2; have g3 := h1.1.1.frozen 3; have g4 := h1.1.1.frozen 4; have g5 := h1.1.1.frozen 5; have C2 := Lib.hid c2; clear h1 c2)))
        obtain ⟨HO, HE⟩ := hsn.out
        rw [HO, HE]
        exact bodyPost_ret (v := .tuple #[.agg #[.int .i64 0, .int .i64 0, .int .i64 0, .int .u32 0, .bool false, .bool false], .int .i64 91]) (by simp [results, Try.results45, go_sem, q0, q1, q2, q3, q4, q5, g0, g1, g2, g3, g4, g5]) rfl ⟨rfl, set6_below' H1.out.2.2.1 (Nat.le_refl _) _ _ _ _ _ _⟩
    · have hkn' : k = n := by omega
      subst hkn'
      rw [List.take_of_length_le (by omega)] at hL
      obtain ⟨HO, HE⟩ := readO_some hL
      have HB := Lib.hid hR.2.2.1
      have q0 := hR.1.1.cell 0; have q1 := hR.1.1.cell 1; have q2 := hR.1.1.cell 2; have q3 := hR.1.1.cell 3; have q4 := hR.1.1.cell 4; have q5 := hR.1.1.cell 5; have g0 := hR.1.1.frozen 0; have g1 := hR.1.1.frozen 1; have g2 := hR.1.1.frozen 2; have g3 := hR.1.1.frozen 3; have g4 := hR.1.1.frozen 4; have g5 := hR.1.1.frozen 5
      obtain ⟨p0, p1, p2, p3, p4, p5⟩ : cells6 V z4 o := ⟨hR.1.2.cell 0, hR.1.2.cell 1, hR.1.2.cell 2, hR.1.2.cell 3, hR.1.2.cell 4, hR.1.2.cell 5⟩
      have hsn := Lib.hid (And.intro HO HE)
      clear hR hL hJ HO HE
      go_wp2
      obtain ⟨HO, HE⟩ := hsn.out
      rw [HO, HE]
      exact bodyPost_ret (v := .tuple #[.agg #[.int .i64 o.mru, .int .i64 o.accm, .int .i64 o.auth, .int .u32 o.magic, .bool o.pfc, .bool o.acfc], .int .i64 0]) (by simp [results, Try.results45, go_sem, q0, q1, q2, q3, q4, q5, g0, g1, g2, g3, g4, g5]) rfl ⟨rfl, set6_below' HB.out (Nat.le_refl _) _ _ _ _ _ _⟩
end Go.Proofs.Ytonbdcajepmgbaa
