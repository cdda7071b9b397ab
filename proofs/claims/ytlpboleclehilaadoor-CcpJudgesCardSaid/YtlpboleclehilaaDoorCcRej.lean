/-
  ccp.Reject; tetherlaw22.own.
-/
import Derived.Test.YtlpboleclehilaaDoorCcNak
namespace Go.Proofs.YtlpboleclehilaaDoor
open Go.RowKit
set_option maxRecDepth 100000
set_option maxHeartbeats 4000000
set_option linter.unusedSimpArgs false
set_option linter.unusedVariables false

def rjK (K b : Int) (s : List Opt) (k : Nat) : Int := if metK K s k = true then 0 else b
theorem reject_ccp (cv : Array Value) (D B : Int) (A : Option Addr) (n c Bb : Nat) (s : List Opt) (w : World) (hr0 : OptRd w Bb A n s) (hBb : Bb ≤ w.heap.size) (hn : n ≤ 4398046511103) :
    Calls Tryd.prog 14 #[.agg cv, .agg #[.int .i64 D, .int .i64 B], .slice A n c] w fun e w' => NkR w (rjK 26 D s s.length) (rjK 21 B s s.length) true e w' := by
  have hr := hr0.wide hBb
  have hlen := hr.1
  obtain ⟨X, hX⟩ : ∃ X, rjK 26 D s s.length = X := ⟨_, rfl⟩
  obtain ⟨Y, hY⟩ : ∃ Y, rjK 21 B s s.length = Y := ⟨_, rfl⟩
  rw [hX, hY]
  have HX := Lib.hid hX
  have HY := Lib.hid hY
  clear hX hY
  obtain ⟨W3, hW3⟩ : ∃ W3, ((w.alloc (.cells cv 25)).alloc (.cells #[.int .i64 D, .int .i64 B] 27)).alloc (.cells #[.int .i64 0, .int .i64 0] 27) = W3 := ⟨_, rfl⟩
  have B3 : Below w.heap.size w W3 := by rw [← hW3]; exact (((Below.refl _ _).alloc (Nat.le_refl _) _).alloc (by simp) _).alloc (by simp; omega) _
  have s3 : W3.heap.size = w.heap.size + 3 := by rw [← hW3]; simp
  have kO : Blk W3 (w.heap.size + 1) 27 [.int .i64 D, .int .i64 B] := by
    rw [← hW3]
    have h := blk_new (w.alloc (.cells cv 25)) 27 [.int .i64 D, .int .i64 B]
    rw [World.size_alloc] at h
    exact (Below.heap_alloc _ _ _ (by simp)).trans h
  have kR : Blk W3 (w.heap.size + 2) 27 [.int .i64 0, .int .i64 0] := by
    rw [← hW3]
    have h := blk_new ((w.alloc (.cells cv 25)).alloc (.cells #[.int .i64 D, .int .i64 B] 27)) 27 [.int .i64 0, .int .i64 0]
    rw [World.size_alloc, World.size_alloc] at h
    exact h
  obtain ⟨W4, hW4⟩ : ∃ W4, W3.alloc (.cells #[.int .i64 D, .int .i64 B] 27) = W4 := ⟨_, rfl⟩
  have B4 : Below W3.heap.size W3 W4 := by rw [← hW4]; exact (Below.refl _ _).alloc (Nat.le_refl _) _
  have kT : Blk W4 (w.heap.size + 3) 27 [.int .i64 D, .int .i64 B] := by rw [← hW4, ← s3]; exact blk_new W3 _ _
  have s4 : W4.heap.size = w.heap.size + 4 := by rw [← hW4]; simp [s3]
  have o0 := kO.cell 0
  have o1 := kO.cell 1
  have HW3 := Lib.hid hW3
  have HW4 := Lib.hid hW4
  have HR := Lib.hid hr
  have kR4 : Blk W4 (w.heap.size + 2) 27 [.int .i64 0, .int .i64 0] := (B4.block _ (by omega)).trans kR
  have HK := Lib.hid kR4
  have HB := Lib.hid (B3.trans (B4.mono (by omega)))
  have HT := Lib.hid kT
  clear hW3 hW4 kO kR kT B3 B4 kR4 hr hr0
  go_enter Tryd.func14, Tryd.ntmps14
  go_upto_region 1 with (fail)
  rw [HW3.out]
  clear HW3
  go_wp2_with (rw [HW4.out])
  go_loopw [14] (fun i wr => ∃ (V : World) (k : Nat), V = wr ∧ k ≤ n ∧ i = .int .i64 k ∧ Hid (Blk V (w.heap.size + 3) 27 [.int .i64 (rjK 26 D s k), .int .i64 (rjK 21 B s k)] ∧ W4.grownBy V (some (w.heap.size + 3)))) (fun i _ => n - (intOf i).toNat)
  case atStart => exact ⟨_, 0, rfl, Nat.zero_le _, rfl, HT.out, World.grownBy.refl _ _⟩
  case round =>
    obtain ⟨V, k, rfl, hkn, rfl, hJ⟩ := hrel
    obtain ⟨hT, hG⟩ := hJ.out
    have hBw : Below w.heap.size w V := HB.out.grown hG (by omega) (fun q e => by injection e; omega)
    have sV := hG.size
    by_cases hlt : k < n
    · obtain ⟨b, off, rfl, hbl, hc⟩ := HR.out.2 (by omega)
      obtain ⟨x1, E, kk, d, x2, hRd, hE, hkc, hkb⟩ := hc k (by omega)
      have hks : k < s.length := by omega
      have hl26 := left26 D s k hks
      have hl21 := left21 B s k hks
      obtain ⟨y, hy⟩ : ∃ y, s[k]'(by omega) = y := ⟨_, rfl⟩
      rw [hy] at x1 hRd hl26 hl21
      obtain ⟨K, l⟩ := y
      have v1 : V.cell? ⟨b, off + k * 2, none⟩ = some (.int .i64 K) := (hBw.cell hbl).trans x1
      have v2 : V.cell? ⟨b, off + k * 2 + 1, none⟩ = some (.slice E kk d) := (hBw.cell hbl).trans x2
      have hbV : b < V.heap.size := by omega
      have TK : Hid (Calls Tryd.prog 26 #[.pointer (some ⟨w.heap.size + 3, 0, none⟩), .int .i64 K] (V.alloc (.cells #[.int .i64 K, .slice E kk d] 61)) fun e w' => ∃ q, e = .returned (.int .i64 q) ∧ Hid (Blk w' (w.heap.size + 3) 27 [.int .i64 (rjK 26 D s (k + 1)), .int .i64 (rjK 21 B s (k + 1))] ∧ W4.grownBy w' (some (w.heap.size + 3)))) := by
        have BA : Below V.heap.size V (V.alloc (.cells #[.int .i64 K, .slice E kk d] 61)) := (Below.refl _ _).alloc (Nat.le_refl _) _
        have hT2 : Blk (V.alloc (.cells #[.int .i64 K, .slice E kk d] 61)) (w.heap.size + 3) 27 [.int .i64 (rjK 26 D s k), .int .i64 (rjK 21 B s k)] := (BA.block _ (Blk.lt hT)).trans hT
        refine (take_any (w.heap.size + 3) _ _ K _ hT2).mono ?_
        rintro e w' ⟨rfl, hb, hg⟩
        unfold rjK at hb
        rw [hl26, hl21] at hb
        exact ⟨_, rfl, Lib.hid ⟨hb, only_then (grown_into hG BA) hg (fun g e => .inl e)⟩⟩
      clear hc hy x1 x2 hRd hE hkc hkb hJ hT hG hBw hl26 hl21
      go_wp2_with (go_at_call 26; ((with_reducible refine TK.out.mono ?_); rintro e w5 ⟨q, rfl, HN⟩))
      go_roundw
      case rel => exact ⟨_, k + 1, rfl, by omega, by go_num, HN.out⟩
      case measure => simp [intOf]; omega
    · have hke : k = n := by omega
      subst hke
      have kR := (hG.block _ (Blk.lt HK.out) (fun e => by injection e; omega)).trans HK.out
      have kR : Blk V (w.heap.size + 1 + 1) 27 [.int .i64 0, .int .i64 0] := kR
      rw [← hlen, HX.out, HY.out] at hT
      have t0 := hT.cell 0
      have t1 := hT.cell 1
      have r0 := kR.cell 0
      have r1 := kR.cell 1
      have f0 := kR.frozen 0
      have f1 := kR.frozen 1
      have kE := Blk.set_ (Blk.set_ kR 0 (.int .i64 X)) 1 (.int .i64 Y)
      have FN : Hid (Below w.heap.size w ((V.setCell ⟨w.heap.size + 1 + 1, 0, none⟩ (.int .i64 X)).setCell ⟨w.heap.size + 1 + 1, 1, none⟩ (.int .i64 Y))) := (hBw.setCell (by show w.heap.size ≤ w.heap.size + 1 + 1; omega) _).setCell (by show w.heap.size ≤ w.heap.size + 1 + 1; omega) _
      have e0 := kE.cell 0
      have e1 := kE.cell 1
      clear kE hJ hT hG hBw kR
      go_wp2
      exact bodyPost_ret (v := .tuple #[.agg #[.int .i64 X, .int .i64 Y], .bool true]) (by simp [results, Tryd.results14, go_sem, e0, e1]) rfl ⟨rfl, FN.out⟩
theorem cown22_any (D B : Int) (w : World) : Calls Tryd.prog 13 #[.agg #[.int .i64 D, .int .i64 B]] w fun e w' => e = .returned (.agg #[.int .i64 D, .int .i64 B]) ∧ Below w.heap.size w w' := by
  obtain ⟨W1, hW1⟩ : ∃ W1, w.alloc (.cells #[.int .i64 D, .int .i64 B] 27) = W1 := ⟨_, rfl⟩
  have k1 : Blk W1 w.heap.size 27 [.int .i64 D, .int .i64 B] := by rw [← hW1]; exact blk_new w _ _
  have B1 : Below w.heap.size w W1 := by rw [← hW1]; exact (Below.refl _ _).alloc (Nat.le_refl _) _
  have s1 : W1.heap.size = w.heap.size + 1 := by rw [← hW1]; simp
  obtain ⟨W2, hW2⟩ : ∃ W2, W1.alloc (.cells #[.int .i64 D, .int .i64 B] 36) = W2 := ⟨_, rfl⟩
  have k2 : Blk W2 (w.heap.size + 1) 36 [.int .i64 D, .int .i64 B] := by rw [← hW2, ← s1]; exact blk_new W1 _ _
  have B2 : Below W1.heap.size W1 W2 := by rw [← hW2]; exact (Below.refl _ _).alloc (Nat.le_refl _) _
  have c0 := k1.cell 0
  have c1 := k1.cell 1
  have HW := Lib.hid hW1
  have HB := Lib.hid (B1.trans (B2.mono (by omega)))
  have e0 : (W1.alloc (.cells #[.int .i64 D, .int .i64 B] 36)).cell? ⟨w.heap.size + 1, 0, none⟩ = some (.int .i64 D) := by rw [hW2]; exact k2.cell 0
  have e1 : (W1.alloc (.cells #[.int .i64 D, .int .i64 B] 36)).cell? ⟨w.heap.size + 1, 1, none⟩ = some (.int .i64 B) := by rw [hW2]; exact k2.cell 1
  rw [← hW2] at HB
  clear k1 B1 hW1 k2 B2 hW2
  go_enter Tryd.func13, Tryd.ntmps13
  go_wp2_with (rw [HW.out])
  exact bodyPost_ret (v := .agg #[.int .i64 D, .int .i64 B]) (by simp [results, Tryd.results13, go_sem, e0, e1]) rfl ⟨rfl, HB.out⟩
end Go.Proofs.YtlpboleclehilaaDoor
