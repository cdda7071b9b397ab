/-
  tetherlaw08.filled: a queue and the reference's list, filled alike.
-/
import Derived.Test.YtonbdcajepmgbaaTmTie
import Derived.Test.YtonbdcajepmgbaaTmRAll2
import Derived.Test.YtonbdcajepmgbaaTmAw
import Derived.Test.YtonbdcajepmgbaaTmOps
namespace Go.Proofs.Ytonbdcajepmgbaa
open Go.RowKit Go.Shelf
set_option maxRecDepth 100000
set_option maxHeartbeats 2000000
set_option linter.unusedSimpArgs false
set_option linter.unusedVariables false

theorem OwnT.tm {w w' : World} {base g : Nat} {u v v' : Value} {xs : List T2} (h : OwnT w base u xs) (t : TmF g v v' w w') (hg : u.ownBlock ≠ some g) (hv : ∀ i, u.ownBlock = some i → v.ownBlock ≠ some i) : OwnT w' base u xs := by
  refine ⟨h.1, ?_⟩
  rcases h.2 with h0 | ⟨k, cap, cur, e, hb, hk, h1, h2, h3, h4⟩
  · exact .inl h0
  · have e2 : u.ownBlock = some k := by rw [e]; simp [Value.ownBlock]
    refine .inr ⟨k, cap, cur, e, hb, (t.block k (Array.getElem?_eq_some_iff.1 hk).1 (fun e3 => hg (by rw [e2, e3])) (hv k e2)).trans hk, h1, h2, h3, h4⟩
/-- a queue and the reference's, apart -/
structure Two (w W : World) (q r : Nat) (xs ys : List T2) (v u : Value) : Prop where
  a : Qs W w.heap.size q xs v
  b : Rq W w.heap.size r ys u
  ne : q ≠ r
  vr : v.ownBlock ≠ some r
  uq : u.ownBlock ≠ some q
  d : ∀ i, u.ownBlock = some i → v.ownBlock ≠ some i
  q0 : w.heap.size ≤ q
  r0 : w.heap.size ≤ r
  below : Below w.heap.size w W
theorem Two.later {w W W' : World} {q r : Nat} {xs ys : List T2} {v u : Value} (h : Two w W q r xs ys v u) (hB : Below W.heap.size W W') : Two w W' q r xs ys v u :=
  ⟨h.a.later hB, h.b.later hB, h.ne, h.vr, h.uq, h.d, h.q0, h.r0, h.below.trans (hB.mono h.below.size)⟩
theorem Two.setq {w W W' : World} {q r : Nat} {xs xs' ys : List T2} {v v' u : Value} (h : Two w W q r xs ys v u) (hq : Qs W' w.heap.size q xs' v') (t : TmF q v v' W W') : Two w W' q r xs' ys v' u := by
  have hub := h.b.own.block
  have hrl := Blk.lt h.b.blk
  refine ⟨hq, ⟨(t.block r hrl h.ne.symm h.vr).trans h.b.blk, h.b.own.tm t h.uq h.d, h.b.ne⟩, h.ne, ?_, h.uq, ?_, h.q0, h.r0, h.below.trans (t.below h.below.size h.q0 (fun k e => (h.a.own.block k e).1))⟩
  · rcases t.own with e | e | ⟨k, e, hk⟩
    · rw [e]; exact h.vr
    · rw [e]; simp
    · rw [e]; intro e2; injection e2 with e2; omega
  · intro i ei
    rcases t.own with e | e | ⟨k, e, hk⟩
    · rw [e]; exact h.d i ei
    · rw [e]; simp
    · rw [e]; intro e2; injection e2 with e2; have := (hub i ei).2; omega
theorem Two.setr {w W W' : World} {q r : Nat} {xs ys ys' : List T2} {v u u' : Value} (h : Two w W q r xs ys v u) (hr : Rq W' w.heap.size r ys' u') (t : TmF r u u' W W') : Two w W' q r xs ys' v u' := by
  have hvb := h.a.own.block
  have hql := Blk.lt h.a.blk
  refine ⟨⟨(t.block q hql h.ne h.uq).trans h.a.blk, h.a.own.tm t h.vr (fun i e e2 => h.d i e2 e), h.a.ne⟩, hr, h.ne, h.vr, ?_, ?_, h.q0, h.r0, h.below.trans (t.below h.below.size h.r0 (fun k e => (h.b.own.block k e).1))⟩
  · rcases t.own with e | e | ⟨k, e, hk⟩
    · rw [e]; exact h.uq
    · rw [e]; simp
    · rw [e]; intro e2; injection e2 with e2; omega
  · intro i ei e2
    rcases t.own with e | e | ⟨k, e, hk⟩
    · rw [e] at ei; exact h.d i ei e2
    · rw [e] at ei; cases ei
    · rw [e] at ei
      injection ei with ei
      have := (hvb i e2).2
      omega
/-- what both hold behind k of the calls -/
noncomputable def fq (f : Nat → Int × Int × Int × Int) : Nat → List T2
  | 0 => []
  | k + 1 => (setQ (f k).2.1 (f k).2.2.1 (fq f k)).2
noncomputable def fr (f : Nat → Int × Int × Int × Int) : Nat → List T2
  | 0 => []
  | k + 1 => (rsetQ (f k).2.1 (f k).2.2.1 (fr f k)).2
theorem fq_tie (f : Nat → Int × Int × Int × Int) : ∀ k, Tie (fq f k) (fr f k)
  | 0 => Tie.nil
  | k + 1 => ((fq_tie f k).set _ _).2
theorem rsetQ_no {id at' : Int} {ys : List T2} (h : (rsetQ id at' ys).1 ≠ 0) : (rsetQ id at' ys).2 = ys := by
  unfold rsetQ at h ⊢
  split
  · rename_i h1
    rw [if_pos h1] at h
    split
    · rename_i h2
      rw [if_pos h2] at h
      split
      · rfl
      · rename_i h3
        rw [if_neg h3] at h
        exact absurd rfl h
    · rename_i h2
      rw [if_neg h2] at h
      exact absurd rfl h
  · rfl
theorem wrap64 {z : Int} (h : In64 z) : IntKind.i64.wrap z = z := by rw [IntKind.wrap_i64]; unfold In64 at h; omega
/-- what filled answers -/
def FillQ (w : World) (xs : List T2) (e : Ending) (w' : World) : Prop :=
  ∃ q v A n c, e = .returned (.tuple #[.pointer (some ⟨q, 0, none⟩), .slice A n c]) ∧ Qs w' w.heap.size q xs v ∧ OwnR w' w.heap.size (.slice A n c) xs ∧ w.heap.size ≤ q ∧ Below w.heap.size w w'
theorem filled_any (A : Option Addr) (n c : Nat) (f : Nat → Int × Int × Int × Int) (w : World) (h : Ops4 w w.heap.size A n f) (hn : n ≤ 8796093021952) :
    Calls Try.prog 22 #[.slice A n c] w (FillQ w (fq f (min n 300))) := by
  have N : Hid (Calls Try.prog 13 #[] w fun e w1 => e = .returned (.pointer (some ⟨w.heap.size, 0, none⟩)) ∧ ∃ W, w1.alloc (.cells #[.slice none 0 0] 28) = W ∧ Two w W w.heap.size w1.heap.size [] [] (.slice none 0 0) (.slice none 0 0)) := by
    refine (aw_new w).mono ?_
    rintro e w1 ⟨rfl, ha⟩
    refine ⟨rfl, _, rfl, ?_⟩
    have hq := ha.qs
    have hl := Blk.lt hq.blk
    have hB : Below w1.heap.size w1 (w1.alloc (.cells #[.slice none 0 0] 28)) := (Below.refl _ _).alloc (Nat.le_refl _) _
    have hb := ha.bel.size
    exact ⟨hq.later hB, ⟨blk_new w1 _ _, OwnR.nil _ _, by simp [Value.ownBlock]⟩, by omega, by simp [Value.ownBlock], by simp [Value.ownBlock], fun i e => by simp [Value.ownBlock] at e, Nat.le_refl _, hb, ha.bel.trans (hB.mono hb)⟩
  have HO := Lib.hid h
  clear h
  go_enter Try.func22, Try.ntmps22
  go_wp2_with (first
    | (go_at_call 13; ((with_reducible refine N.out.mono ?_); rintro e w1 ⟨rfl, W1, hW, h1⟩; have HW := Lib.hid hW; have H1 := Lib.hid h1; clear hW h1))
    | (rw [HW.out]))
  have END : ∀ k, k = min n 300 → ∀ wr v u, Two w wr w.heap.size w1.heap.size (fq f k) (fr f k) v u → Hid (Calls Try.prog 18 #[.pointer (some ⟨w1.heap.size, 0, none⟩)] wr fun e w' => ∃ A n' c, e = .returned (.slice A n' c) ∧ FillQ w (fq f (min n 300)) (.returned (.tuple #[.pointer (some ⟨w.heap.size, 0, none⟩), .slice A n' c])) w') := by
    intro k hk wr v u h2
    subst hk
    have ht := fq_tie f (min n 300)
    have hs := h2.below.size
    refine (rtmall_any w.heap.size w1.heap.size _ u wr h2.b ht.2.2).mono ?_
    rintro e w' ⟨A', n', c', rfl, ho, hB⟩
    rw [← ht.1] at ho
    exact ⟨A', n', c', rfl, w.heap.size, v, A', n', c', rfl, h2.a.later hB, ho.wide hs, Nat.le_refl _, h2.below.trans (hB.mono hs)⟩
  have HE := Lib.hid END
  clear END
  go_loopw [13] (fun i wr => ∃ (k : Nat) (v u : Value), k ≤ n ∧ k ≤ 300 ∧ i = .int .i64 k ∧ Hid (Two w wr w.heap.size w1.heap.size (fq f k) (fr f k) v u)) (fun i _ => n - (intOf i).toNat)
  case atStart => exact ⟨0, _, _, Nat.zero_le _, Nat.zero_le _, rfl, H1.out⟩
  case round =>
    rename_i wr
    obtain ⟨k, v, u, hkn, hk3, rfl, hT⟩ := hrel
    by_cases hlt : k < n
    · obtain ⟨b, off, rfl, hbl, hc⟩ := HO.out (by omega)
      obtain ⟨z, hz⟩ : ∃ z, f k = z := ⟨_, rfl⟩
      obtain ⟨z0, z1, z2, z3⟩ := z
      obtain ⟨x0, x1, x2, x3, i1, i2⟩ := hc k hlt
      rw [hz] at x0 x1 x2 x3 i1 i2
      have hB := hT.out.below
      have hbw : b < wr.heap.size := Nat.lt_of_lt_of_le hbl hB.size
      replace x0 := (hB.cell (p := ⟨b, off + k * 4, none⟩) hbl).trans x0
      replace x1 := (hB.cell (p := ⟨b, off + k * 4 + 1, none⟩) hbl).trans x1
      replace x2 := (hB.cell (p := ⟨b, off + k * 4 + 2, none⟩) hbl).trans x2
      replace x3 := (hB.cell (p := ⟨b, off + k * 4 + 3, none⟩) hbl).trans x3
      obtain ⟨V, hV⟩ : ∃ V, wr.alloc (.cells #[.int .i64 z0, .int .i64 z1, .int .i64 z2, .int .i64 z3] 30) = V := ⟨_, rfl⟩
      have hBV : Below wr.heap.size wr V := by rw [← hV]; exact (Below.refl _ _).alloc (Nat.le_refl _) _
      have hnew : Blk V wr.heap.size 30 [.int .i64 z0, .int .i64 z1, .int .i64 z2, .int .i64 z3] := by rw [← hV]; exact blk_new wr _ _
      have hTV := hT.out.later hBV
      have y1 := hnew.cell 1
      have y2 := hnew.cell 2
      have HV := Lib.hid hV
      by_cases h3 : 300 ≤ k
      · obtain rfl : k = 300 := by omega
        have hE := HE.out 300 (by omega) V v u hTV
        clear hc hz hB hV hBV hnew hTV i1 i2 hbl
        go_wp2_with (first
          | (rw [HV.out])
          | (go_at_call 18; ((with_reducible refine hE.out.mono ?_); rintro e w2 ⟨A2, n2, c2, rfl, hf⟩; have HF := Lib.hid hf; clear hf)))
        go_ret2
        exact HF.out
      · have ht := fq_tie f k
        have hst := ht.set z1 z2
        have hq1 : fq f (k + 1) = (setQ z1 z2 (fq f k)).2 := by rw [fq, hz]
        have hr1 : fr f (k + 1) = (rsetQ z1 z2 (fr f k)).2 := by rw [fr, hz]
        have hx64 : (fq f k).length ≤ 64 := by rw [ht.len]; exact ht.2.2
        have hvb := hT.out.a.own.block
        have hql := Blk.lt hT.out.a.blk
        have hsV := hBV.size
        have ws := hB.size
        obtain ⟨cd, hcd⟩ : ∃ cd, (setQ z1 z2 (fq f k)).1 = cd := ⟨_, rfl⟩
        have C : Hid (Calls Try.prog 68 #[.pointer (some ⟨w.heap.size, 0, none⟩), .int .i64 z1, .int .i64 z2] V fun e w2 => e = .returned (.int .i64 cd) ∧ w2.cell? ⟨wr.heap.size, 1, none⟩ = some (.int .i64 z1) ∧ w2.cell? ⟨wr.heap.size, 2, none⟩ = some (.int .i64 z2) ∧ wr.heap.size < w2.heap.size ∧
            (cd ≠ 0 → ∃ v' u', Two w w2 w.heap.size w1.heap.size (fq f (k + 1)) (fr f (k + 1)) v' u') ∧
            Calls Try.prog 69 #[.pointer (some ⟨w1.heap.size, 0, none⟩), .int .i64 z1, .int .i64 z2] w2 fun e w3 => e = .returned (.int .i64 cd) ∧ ∃ v' u', Two w w3 w.heap.size w1.heap.size (fq f (k + 1)) (fr f (k + 1)) v' u') := by
          refine (set_any w.heap.size w.heap.size (fq f k) v z1 z2 V hTV.a (by omega) hx64 (wrap64 i2)).mono ?_
          rintro e w2 ⟨rfl, v', hq2, t2⟩
          have T2 := hTV.setq hq2 t2
          have hbk : Blk w2 wr.heap.size 30 [.int .i64 z0, .int .i64 z1, .int .i64 z2, .int .i64 z3] := (t2.block wr.heap.size (Blk.lt hnew) (by omega) (fun e => by have := (hvb _ e).2; omega)).trans hnew
          refine ⟨by rw [hcd], hbk.cell 1, hbk.cell 2, Blk.lt hbk, fun hne => ⟨v', u, ?_⟩, ?_⟩
          · rw [hq1, hr1, rsetQ_no (by rw [← hst.1, hcd]; exact hne)]
            exact T2
          · have hs2 := T2.below.size
            refine (rset_any w.heap.size w1.heap.size (fr f k) u z1 z2 w2 T2.b hs2 ht.2.2 (wrap64 i2)).mono ?_
            rintro e w3 ⟨rfl, u', hr3, t3⟩
            refine ⟨by rw [← hst.1, hcd], v', u', ?_⟩
            rw [hq1, hr1]
            exact T2.setr hr3 t3
        clear hc hz hB hV hBV hnew hTV i1 i2 ht hst hq1 hr1 hx64 hvb hsV hcd ws hbl
        by_cases h0 : cd = 0
        · subst h0
          go_wp2_with (first
            | (rw [HV.out])
            | (go_at_call 68; ((with_reducible refine C.out.mono ?_); rintro e w2 ⟨rfl, y3, y4, y5, -, n1⟩; have C1 := Lib.hid n1; clear n1))
            | (go_at_call 69; ((with_reducible refine C1.out.mono ?_); rintro e w3 ⟨rfl, v', u', h4⟩; have H4 := Lib.hid h4; clear h4)))
          go_roundw
          case rel => exact ⟨k + 1, v', u', by omega, by omega, by go_num, H4⟩
          case measure => simp [intOf]; omega
        · go_wp2_with (first
            | (rw [HV.out])
            | (go_at_call 68; ((with_reducible refine C.out.mono ?_); rintro e w2 ⟨rfl, y3, y4, y5, n1, -⟩; obtain ⟨v', u', h4⟩ := n1 h0; have H4 := Lib.hid h4; clear h4 n1)))
          go_roundw
          case rel => exact ⟨k + 1, v', u', by omega, by omega, by go_num, H4⟩
          case measure => simp [intOf]; omega
    · have hE := HE.out k (by omega) wr v u hT.out
      go_wp2_with (go_at_call 18; ((with_reducible refine hE.out.mono ?_); rintro e w2 ⟨A2, n2, c2, rfl, hf⟩; have HF := Lib.hid hf; clear hf))
      go_ret2
      exact HF.out
end Go.Proofs.Ytonbdcajepmgbaa
