/-
  The reference's queue: All, in order.
-/
import Derived.Test.YtdlnmhobhafobaaTmRAll
namespace Go.Proofs.Ytdlnmhobhafobaa
open Go.RowKit Go.Shelf
set_option maxRecDepth 100000
set_option maxHeartbeats 2000000
set_option linter.unusedSimpArgs false
set_option linter.unusedVariables false

theorem OwnR.tm {w w' : World} {base g : Nat} {u v v' : Value} {xs : List T2} (h : OwnR w base u xs) (t : TmF g v v' w w') (hg : u.ownBlock ≠ some g) (hv : ∀ i, u.ownBlock = some i → v.ownBlock ≠ some i) : OwnR w' base u xs := by
  refine ⟨h.1, ?_⟩
  rcases h.2 with h0 | ⟨k, cap, cur, e, hb, hk, h1, h2, h3, h4⟩
  · exact .inl h0
  · have e2 : u.ownBlock = some k := by rw [e]; simp [Value.ownBlock]
    refine .inr ⟨k, cap, cur, e, hb, (t.block k (Array.getElem?_eq_some_iff.1 hk).1 (fun e3 => hg (by rw [e2, e3])) (hv k e2)).trans hk, h1, h2, h3, h4⟩
def lenOf : Value → Nat
  | .slice _ n _ => n
  | _ => 0
/-- what stands between two rounds -/
structure RAll (w : World) (g : Nat) (ys pre zs : List T2) (u v : Value) (wr : World) : Prop where
  q : Rq wr w.heap.size g zs v
  o : OwnR wr w.heap.size u pre
  ne : u.ownBlock ≠ some g
  nv : ∀ i, u.ownBlock = some i → v.ownBlock ≠ some i
  eq : pre ++ srt zs = srt ys
  b : Below w.heap.size w wr
theorem rall_step {w : World} {g : Nat} {ys pre zs : List T2} {u v : Value} {wr : World} (h : RAll w g ys pre zs u v wr) (hg : w.heap.size ≤ g) (hl : pre.length + zs.length ≤ 64) (h0 : 0 < zs.length) :
    ∃ (k : Nat) (x : T2), k < zs.length ∧ zs[k]? = some x ∧ Calls Try.prog 69 #[.pointer (some ⟨g, 0, none⟩)] wr fun e w1 => e = .returned (.int .i64 k) ∧ ∃ A c V w2 A2 c2, v = .slice (some ⟨A, 0, none⟩) zs.length c ∧ w1.cell? ⟨g, 0, none⟩ = some v ∧ w1.cell? ⟨A, k * 2, none⟩ = some (.int .i64 x.1) ∧ w1.cell? ⟨A, k * 2 + 1, none⟩ = some (.int .i64 x.2) ∧
      w1.alloc (.cells #[.int .i64 x.1, .int .i64 x.2] 108) = V ∧
      (Builtin.append_ #[26, 26] 26 #[u, .slice (some ⟨w1.heap.size, 0, none⟩) 1 1]).run Try.prog V = .ok (.slice A2 (pre.length + 1) c2) w2 ∧
        Calls Try.prog 70 #[.pointer (some ⟨g, 0, none⟩), .int .i64 k] w2 fun e w3 => e = .returned (.tuple #[]) ∧ ∃ v', RAll w g ys (pre ++ [x]) (zs.eraseIdx k) (.slice A2 (pre.length + 1) c2) v' w3 := by
  obtain ⟨k, e1, e2⟩ := fiN_in zs zs.length h0
  obtain ⟨x, hx, hs, -⟩ := srt_first zs k e1
  refine ⟨k, x, e2, hx, (rtmfirst_any w.heap.size g zs v wr h.q (by omega)).mono ?_⟩
  rintro e w1 ⟨rfl, b1⟩
  have q1 := h.q.later b1
  have o1 := h.o.later b1
  have s1 := b1.size
  have B1 := h.b.trans (b1.mono h.b.size)
  obtain ⟨gr, cap, hv, hbg, hgr, _, _⟩ : ∃ gr cap, v = .slice (some ⟨gr, 0, none⟩) zs.length cap ∧ w.heap.size ≤ gr ∧ gr < w1.heap.size ∧ zs.length ≤ cap ∧ cap ≤ maxLen := by
    rcases q1.own.form with ⟨_, e⟩ | h
    · rw [e] at h0; simp at h0
    · exact h
  have qo := q1.own
  rw [hv] at qo
  obtain ⟨x0, x1⟩ := qo.cell k x hx
  have hB : Below w1.heap.size w1 (w1.alloc (.cells #[.int .i64 x.1, .int .i64 x.2] 108)) := (Below.refl _ _).alloc (Nat.le_refl _) _
  have hnew : Blk (w1.alloc (.cells #[.int .i64 x.1, .int .i64 x.2] 108)) w1.heap.size 108 [.int .i64 x.1, .int .i64 x.2] := blk_new w1 _ _
  have hsz : (w1.alloc (.cells #[.int .i64 x.1, .int .i64 x.2] 108)).heap.size = w1.heap.size + 1 := by simp
  obtain ⟨V, hV⟩ : ∃ V, w1.alloc (.cells #[.int .i64 x.1, .int .i64 x.2] 108) = V := ⟨_, rfl⟩
  rw [hV] at hB hnew hsz
  have sb := h.b.size
  obtain ⟨u', w2, hrun, ho', hg', hu'⟩ := appR_at (o1.later hB) w1.heap.size 0 1 1 [x] rfl (fun j u hj => by
    rw [Nat.zero_add]
    match j, hj with
    | 0, hj => rw [show u = .int .i64 x.1 from by simpa [cellsT] using hj.symm]; exact hnew.cell 0
    | 1, hj => rw [show u = .int .i64 x.2 from by simpa [cellsT] using hj.symm]; exact hnew.cell 1
    | j + 2, hj => simp [cellsT] at hj) (by omega) (by omega)
  obtain ⟨A2, c2, hsl, _⟩ := ho'.slice
  rw [List.length_append, List.length_singleton] at hsl
  have ub := h.o.block
  have hgl := Blk.lt q1.blk
  have qV := q1.later hB
  have hvb := qV.own.block
  -- the queue's copy is as it was
  have gne : ∀ i, u.ownBlock = some i → i ≠ g := fun i e e2 => h.ne (by rw [e, e2])
  have qb : Blk w2 g 28 [v] := (hg'.block g (Blk.lt qV.blk) (fun e => h.ne e.symm)).trans qV.blk
  have qr : OwnR w2 w.heap.size v zs := qV.own.grown hg' (by
    cases e : v.ownBlock with
    | none => exact .inl rfl
    | some i => exact .inr (fun e2 => h.nv i e2.symm e))
  have q2 : Rq w2 w.heap.size g zs v := ⟨qb, qr, qV.ne⟩
  have hu2 : ∀ i, u'.ownBlock = some i → i ≠ g ∧ v.ownBlock ≠ some i := fun i e => by
    rcases hu' with e2 | e2
    · rw [e2] at e
      exact ⟨gne i e, h.nv i e⟩
    · rw [e2] at e
      injection e with e
      subst e
      refine ⟨by omega, fun e3 => ?_⟩
      have := (q1.own.block _ e3).2
      omega
  have B2 : Below w.heap.size w w2 := by
    have BV := B1.trans (hB.mono B1.size)
    refine BV.grown hg' BV.size (fun i e => ?_)
    exact (ub i e).1
  subst hsl
  refine ⟨rfl.trans (by rw [e1]), gr, cap, V, w2, A2, c2, hv, q1.blk.cell 0, x0, x1, hV, hrun, (rtmout_any w.heap.size g zs v k w2 q2 B2.size e2 (by omega)).mono ?_⟩
  rintro e w3 ⟨rfl, v', q3, t3⟩
  refine ⟨rfl, v', q3, ho'.tm t3 (fun e => (hu2 g e).1 rfl) (fun i e => (hu2 i e).2), fun e => (hu2 g e).1 rfl, fun i e e3 => ?_, ?_, ?_⟩
  · rcases t3.own with e4 | e4 | ⟨j, e4, hj⟩
    · exact (hu2 i e).2 (e4.symm.trans e3)
    · rw [e4] at e3; cases e3
    · rw [e4] at e3
      injection e3 with e3
      have := (ho'.block i e).2
      omega
  · rw [List.append_assoc, List.singleton_append, ← hs]; exact h.eq
  · exact B2.trans (t3.below B2.size hg (fun i e => (qr.block i e).1))
theorem rtmall_any (base g : Nat) (ys : List T2) (v : Value) (w : World) (h : Rq w base g ys v) (hm : ys.length ≤ 64) :
    Calls Try.prog 15 #[.pointer (some ⟨g, 0, none⟩)] w fun e w' => ∃ A n c, e = .returned (.slice A n c) ∧ OwnR w' w.heap.size (.slice A n c) (srt ys) ∧ Below w.heap.size w w' := by
  obtain ⟨n, hn⟩ : ∃ n, ys.length = n := ⟨_, rfl⟩
  have N : Hid (Calls Try.prog 12 #[.pointer (some ⟨g, 0, none⟩)] w fun e w1 => e = .returned (.pointer (some ⟨w.heap.size, 0, none⟩)) ∧ ∃ v', RAll w w.heap.size ys [] ys (.slice none 0 0) v' w1) := by
    refine (rtmcopy_any base g ys v w h (by omega)).mono ?_
    rintro e w1 ⟨rfl, v', hq, hB⟩
    exact ⟨rfl, v', hq, OwnR.nil _ _, by simp [Value.ownBlock], fun i e => by simp [Value.ownBlock] at e, rfl, hB⟩
  clear h
  go_enter Try.func15, Try.ntmps15
  go_wp2_with (go_at_call 12; ((with_reducible refine N.out.mono ?_); rintro e w1 ⟨rfl, v1, hr1⟩; have R1 := Lib.hid hr1; clear hr1))
  go_loopw [4] (fun u wr => ∃ (pre zs : List T2) (v : Value) (A : Option Addr) (c : Nat), u = .slice A pre.length c ∧ pre.length + zs.length = n ∧ RAll w w.heap.size ys pre zs u v wr) (fun u _ => n - lenOf u)
  case atStart => exact ⟨[], ys, v1, none, 0, rfl, by simp [hn], R1.out⟩
  case round =>
    rename_i wr
    obtain ⟨pre, zs, v2, A, c, rfl, hpz, hR⟩ := hrel
    have hq := hR.q
    obtain ⟨m, hmz⟩ : ∃ m, zs.length = m := ⟨_, rfl⟩
    obtain ⟨p, hpp⟩ : ∃ p, pre.length = p := ⟨_, rfl⟩
    have hgw := Blk.lt hq.blk
    by_cases hz : 0 < m
    · obtain ⟨k, x, hk, hx, hst⟩ := rall_step hR (Nat.le_refl _) (by omega) (by omega)
      have hv2 : ∃ B d, v2 = .slice (some ⟨B, 0, none⟩) m d := by
        rcases hq.own.form with ⟨_, e⟩ | ⟨gr, cap, e, _⟩
        · rw [e] at hmz; simp at hmz; omega
        · exact ⟨gr, cap, by rw [e, hmz]⟩
      obtain ⟨B, d, rfl⟩ := hv2
      have y0 : wr.cell? ⟨w.heap.size, 0, none⟩ = some (.slice (some ⟨B, 0, none⟩) m d) := hq.blk.cell 0
      rw [hmz, hpp] at hst
      rw [hmz] at hk
      rw [hpp]
      have HS := Lib.hid hst
      have k0 : (0 : Int) ≤ (k : Int) := by omega
      have k1 : (k : Int) < (m : Int) := by omega
      have HM := Lib.hid (And.intro hmz hpp)
      have hpm : p + m = n := by omega
      clear hst hR hq hx hmz hpp hpz
      go_wp2_with (first
        | (go_at_call 69; ((with_reducible refine HS.out.mono ?_); rintro e w2 ⟨rfl, B', d', V, w3, A2, c2, hvv, x0, x1, x2, hV, hrun, hc⟩; injection hvv with i1 i2 i3; injection i1 with i1; injection i1 with i1; subst i1; have HV := Lib.hid hV; have HR := Lib.hid hrun; have HC := Lib.hid hc; clear hV hrun hc i2 i3))
        | (rw [HV.out])
        | (at_builtin; refine wpList_appT 26 26 rfl (.tmp 16) (.tmp 24) rfl _ _ rfl rfl _ _ HR.out ?_)
        | (go_at_call 70; ((with_reducible refine HC.out.mono ?_); rintro e w4 ⟨rfl, v', hr4⟩; have R4 := Lib.hid hr4; clear hr4)))
      go_roundw
      case rel =>
        obtain ⟨h1, h2⟩ := HM.out
        have hle : (zs.eraseIdx k).length = zs.length - 1 := by rw [List.length_eraseIdx, if_pos (by omega)]
        exact ⟨pre ++ [x], zs.eraseIdx k, v', A2, c2, by rw [List.length_append, h2]; rfl, by rw [List.length_append, hle, h2, h1]; simp; omega, R4.out⟩
      case measure => simp [lenOf]; omega
    · obtain rfl : zs = [] := List.eq_nil_of_length_eq_zero (by omega)
      have hv2 : ∃ B d, v2 = .slice B 0 d := by
        obtain ⟨B, d, e, _⟩ := hq.own.slice
        exact ⟨B, d, e⟩
      obtain ⟨B, d, rfl⟩ := hv2
      have y0 : wr.cell? ⟨w.heap.size, 0, none⟩ = some (.slice B 0 d) := hq.blk.cell 0
      have he : pre = srt ys := by have := hR.eq; simpa [srt] using this
      have HO := Lib.hid hR.o
      have HB := Lib.hid hR.b
      rw [hpp]
      rw [hpp, he] at HO
      clear hR hq he
      go_wp2
      go_ret
      exact ⟨_, _, _, rfl, HO.out, HB.out⟩
end Go.Proofs.Ytdlnmhobhafobaa
