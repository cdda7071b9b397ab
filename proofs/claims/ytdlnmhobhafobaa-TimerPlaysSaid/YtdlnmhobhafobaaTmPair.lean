/-
  A queue and the reference's, tied; step of both: Set.
-/
import Derived.Test.YtdlnmhobhafobaaTmWhole
import Derived.Test.YtdlnmhobhafobaaTmSetB
namespace Go.Proofs.Ytdlnmhobhafobaa
open Go.RowKit Go.Shelf
set_option maxRecDepth 100000
set_option maxHeartbeats 4000000
set_option linter.unusedSimpArgs false
set_option linter.unusedVariables false

/-- deadlines that can be -/
def OkL (ys : List T2) : Prop := ∀ y ∈ ys, 0 ≤ y.2 ∧ y.2 ≤ 1099511627776
/-- both queues, tied; what they hold lies in the blocks L -/
structure PP (w W : World) (q r : Nat) (L : Nat → Prop) : Prop where
  ex : ∃ xs ys v u, Two w W q r xs ys v u ∧ (Tie xs ys ∧ OkL ys) ∧ ∀ i, (i = q ∨ i = r ∨ v.ownBlock = some i ∨ u.ownBlock = some i) → L i
  lt : ∀ i, L i → i < W.heap.size
/-- what a step leaves -/
structure SP (w W : World) (q r : Nat) (L : Nat → Prop) (W' : World) : Prop where
  pp : ∃ L', PP w W' q r L' ∧ ∀ i, L' i → L i ∨ W.heap.size ≤ i
  size : W.heap.size ≤ W'.heap.size
  block : ∀ i, i < W.heap.size → ¬ L i → W'.heap[i]? = W.heap[i]?
  below : Below w.heap.size w W → Below w.heap.size w W'
theorem Two.keep {w W W' : World} {q r : Nat} {xs ys : List T2} {v u : Value} (h : Two w W q r xs ys v u) (hs : W.heap.size ≤ W'.heap.size) (hb : ∀ i, (i = q ∨ i = r ∨ v.ownBlock = some i ∨ u.ownBlock = some i) → W'.heap[i]? = W.heap[i]?) (hB : Below w.heap.size w W') : Two w W' q r xs ys v u := by
  refine ⟨(h.a.ob.next hs (fun i hi => ?_)).get, ⟨(hb r (.inr (.inl rfl))).trans h.b.blk, (h.b.own.ob.next hs (fun i hi => hb i (.inr (.inr (.inr (mem_own.1 hi)))))).get, h.b.ne⟩, h.ne, h.vr, h.uq, h.d, h.q0, h.r0, hB⟩
  rcases List.mem_cons.1 hi with e | e
  · exact hb i (.inl e)
  · exact hb i (.inr (.inr (.inl (mem_own.1 e))))
theorem PP.keep {w W W' : World} {q r : Nat} {L : Nat → Prop} (h : PP w W q r L) (hs : W.heap.size ≤ W'.heap.size) (hb : ∀ i, L i → W'.heap[i]? = W.heap[i]?) (hB : Below w.heap.size w W') : PP w W' q r L := by
  obtain ⟨xs, ys, v, u, h2, ht, hl⟩ := h.ex
  exact ⟨⟨xs, ys, v, u, h2.keep hs (fun i hi => hb i (hl i hi)) hB, ht, hl⟩, fun i hi => Nat.lt_of_lt_of_le (h.lt i hi) hs⟩
theorem PP.later {w W W' : World} {q r : Nat} {L : Nat → Prop} (h : PP w W q r L) (hB : Below W.heap.size W W') : PP w W' q r L := by
  obtain ⟨xs, ys, v, u, h2, ht, hl⟩ := h.ex
  exact ⟨⟨xs, ys, v, u, h2.later hB, ht, hl⟩, fun i hi => Nat.lt_of_lt_of_le (h.lt i hi) hB.size⟩
theorem SP.refl {w W : World} {q r : Nat} {L : Nat → Prop} (h : PP w W q r L) : SP w W q r L W := ⟨⟨L, h, fun i hi => .inl hi⟩, Nat.le_refl _, fun _ _ _ => rfl, fun h => h⟩
theorem SP.first {w W W1 W' : World} {q r : Nat} {L : Nat → Prop} (hB : Below W.heap.size W W1) (hw : w.heap.size ≤ W.heap.size) (h : SP w W1 q r L W') : SP w W q r L W' := by
  obtain ⟨L', h1, h2⟩ := h.pp
  have hs := hB.size
  refine ⟨⟨L', h1, fun i hi => (h2 i hi).imp id (fun h => by omega)⟩, Nat.le_trans hs h.size, fun i hi hn => (h.block i (by omega) hn).trans (hB.block i hi), fun hb => h.below (hb.trans (hB.mono hw))⟩
theorem SP.last {w W W1 W' : World} {q r : Nat} {L : Nat → Prop} (h : SP w W q r L W1) (hw : w.heap.size ≤ W.heap.size) (hB : Below W1.heap.size W1 W') : SP w W q r L W' := by
  obtain ⟨L', h1, h2⟩ := h.pp
  have hs := hB.size
  have hs1 := h.size
  exact ⟨⟨L', h1.later hB, h2⟩, by omega, fun i hi hn => (hB.block i (by omega)).trans (h.block i hi hn), fun hb => (h.below hb).trans (hB.mono (by omega))⟩
/-- a step of the one, then of the other -/
theorem SP.both {w W W1 W2 : World} {q r : Nat} {xs xs' ys ys' : List T2} {v v' u u' : Value} {L : Nat → Prop} (h : Two w W q r xs ys v u) (hl : ∀ i, (i = q ∨ i = r ∨ v.ownBlock = some i ∨ u.ownBlock = some i) → L i)
    (hq : Qs W1 w.heap.size q xs' v') (t1 : TmF q v v' W W1) (hr : Rq W2 w.heap.size r ys' u') (t2 : TmF r u u' W1 W2) (ht : Tie xs' ys' ∧ OkL ys') : SP w W q r L W2 := by
  have h1 := h.setq hq t1
  have h2 := h1.setr hr t2
  have z1 := t1.size
  have z2 := t2.size
  have hv := h2.a.own.block
  have hu := h2.b.own.block
  refine ⟨⟨fun i => i = q ∨ i = r ∨ v'.ownBlock = some i ∨ u'.ownBlock = some i, ⟨⟨xs', ys', v', u', h2, ht, fun i hi => hi⟩, fun i hi => ?_⟩, fun i hi => ?_⟩, by omega, fun i hi hn => ?_, fun _ => h2.below⟩
  · rcases hi with e | e | e | e
    · rw [e]; exact Blk.lt h2.a.blk
    · rw [e]; exact Blk.lt h2.b.blk
    · exact (hv i e).2
    · exact (hu i e).2
  · rcases hi with e | e | e | e
    · exact .inl (hl i (.inl e))
    · exact .inl (hl i (.inr (.inl e)))
    · rcases t1.own with e2 | e2 | ⟨k, e2, hk⟩
      · exact .inl (hl i (.inr (.inr (.inl (e2 ▸ e)))))
      · rw [e2] at e; cases e
      · rw [e2] at e; injection e with e; exact .inr (by omega)
    · rcases t2.own with e2 | e2 | ⟨k, e2, hk⟩
      · exact .inl (hl i (.inr (.inr (.inr (e2 ▸ e)))))
      · rw [e2] at e; cases e
      · rw [e2] at e; injection e with e; exact .inr (by omega)
  · rw [t2.block i (by omega) (fun e => hn (hl i (.inr (.inl e)))) (fun e => hn (hl i (.inr (.inr (.inr e))))), t1.block i hi (fun e => hn (hl i (.inl e))) (fun e => hn (hl i (.inr (.inr (.inl e)))))]
/-- the four numbers of a call, boxed -/
def Box4 (w : World) (W1 W : World) (z0 z1 z2 z3 : Int) : Prop := Blk W w.heap.size 30 [.int .i64 z0, .int .i64 z1, .int .i64 z2, .int .i64 z3]
theorem rset_ok {id at' : Int} {ys : List T2} (h : OkL ys) : OkL (rsetQ id at' ys).2 := by
  unfold rsetQ
  split
  · rename_i ho
    split
    · split
      · exact h
      · intro y hy
        rcases List.mem_append.1 hy with h1 | h1
        · exact h y h1
        · rw [List.mem_singleton.1 h1]; exact ⟨ho.2.2.1, ho.2.2.2⟩
    · intro y hy
      rcases List.mem_append.1 hy with h1 | h1
      · exact h y ((List.eraseIdx_sublist ys _).subset h1)
      · rw [List.mem_singleton.1 h1]; exact ⟨ho.2.2.1, ho.2.2.2⟩
  · exact h
theorem step_set {w W : World} {q r : Nat} {L : Nat → Prop} (h : PP w W q r L) (z1 z2 z3 : Int) (i2 : In64 z2) :
    Calls Try.prog 13 #[.pointer (some ⟨q, 0, none⟩), .pointer (some ⟨r, 0, none⟩), .agg #[.int .i64 0, .int .i64 z1, .int .i64 z2, .int .i64 z3]] W fun e W' => e = .returned (.bool true) ∧ SP w W q r L W' := by
  obtain ⟨xs, ys, v, u, h2, ⟨ht, hok⟩, hl⟩ := h.ex
  have hws := h2.below.size
  obtain ⟨V, hV⟩ : ∃ V, W.alloc (.cells #[.int .i64 0, .int .i64 z1, .int .i64 z2, .int .i64 z3] 30) = V := ⟨_, rfl⟩
  have hBV : Below W.heap.size W V := by rw [← hV]; exact (Below.refl _ _).alloc (Nat.le_refl _) _
  have hnew : Blk V W.heap.size 30 [.int .i64 0, .int .i64 z1, .int .i64 z2, .int .i64 z3] := by rw [← hV]; exact blk_new W _ _
  have hBD : Below V.heap.size V V.drew := below_drewM (Below.refl _ _) 1
  have hsV := hBV.size
  have hst := ht.set z1 z2
  have hx64 : xs.length ≤ 64 := by rw [ht.len]; exact ht.2.2
  have hvb := h2.a.own.block
  have hub := h2.b.own.block
  have hql := Blk.lt h2.a.blk
  have hrl := Blk.lt h2.b.blk
  obtain ⟨cd, hcd⟩ : ∃ cd, (setQ z1 z2 xs).1 = cd := ⟨_, rfl⟩
  have C : Hid (Calls Try.prog 53 #[.pointer (some ⟨q, 0, none⟩), .int .i64 z1, .int .i64 z2] V.drew fun e w2 => e = .returned (.int .i64 cd) ∧ w2.cell? ⟨W.heap.size, 1, none⟩ = some (.int .i64 z1) ∧ w2.cell? ⟨W.heap.size, 2, none⟩ = some (.int .i64 z2) ∧
      Calls Try.prog 54 #[.pointer (some ⟨r, 0, none⟩), .int .i64 z1, .int .i64 z2] w2 fun e w3 => e = .returned (.int .i64 cd) ∧ w3.cell? ⟨W.heap.size, 1, none⟩ = some (.int .i64 z1) ∧ w3.cell? ⟨W.heap.size, 2, none⟩ = some (.int .i64 z2) ∧ SP w W q r L w3) := by
    have hTV := (h2.later hBV).later hBD
    refine (set_any w.heap.size q xs v z1 z2 V.drew hTV.a (by show _ ≤ V.heap.size; omega) hx64 (wrap64 i2)).mono ?_
    rintro e w2 ⟨rfl, v', hq2, t2⟩
    have T2 := hTV.setq hq2 t2
    have hbk : Blk w2 W.heap.size 30 [.int .i64 0, .int .i64 z1, .int .i64 z2, .int .i64 z3] := (t2.block W.heap.size (Blk.lt hnew) (by omega) (fun e => by have := (hvb _ e).2; omega)).trans hnew
    have hs2 := T2.below.size
    refine ⟨by rw [hcd], hbk.cell 1, hbk.cell 2, (rset_any w.heap.size r ys u z1 z2 w2 T2.b hs2 ht.2.2 (wrap64 i2)).mono ?_⟩
    rintro e w3 ⟨rfl, u', hr3, t3⟩
    have hbk3 : Blk w3 W.heap.size 30 [.int .i64 0, .int .i64 z1, .int .i64 z2, .int .i64 z3] := (t3.block W.heap.size (Blk.lt hbk) (by omega) (fun e => by have := (hub _ e).2; omega)).trans hbk
    exact ⟨by rw [← hst.1, hcd], hbk3.cell 1, hbk3.cell 2, SP.first (hBV.trans (hBD.mono hsV)) hws (SP.both hTV hl hq2 t2 hr3 t3 ⟨hst.2, rset_ok hok⟩)⟩
  have HV := Lib.hid hV
  have x1 := hnew.cell 1
  have x2 := hnew.cell 2
  have x0 := hnew.cell 0
  have E1 : ∀ z : Int, (z == z) = true := fun z => by simp
  have y1 : V.drew.cell? ⟨W.heap.size, 1, none⟩ = some (.int .i64 z1) := x1
  have y2 : V.drew.cell? ⟨W.heap.size, 2, none⟩ = some (.int .i64 z2) := x2
  clear h h2 ht hl hV hBV hnew hBD hst hcd hvb hub
  go_enter Try.func13, Try.ntmps13
  go_upto_region 1 with (fail)
  rw [HV.out]
  go_upto_region 3 with (fail)
  go_region_held3 (fun w' => w'.cell? ⟨W.heap.size, 1, none⟩ = some (.int .i64 z1) ∧ w'.cell? ⟨W.heap.size, 2, none⟩ = some (.int .i64 z2)) (go_keep) (first
    | (go_at_call 53; (with_reducible refine C.out.mono ?_); rintro e W3 ⟨rfl, a1, a2, c3⟩; have C3 := Lib.hid c3; clear c3)
    | (go_at_call 54; (with_reducible refine C3.out.mono ?_); rintro e W4 ⟨rfl, b1, b2, c4⟩; have C4 := Lib.hid c4; clear c4))
  all_goals
    go_wp2_with fail
    go_ret
    exact ⟨rfl, C4.out⟩
end Go.Proofs.Ytdlnmhobhafobaa
