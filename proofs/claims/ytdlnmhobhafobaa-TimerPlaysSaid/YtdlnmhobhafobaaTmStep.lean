/-
  step of both: After, Cancel, Pop, Left, Clear, and nothing.
-/
import Derived.Test.YtdlnmhobhafobaaTmAfter
import Derived.Test.YtdlnmhobhafobaaTmLeft
import Derived.Test.YtdlnmhobhafobaaTmPop
namespace Go.Proofs.Ytdlnmhobhafobaa
open Go.RowKit Go.Shelf
set_option maxRecDepth 100000
set_option maxHeartbeats 4000000
set_option linter.unusedSimpArgs false
set_option linter.unusedVariables false

def BothC (w W : World) (q r : Nat) (L : Nat → Prop) (f1 f2 : Nat) (a1 a2 : Array Value) (res : Value) (b : Nat) (cs : List Value) : Prop :=
  Calls Try.prog f1 a1 W fun e w1 => e = .returned res ∧ Blk w1 b 30 cs ∧ Calls Try.prog f2 a2 w1 fun e w2 => e = .returned res ∧ Blk w2 b 30 cs ∧ SP w W q r L w2
theorem both_mk {w W : World} {q r : Nat} {L : Nat → Prop} {xs xs' ys ys' : List T2} {v u : Value} (h : Two w W q r xs ys v u) (hl : ∀ i, (i = q ∨ i = r ∨ v.ownBlock = some i ∨ u.ownBlock = some i) → L i)
    {f1 f2 : Nat} {a1 a2 : Array Value} {res : Value} {b : Nat} {cs : List Value} (hb : Blk W b 30 cs) (hnb : ¬ L b)
    (C1 : Calls Try.prog f1 a1 W fun e w1 => e = .returned res ∧ ∃ v', Qs w1 w.heap.size q xs' v' ∧ TmF q v v' W w1)
    (C2 : ∀ w1 v', Two w w1 q r xs' ys v' u → Calls Try.prog f2 a2 w1 fun e w2 => e = .returned res ∧ ∃ u', Rq w2 w.heap.size r ys' u' ∧ TmF r u u' w1 w2)
    (ht : Tie xs' ys' ∧ OkL ys') : BothC w W q r L f1 f2 a1 a2 res b cs := by
  refine C1.mono ?_
  rintro e w1 ⟨rfl, v', hq, t1⟩
  have hbl := Blk.lt hb
  have hb1 : Blk w1 b 30 cs := (t1.block b hbl (fun e => hnb (hl b (.inl e))) (fun e => hnb (hl b (.inr (.inr (.inl e)))))).trans hb
  refine ⟨rfl, hb1, (C2 w1 v' (h.setq hq t1)).mono ?_⟩
  rintro e w2 ⟨rfl, u', hr, t2⟩
  exact ⟨rfl, (t2.block b (Blk.lt hb1) (fun e => hnb (hl b (.inr (.inl e)))) (fun e => hnb (hl b (.inr (.inr (.inr e)))))).trans hb1, SP.both h hl hq t1 hr t2 ht⟩
theorem step_pre {w W : World} {q r : Nat} {L : Nat → Prop} (h : PP w W q r L) (k z1 z2 z3 : Int) : ∃ V, W.alloc (.cells #[.int .i64 k, .int .i64 z1, .int .i64 z2, .int .i64 z3] 30) = V ∧ Blk V W.heap.size 30 [.int .i64 k, .int .i64 z1, .int .i64 z2, .int .i64 z3] ∧ PP w V q r L ∧ PP w V.drew q r L ∧ ¬ L W.heap.size ∧ (∀ W', SP w V q r L W' → SP w W q r L W') ∧ (∀ W', SP w V.drew q r L W' → SP w W q r L W') := by
  have hB : Below W.heap.size W (W.alloc (.cells #[.int .i64 k, .int .i64 z1, .int .i64 z2, .int .i64 z3] 30)) := (Below.refl _ _).alloc (Nat.le_refl _) _
  have hBD : Below (W.alloc (.cells #[.int .i64 k, .int .i64 z1, .int .i64 z2, .int .i64 z3] 30)).heap.size (W.alloc (.cells #[.int .i64 k, .int .i64 z1, .int .i64 z2, .int .i64 z3] 30)) (W.alloc (.cells #[.int .i64 k, .int .i64 z1, .int .i64 z2, .int .i64 z3] 30)).drew := below_drewM (Below.refl _ _) 1
  obtain ⟨xs, ys, v, u, h2, ht, hl⟩ := h.ex
  have hws := h2.below.size
  exact ⟨_, rfl, blk_new W _ _, h.later hB, (h.later hB).later hBD, fun hh => by have := h.lt _ hh; omega, fun W' s => SP.first hB hws s, fun W' s => SP.first (hB.trans (hBD.mono hB.size)) hws s⟩
theorem after_both {w W : World} {q r : Nat} {L : Nat → Prop} (h : PP w W q r L) {b : Nat} {cs : List Value} (hb : Blk W b 30 cs) (hnb : ¬ L b) (id now sp : Int) (i2 : In64 now) :
    ∃ cd, BothC w W q r L 55 56 #[.pointer (some ⟨q, 0, none⟩), .int .i64 id, .int .i64 now, .int .i64 sp] #[.pointer (some ⟨r, 0, none⟩), .int .i64 id, .int .i64 now, .int .i64 sp] (.int .i64 cd) b cs := by
  obtain ⟨xs, ys, v, u, h2, ⟨ht, hok⟩, hl⟩ := h.ex
  have hx64 : xs.length ≤ 64 := by rw [ht.len]; exact ht.2.2
  have hws := h2.below.size
  by_cases ho : okA now sp
  · have hst := ht.set id (aft now sp)
    refine ⟨_, both_mk h2 hl hb hnb (after_good w.heap.size q xs v id now sp W h2.a hws hx64 ho) (fun w1 v' t => ?_) ⟨hst.2, rset_ok hok⟩⟩
    rw [hst.1]
    exact rafter_good w.heap.size r ys u id now sp w1 t.b t.below.size ht.2.2 ho
  · refine ⟨1, both_mk (xs' := xs) (ys' := ys) h2 hl hb hnb ((after_bad q id now sp W (wrap64 i2) ho).mono ?_) (fun w1 v' t => (rafter_bad r id now sp w1 (wrap64 i2) ho).mono ?_) ⟨ht, hok⟩⟩
    · rintro e w1 ⟨rfl, rfl⟩
      exact ⟨rfl, v, h2.a, TmF.refl _ _ _⟩
    · rintro e w2 ⟨rfl, rfl⟩
      exact ⟨rfl, u, t.b, TmF.refl _ _ _⟩
theorem cancel_both {w W : World} {q r : Nat} {L : Nat → Prop} (h : PP w W q r L) {b : Nat} {cs : List Value} (hb : Blk W b 30 cs) (hnb : ¬ L b) (id : Int) :
    ∃ cd, BothC w W q r L 57 58 #[.pointer (some ⟨q, 0, none⟩), .int .i64 id] #[.pointer (some ⟨r, 0, none⟩), .int .i64 id] (.int .i64 cd) b cs := by
  obtain ⟨xs, ys, v, u, h2, ⟨ht, hok⟩, hl⟩ := h.ex
  have hx64 : xs.length ≤ 64 := by rw [ht.len]; exact ht.2.2
  rcases ht.find id with ⟨hf, hr⟩ | ⟨t, k, hf, hr, hk, hx⟩
  · refine ⟨5, both_mk (xs' := xs) (ys' := ys) h2 hl hb hnb ((tcancel_none w.heap.size q xs v id W h2.a hx64 hf).mono ?_) (fun w1 v' t => (rcancel_none w.heap.size r ys u id w1 t.b ht.2.2 hr).mono ?_) ⟨ht, hok⟩⟩
    · rintro e w1 ⟨rfl, hB⟩
      exact ⟨rfl, v, h2.a.later hB, (TmF.refl _ _ _).later hB⟩
    · rintro e w2 ⟨rfl, hB⟩
      exact ⟨rfl, u, t.b.later hB, (TmF.refl _ _ _).later hB⟩
  · exact ⟨0, both_mk h2 hl hb hnb (tcancel_some w.heap.size q xs v id t W h2.a hx64 hf) (fun w1 v' t' => rcancel_some w.heap.size r ys u id k w1 t'.b t'.below.size ht.2.2 hr hk) ⟨ht.without hx, fun y hy => hok y ((List.eraseIdx_sublist ys k).subset hy)⟩⟩
theorem left_both {w W : World} {q r : Nat} {L : Nat → Prop} (h : PP w W q r L) {b : Nat} {cs : List Value} (hb : Blk W b 30 cs) (hnb : ¬ L b) (id now : Int) (hn : In64 now) :
    ∃ a cd, BothC w W q r L 64 65 #[.pointer (some ⟨q, 0, none⟩), .int .i64 id, .int .i64 now] #[.pointer (some ⟨r, 0, none⟩), .int .i64 id, .int .i64 now] (.tuple #[.int .i64 a, .int .i64 cd]) b cs := by
  obtain ⟨xs, ys, v, u, h2, ⟨ht, hok⟩, hl⟩ := h.ex
  have hx64 : xs.length ≤ 64 := by rw [ht.len]; exact ht.2.2
  rcases ht.find id with ⟨hf, hr⟩ | ⟨t, k, hf, hr, hk, hx⟩
  · refine ⟨0, 5, both_mk (xs' := xs) (ys' := ys) h2 hl hb hnb ((left_none w.heap.size q xs v id now W h2.a hx64 hf).mono ?_) (fun w1 v' t => (rleft_none w.heap.size r ys u id now w1 t.b ht.2.2 hr).mono ?_) ⟨ht, hok⟩⟩
    · rintro e w1 ⟨rfl, hB⟩
      exact ⟨rfl, v, h2.a.later hB, (TmF.refl _ _ _).later hB⟩
    · rintro e w2 ⟨rfl, hB⟩
      exact ⟨rfl, u, t.b.later hB, (TmF.refl _ _ _).later hB⟩
  · obtain ⟨t0, t1⟩ := hok t (List.mem_of_getElem? hx)
    refine ⟨lft t.2 now, 0, both_mk (xs' := xs) (ys' := ys) h2 hl hb hnb ((left_some w.heap.size q xs v id now t W h2.a hx64 hf t0 t1 hn).mono ?_) (fun w1 v' t' => (rleft_some w.heap.size r ys u id now t k w1 t'.b ht.2.2 hr hx t0 t1 hn).mono ?_) ⟨ht, hok⟩⟩
    · rintro e w1 ⟨rfl, hB⟩
      exact ⟨rfl, v, h2.a.later hB, (TmF.refl _ _ _).later hB⟩
    · rintro e w2 ⟨rfl, hB⟩
      exact ⟨rfl, u, t'.b.later hB, (TmF.refl _ _ _).later hB⟩
theorem pop_both {w W : World} {q r : Nat} {L : Nat → Prop} (h : PP w W q r L) {b : Nat} {cs : List Value} (hb : Blk W b 30 cs) (hnb : ¬ L b) (now : Int) :
    ∃ a cd, BothC w W q r L 62 63 #[.pointer (some ⟨q, 0, none⟩), .int .i64 now] #[.pointer (some ⟨r, 0, none⟩), .int .i64 now] (.tuple #[.int .i64 a, .int .i64 cd]) b cs := by
  obtain ⟨xs, ys, v, u, h2, ⟨ht, hok⟩, hl⟩ := h.ex
  have hx64 : xs.length ≤ 64 := by rw [ht.len]; exact ht.2.2
  have no : cnt now xs = 0 → (∀ w1 v', Two w w1 q r xs ys v' u → Calls Try.prog 63 #[.pointer (some ⟨r, 0, none⟩), .int .i64 now] w1 fun e w2 => e = .returned (.tuple #[.int .i64 0, .int .i64 5]) ∧ Below w1.heap.size w1 w2) → ∃ a cd, BothC w W q r L 62 63 #[.pointer (some ⟨q, 0, none⟩), .int .i64 now] #[.pointer (some ⟨r, 0, none⟩), .int .i64 now] (.tuple #[.int .i64 a, .int .i64 cd]) b cs := fun hc C => by
    refine ⟨0, 5, both_mk (xs' := xs) (ys' := ys) h2 hl hb hnb ((tpop_none w.heap.size q xs v now W h2.a hx64 hc).mono ?_) (fun w1 v' t => (C w1 v' t).mono ?_) ⟨ht, hok⟩⟩
    · rintro e w1 ⟨rfl, hB⟩
      exact ⟨rfl, v, h2.a.later hB, (TmF.refl _ _ _).later hB⟩
    · rintro e w2 ⟨rfl, hB⟩
      exact ⟨rfl, u, t.b.later hB, (TmF.refl _ _ _).later hB⟩
  rcases Nat.eq_zero_or_pos ys.length with h0 | h0
  · obtain rfl : ys = [] := List.eq_nil_of_length_eq_zero h0
    have hxs : xs = [] := ht.1
    exact no (by rw [hxs]; rfl) fun w1 v' t => rpop_none0 w.heap.size r u now w1 t.b
  · obtain ⟨k, hk, hkl⟩ := fiN_in ys ys.length h0
    obtain ⟨x, hxk, hs, -⟩ := srt_first ys k hk
    rw [← ht.1] at hs
    by_cases hle : x.2 ≤ now
    · have hT := ht.without hxk
      rw [hs] at h2 hT hx64
      rw [List.length_cons] at hx64
      refine ⟨x.1, 0, both_mk h2 hl hb hnb (tpop_some w.heap.size q x _ v now W h2.a (by omega) hle) (fun w1 v' t => rpop_some w.heap.size r ys x k u now w1 t.b t.below.size ht.2.2 hk hxk hle) ⟨hT, fun y hy => hok y ((List.eraseIdx_sublist ys k).subset hy)⟩⟩
    · refine no (by rw [hs]; exact cnt_cons_neg _ hle) fun w1 v' t => rpop_none1 w.heap.size r ys x k u now w1 t.b ht.2.2 hk hxk (by omega)
def StepOk (w W : World) (q r : Nat) (L : Nat → Prop) (k z1 z2 z3 : Int) : Prop :=
  Calls Try.prog 13 #[.pointer (some ⟨q, 0, none⟩), .pointer (some ⟨r, 0, none⟩), .agg #[.int .i64 k, .int .i64 z1, .int .i64 z2, .int .i64 z3]] W fun e W' => e = .returned (.bool true) ∧ SP w W q r L W'
theorem step_after {w W : World} {q r : Nat} {L : Nat → Prop} (h : PP w W q r L) (z1 z2 z3 : Int) (i2 : In64 z2) : StepOk w W q r L 1 z1 z2 z3 := by
  unfold StepOk
  obtain ⟨V, hV, hnew, -, hP, hn, -, hS⟩ := step_pre h 1 z1 z2 z3
  obtain ⟨cd, C⟩ := after_both hP (b := W.heap.size) hnew hn z1 z2 z3 i2
  unfold BothC at C
  have HC := Lib.hid C
  have HS := Lib.hid hS
  have HV := Lib.hid hV
  have x0 := hnew.cell 0
  have x1 := hnew.cell 1
  have x2 := hnew.cell 2
  have x3 := hnew.cell 3
  have E1 : ∀ z : Int, (z == z) = true := fun z => by simp
  clear h hV hnew hP hn hS C
  go_enter Try.func13, Try.ntmps13
  go_upto_region 1 with (fail)
  rw [HV.out]
  go_upto_region 5 with (fail)
  go_region_held3 (fun w' => w'.cell? ⟨W.heap.size, 1, none⟩ = some (.int .i64 z1) ∧ w'.cell? ⟨W.heap.size, 2, none⟩ = some (.int .i64 z2) ∧ w'.cell? ⟨W.heap.size, 3, none⟩ = some (.int .i64 z3)) (go_keep) (first
    | (go_at_call 55; (with_reducible refine HC.out.mono ?_); rintro e W3 ⟨rfl, a1, c3⟩; have a2 := a1.cell 1; have a3 := a1.cell 2; have a4 := a1.cell 3; have C3 := Lib.hid c3; clear c3 a1)
    | (go_at_call 56; (with_reducible refine C3.out.mono ?_); rintro e W4 ⟨rfl, b1, c4⟩; have b2 := b1.cell 1; have b3 := b1.cell 2; have b4 := b1.cell 3; have C4 := Lib.hid c4; clear c4 b1))
  all_goals
    go_wp2_with fail
    go_ret
    exact ⟨rfl, HS.out _ C4.out⟩
theorem step_cancel {w W : World} {q r : Nat} {L : Nat → Prop} (h : PP w W q r L) (z1 z2 z3 : Int) : StepOk w W q r L 2 z1 z2 z3 := by
  unfold StepOk
  obtain ⟨V, hV, hnew, -, hP, hn, -, hS⟩ := step_pre h 2 z1 z2 z3
  obtain ⟨cd, C⟩ := cancel_both hP (b := W.heap.size) hnew hn z1
  unfold BothC at C
  have HC := Lib.hid C
  have HS := Lib.hid hS
  have HV := Lib.hid hV
  have x0 := hnew.cell 0
  have x1 := hnew.cell 1
  have E1 : ∀ z : Int, (z == z) = true := fun z => by simp
  clear h hV hnew hP hn hS C
  go_enter Try.func13, Try.ntmps13
  go_upto_region 1 with (fail)
  rw [HV.out]
  go_upto_region 7 with (fail)
  go_region_held3 (fun w' => w'.cell? ⟨W.heap.size, 1, none⟩ = some (.int .i64 z1)) (go_keep) (first
    | (go_at_call 57; (with_reducible refine HC.out.mono ?_); rintro e W3 ⟨rfl, a1, c3⟩; have a2 := a1.cell 1; have C3 := Lib.hid c3; clear c3 a1)
    | (go_at_call 58; (with_reducible refine C3.out.mono ?_); rintro e W4 ⟨rfl, b1, c4⟩; have b2 := b1.cell 1; have C4 := Lib.hid c4; clear c4 b1))
  all_goals
    go_wp2_with fail
    go_ret
    exact ⟨rfl, HS.out _ C4.out⟩
theorem step_pop {w W : World} {q r : Nat} {L : Nat → Prop} (h : PP w W q r L) (z1 z2 z3 : Int) : StepOk w W q r L 4 z1 z2 z3 := by
  unfold StepOk
  obtain ⟨V, hV, hnew, hP, -, hn, hS, -⟩ := step_pre h 4 z1 z2 z3
  obtain ⟨a, cd, C⟩ := pop_both hP (b := W.heap.size) hnew hn z2
  unfold BothC at C
  have HC := Lib.hid C
  have HS := Lib.hid hS
  have HV := Lib.hid hV
  have x0 := hnew.cell 0
  have x2 := hnew.cell 2
  have E1 : ∀ z : Int, (z == z) = true := fun z => by simp
  clear h hV hnew hP hn hS C
  go_enter Try.func13, Try.ntmps13
  go_upto_region 1 with (fail)
  rw [HV.out]
  go_wp2_with (first
    | (go_at_call 62; ((with_reducible refine HC.out.mono ?_); rintro e W3 ⟨rfl, a1, c3⟩; have a2 := a1.cell 2; have C3 := Lib.hid c3; clear c3 a1))
    | (go_at_call 63; ((with_reducible refine C3.out.mono ?_); rintro e W4 ⟨rfl, b1, c4⟩; have b2 := b1.cell 2; have C4 := Lib.hid c4; clear c4 b1)))
  go_ret
  exact ⟨rfl, HS.out _ C4.out⟩
theorem step_left {w W : World} {q r : Nat} {L : Nat → Prop} (h : PP w W q r L) (z1 z2 z3 : Int) (i2 : In64 z2) : StepOk w W q r L 5 z1 z2 z3 := by
  unfold StepOk
  obtain ⟨V, hV, hnew, hP, -, hn, hS, -⟩ := step_pre h 5 z1 z2 z3
  obtain ⟨a, cd, C⟩ := left_both hP (b := W.heap.size) hnew hn z1 z2 i2
  unfold BothC at C
  have HC := Lib.hid C
  have HS := Lib.hid hS
  have HV := Lib.hid hV
  have x0 := hnew.cell 0
  have x1 := hnew.cell 1
  have x2 := hnew.cell 2
  have E1 : ∀ z : Int, (z == z) = true := fun z => by simp
  clear h hV hnew hP hn hS C
  go_enter Try.func13, Try.ntmps13
  go_upto_region 1 with (fail)
  rw [HV.out]
  go_wp2_with (first
    | (go_at_call 64; ((with_reducible refine HC.out.mono ?_); rintro e W3 ⟨rfl, a1, c3⟩; have a2 := a1.cell 1; have a3 := a1.cell 2; have C3 := Lib.hid c3; clear c3 a1))
    | (go_at_call 65; ((with_reducible refine C3.out.mono ?_); rintro e W4 ⟨rfl, b1, c4⟩; have C4 := Lib.hid c4; clear c4 b1)))
  go_ret
  exact ⟨rfl, HS.out _ C4.out⟩
theorem step_other {w W : World} {q r : Nat} {L : Nat → Prop} (h : PP w W q r L) (k z1 z2 z3 : Int) (hk : k < 0 ∨ 6 < k) : StepOk w W q r L k z1 z2 z3 := by
  unfold StepOk
  obtain ⟨V, hV, hnew, hP, -, hn, hS, -⟩ := step_pre h k z1 z2 z3
  have POST := Lib.hid (hS V (SP.refl hP))
  have HV := Lib.hid hV
  have x0 := hnew.cell 0
  have k0 : (k == 0) = false := by simp; omega
  have k1 : (k == 1) = false := by simp; omega
  have k2 : (k == 2) = false := by simp; omega
  have k3 : (k == 3) = false := by simp; omega
  have k4 : (k == 4) = false := by simp; omega
  have k5 : (k == 5) = false := by simp; omega
  have k6 : (k == 6) = false := by simp; omega
  clear h hV hnew hP hn hS hk
  go_enter Try.func13, Try.ntmps13
  go_upto_region 1 with (fail)
  rw [HV.out]
  go_wp2
  go_ret
  exact ⟨rfl, POST.out⟩
theorem step_clear {w W : World} {q r : Nat} {L : Nat → Prop} (h : PP w W q r L) (z1 z2 z3 : Int) : StepOk w W q r L 6 z1 z2 z3 := by
  unfold StepOk
  obtain ⟨V, hV, hnew, hP, -, hn, hS, -⟩ := step_pre h 6 z1 z2 z3
  obtain ⟨xs, ys, v, u, h2, ⟨ht, hok⟩, hl⟩ := hP.ex
  have C : Hid (Calls Try.prog 66 #[.pointer (some ⟨q, 0, none⟩)] V fun e w1 => e = .returned (.tuple #[]) ∧ w1.cell? ⟨r, 0, none⟩ = some u ∧ w1.frozen? ⟨r, 0, none⟩ = false ∧ SP w W q r L (w1.setCell ⟨r, 0, none⟩ (.slice none 0 0))) := by
    refine (tclear_any w.heap.size q xs v V h2.a).mono ?_
    rintro e w1 ⟨rfl, hq, t1⟩
    have h3 := h2.setq hq t1
    have hgs : w1.grownBy (w1.setCell ⟨r, 0, none⟩ (.slice none 0 0)) (some r) := grownBy_setCell' w1 r _
    exact ⟨rfl, h3.b.blk.cell 0, h3.b.blk.frozen 0, hS _ (SP.both h2 hl hq t1 (ys' := []) (u' := .slice none 0 0) ⟨Blk.set_ h3.b.blk 0 _, OwnR.nil _ _, by simp [Value.ownBlock]⟩ ((TmF.refl r u w1).grownG hgs (.inr (.inl rfl))) ⟨Tie.nil, fun y hy => by simp at hy⟩)⟩
  have HV := Lib.hid hV
  have x0 := hnew.cell 0
  clear h hV hnew hP hn hS h2 ht hok hl
  go_enter Try.func13, Try.ntmps13
  go_upto_region 1 with (fail)
  rw [HV.out]
  go_wp2_with (go_at_call 66; ((with_reducible refine C.out.mono ?_); rintro e W3 ⟨rfl, a1, a2, c3⟩; have C3 := Lib.hid c3; clear c3))
  go_ret
  exact ⟨rfl, C3.out⟩
end Go.Proofs.Ytdlnmhobhafobaa
