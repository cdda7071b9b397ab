/-
  step of both: Due.
-/
import Derived.Test.YtdlnmhobhafobaaTmStep
import Derived.Test.YtdlnmhobhafobaaTmRDue
namespace Go.Proofs.Ytdlnmhobhafobaa
open Go.RowKit Go.Shelf
set_option maxRecDepth 100000
set_option maxHeartbeats 4000000
set_option linter.unusedSimpArgs false
set_option linter.unusedVariables false

/-- a slice that is being written over -/
def SpoilT (W wr : World) (v : Value) (n : Nat) : Prop := W.grownBy wr v.ownBlock ∧ (0 < n → ∃ g c cs, v = .slice (some ⟨g, 0, none⟩) n c ∧ Blk wr g 3 cs ∧ n ≤ cs.length ∧ ∀ j, j < n → ∃ z, cs[j]? = some (.int .i64 z))
theorem spoilT_start {W : World} {base n c : Nat} {A : Option Addr} {l : List Int} (h : OwnI W base (.slice A n c) l) : SpoilT W W (.slice A n c) n := by
  refine ⟨World.grownBy.refl _ _, fun hn => ?_⟩
  rcases h.2 with ⟨e, h0⟩ | ⟨g, cap, cur, e, hbg, hg, hc, hm, hs, ht⟩
  · injection e with e1 e2
    omega
  · injection e with e1 e2 e3
    subst e1; subst e2; subst e3
    refine ⟨g, _, cur.toList, rfl, by unfold Blk; rw [hg], by simp; omega, fun j hj => ⟨l[j], ?_⟩⟩
    have := congrArg (·[j]?) ht
    simp only [List.getElem?_take_of_lt (show j < l.length * 1 by omega), List.getElem?_map, List.getElem?_eq_getElem hj] at this
    exact this
theorem spoilT_step {W wr : World} {g n c j : Nat} (h : SpoilT W wr (.slice (some ⟨g, 0, none⟩) n c) n) (hj : j < n) (z : Int) : SpoilT W (wr.setCell ⟨g, j, none⟩ (.int .i64 z)) (.slice (some ⟨g, 0, none⟩) n c) n := by
  refine ⟨?_, fun hn => ?_⟩
  · have h1 := h.1
    have e : (Value.slice (some ⟨g, 0, none⟩) n c).ownBlock = some g := rfl
    rw [e] at h1 ⊢
    exact only_then h1 (only_set _) (fun i hi => .inl hi)
  · obtain ⟨g', c', cs, e, hb, hl, hc⟩ := h.2 hn
    injection e with e1 e2 e3
    injection e1 with e1
    injection e1 with e1
    subst e1; subst e3
    refine ⟨g, _, _, rfl, hb.set_ j _, by rw [List.length_set]; exact hl, fun i hi => ?_⟩
    by_cases hij : j = i
    · subst hij
      exact ⟨z, by rw [List.getElem?_set_self (by omega)]⟩
    · obtain ⟨y, hy⟩ := hc i hi
      exact ⟨y, by rw [List.getElem?_set_ne hij, hy]⟩
theorem spoilT_cell {W wr : World} {A : Option Addr} {n c j : Nat} (h : SpoilT W wr (.slice A n c) n) (hj : j < n) : ∃ g, A = some ⟨g, 0, none⟩ ∧ (∃ z, wr.cell? ⟨g, j, none⟩ = some (.int .i64 z)) ∧ wr.frozen? ⟨g, j, none⟩ = false := by
  obtain ⟨g', c', cs, e, hb, hl, hc⟩ := h.2 (by omega)
  injection e with e1 e2 e3
  obtain ⟨z, hz⟩ := hc j hj
  exact ⟨g', e1, ⟨z, (hb.cell j).trans hz⟩, hb.frozen j⟩
theorem step_due {w W : World} {q r : Nat} {L : Nat → Prop} (h : PP w W q r L) (z1 z2 z3 : Int) : StepOk w W q r L 3 z1 z2 z3 := by
  unfold StepOk
  obtain ⟨V, hV, hnew, hP, -, hn, hS, -⟩ := step_pre h 3 z1 z2 z3
  obtain ⟨xs, ys, v, u, h2, ⟨ht, hok⟩, hl⟩ := hP.ex
  have hx64 : xs.length ≤ 64 := by rw [ht.len]; exact ht.2.2
  have hws := h2.below.size
  have hvb := h2.a.own.block
  have hub := h2.b.own.block
  have hrl := Blk.lt h2.b.blk
  have hql := Blk.lt h2.a.blk
  have hcl := cnt_le z2 xs
  obtain ⟨n, hnn⟩ : ∃ n, cnt z2 xs = n := ⟨_, rfl⟩
  have C : Hid (Calls Try.prog 59 #[.pointer (some ⟨q, 0, none⟩), .int .i64 z2] V fun e w1 => ∃ A c, e = .returned (.slice A n c) ∧ w1.cell? ⟨W.heap.size, 2, none⟩ = some (.int .i64 z2) ∧
      Calls Try.prog 61 #[.pointer (some ⟨r, 0, none⟩), .int .i64 z2] w1 fun e w2 => ∃ o, e = .returned o ∧
        Calls Try.prog 60 #[.slice A n c, o] w2 fun e w3 => e = .returned (.bool true) ∧ SpoilT w3 w3 (.slice A n c) n ∧ ∀ wr, SpoilT w3 wr (.slice A n c) n → SP w W q r L wr) := by
    refine (due_any w.heap.size q xs v z2 V h2.a hws hx64).mono ?_
    rintro e w1 ⟨V1, v', rfl, hV1, hq1, t1, e1⟩
    obtain ⟨A, c, hsl, _⟩ := hV1.form.1
    have hn2 : ((xs.take (cnt z2 xs)).map Prod.fst).length = n := by rw [List.length_map, List.length_take]; omega
    rw [hn2] at hsl
    have z1' := t1.size
    have hbk : Blk w1 W.heap.size 30 _ := (t1.block _ (Blk.lt hnew) (fun e => hn (hl _ (.inl e))) (fun e => hn (hl _ (.inr (.inr (.inl e)))))).trans hnew
    have h3 := h2.setq hq1 t1
    refine ⟨A, c, by rw [hsl], hbk.cell 2, (rdue_any w.heap.size r xs ys u z2 w1 h3.b ht hok h3.below.size).mono ?_⟩
    rintro e w2 ⟨o, zs, u', rfl, hR⟩
    have z2' := hR.t.size
    have hob := hR.ow.form.2
    have hV1b := hV1.form.2
    have hV2 : OwnI w2 V.heap.size V1 _ := hV1.tm hR.t (fun e => by have := (hV1b _ e).1; omega) (fun i e e2 => by have := (hV1b i e).1; have := (hub i e2).2; omega)
    have hsp := SP.both h2 hl hq1 t1 hR.q hR.t ⟨hR.tie, hR.ok⟩
    have h4 := h3.setr hR.q hR.t
    refine ⟨o, rfl, ?_⟩
    have hid := ids_yes V1 o _ V.heap.size w1.heap.size w2 hV2 hR.ow (by rw [hn2]; omega)
    rw [hsl] at hid
    refine hid.mono ?_
    rintro e w3 ⟨rfl, hB3⟩
    have z3' := hB3.size
    have hV3 := (hV2.ob.below hB3).get
    rw [hsl] at hV3
    refine ⟨rfl, spoilT_start hV3, fun wr hwr => ?_⟩
    have hgr := hwr.1
    have hzr := hgr.size
    have h5 := h4.later hB3
    have hown : ∀ i, (Value.slice A n c).ownBlock = some i → V.heap.size ≤ i ∧ i < w1.heap.size := fun i e => hV1b i (by rw [hsl]; exact e)
    have hBw : Below w.heap.size w wr := h5.below.grown hgr h5.below.size (fun i e => by have := (hown i e).1; omega)
    have huo : ∀ i, u'.ownBlock = some i → u.ownBlock = some i ∨ w1.heap.size ≤ i := fun i e => by
      rcases hR.t.own with e2 | e2 | ⟨k, e2, hk⟩
      · exact .inl (e2 ▸ e)
      · rw [e2] at e; cases e
      · rw [e2] at e; injection e with e; exact .inr (by omega)
    have h6 := h5.keep hzr (fun i hi => hgr.block i (by
        rcases hi with e | e | e | e
        · rw [e]; exact Blk.lt h5.a.blk
        · rw [e]; exact Blk.lt h5.b.blk
        · exact (h5.a.own.block i e).2
        · exact (h5.b.own.block i e).2) (fun e' => by
        have := hown i e'.symm
        rcases hi with e | e | e | e
        · omega
        · omega
        · rw [e1] at e; have := (hvb i e).2; omega
        · rcases huo i e with e3 | e3
          · have := (hub i e3).2; omega
          · omega)) hBw
    refine hS wr ⟨⟨fun i => i = q ∨ i = r ∨ v'.ownBlock = some i ∨ u'.ownBlock = some i, ⟨⟨_, zs, v', u', h6, ⟨hR.tie, hR.ok⟩, fun i hi => hi⟩, fun i hi => ?_⟩, fun i hi => ?_⟩, by omega, fun i hi hni => ?_, fun _ => hBw⟩
    · rcases hi with e | e | e | e
      · rw [e]; exact Blk.lt h6.a.blk
      · rw [e]; exact Blk.lt h6.b.blk
      · exact (h6.a.own.block i e).2
      · exact (h6.b.own.block i e).2
    · rcases hi with e | e | e | e
      · exact .inl (hl i (.inl e))
      · exact .inl (hl i (.inr (.inl e)))
      · exact .inl (hl i (.inr (.inr (.inl (e1 ▸ e)))))
      · rcases huo i e with e3 | e3
        · exact .inl (hl i (.inr (.inr (.inr e3))))
        · exact .inr (by omega)
    · rw [hgr.block i (by omega) (fun e => by have := (hown i e.symm).1; omega), hB3.block i (by omega)]
      exact hsp.block i hi hni
  have HV := Lib.hid hV
  have x0 := hnew.cell 0
  have x2 := hnew.cell 2
  have hn64 : n ≤ 64 := by omega
  clear h hV hnew hP hn hS h2 ht hok hl hnn hvb hub hcl
  go_enter Try.func13, Try.ntmps13
  go_upto_region 1 with (fail)
  rw [HV.out]
  go_wp2_with (first
    | (go_at_call 59; ((with_reducible refine C.out.mono ?_); rintro e W1 ⟨A, c, rfl, a1, c1⟩; have C1 := Lib.hid c1; clear c1))
    | (go_at_call 61; ((with_reducible refine C1.out.mono ?_); rintro e W2 ⟨o, rfl, c2⟩; have C2 := Lib.hid c2; clear c2))
    | (go_at_call 60; ((with_reducible refine C2.out.mono ?_); rintro e W3 ⟨rfl, s3, c3⟩; have S3 := Lib.hid s3; have C3 := Lib.hid c3; clear c3 s3)))
  go_loopw [79] (fun i wr => ∃ k : Nat, k ≤ n ∧ i = .int .i64 k ∧ SpoilT W3 wr (.slice A n c) n) (fun i _ => n - (intOf i).toNat)
  case atStart => exact ⟨0, Nat.zero_le _, rfl, S3.out⟩
  case round =>
    rename_i wr
    obtain ⟨k, hk, rfl, hj⟩ := hrel
    by_cases hlt : k < n
    · obtain ⟨g, rfl, ⟨z, hz⟩, hf⟩ := spoilT_cell hj hlt
      have NX := Lib.hid (spoilT_step hj hlt (-9))
      clear hj
      go_wp2
      go_roundw
      case rel => exact ⟨k + 1, by omega, by go_num, NX.out⟩
      case measure => simp [intOf]; omega
    · obtain rfl : k = n := by omega
      have POST := Lib.hid (C3.out _ hj)
      clear hj
      go_wp2
      go_ret
      exact ⟨rfl, POST.out⟩
theorem step_any {w W : World} {q r : Nat} {L : Nat → Prop} (h : PP w W q r L) (k z1 z2 z3 : Int) (i2 : In64 z2) : StepOk w W q r L k z1 z2 z3 := by
  by_cases hk : k < 0 ∨ 6 < k
  · exact step_other h k z1 z2 z3 hk
  · have : k = 0 ∨ k = 1 ∨ k = 2 ∨ k = 3 ∨ k = 4 ∨ k = 5 ∨ k = 6 := by omega
    rcases this with e | e | e | e | e | e | e <;> subst e
    · exact step_set h z1 z2 z3 i2
    · exact step_after h z1 z2 z3 i2
    · exact step_cancel h z1 z2 z3
    · exact step_due h z1 z2 z3
    · exact step_pop h z1 z2 z3
    · exact step_left h z1 z2 z3 i2
    · exact step_clear h z1 z2 z3
end Go.Proofs.Ytdlnmhobhafobaa
