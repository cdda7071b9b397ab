/-
  The reference's queue: Cancel, Pop.
-/
import Derived.Test.YtdlnmhobhafobaaTmPair
namespace Go.Proofs.Ytdlnmhobhafobaa
open Go.RowKit Go.Shelf
set_option maxRecDepth 100000
set_option maxHeartbeats 4000000
set_option linter.unusedSimpArgs false
set_option linter.unusedVariables false

/-- what both find -/
theorem Tie.find {xs ys : List T2} (h : Tie xs ys) (id : Int) : (fnd id xs = none ∧ rf id ys = -1) ∨ ∃ t k, fnd id xs = some t ∧ rf id ys = (k : Nat) ∧ k < ys.length ∧ ys[k]? = some t := by
  by_cases hk : rf id ys < 0
  · have hn := rf_neg.1 hk
    exact .inl ⟨fnd_iff.2 fun x hx => hn x (by rw [h.1] at hx; exact (srt_mem x ys).1 hx), ix_none hn⟩
  · obtain ⟨k, e, hl⟩ := rf_lt hk
    obtain ⟨x, hx, hid⟩ := rf_pos e
    have hxm : x ∈ xs := by rw [h.1]; exact (srt_mem x ys).2 (List.mem_of_getElem? hx)
    cases hf : fnd id xs with
    | none => exact absurd hid (fnd_iff.1 hf x hxm)
    | some t =>
      have ht1 : t.1 = id := by have := List.find?_some hf; simpa using this
      have ht2 : t ∈ ys := by have := List.mem_of_find?_eq_some hf; rw [h.1] at this; exact (srt_mem t ys).1 this
      have : t = x := nodup_inj h.2.1 ht2 (List.mem_of_getElem? hx) (ht1.trans hid.symm)
      exact .inr ⟨t, k, rfl, e, hl, by rw [this]; exact hx⟩
theorem rcancel_none (base g : Nat) (ys : List T2) (v : Value) (id : Int) (w : World) (h : Rq w base g ys v) (hm : ys.length ≤ 64) (hf : rf id ys = -1) :
    Calls Try.prog 58 #[.pointer (some ⟨g, 0, none⟩), .int .i64 id] w fun e w' => e = .returned (.int .i64 5) ∧ Below w.heap.size w w' := by
  have F : Hid (Calls Try.prog 97 #[.pointer (some ⟨g, 0, none⟩), .int .i64 id] w fun e w' => e = .returned (.int .i64 (-1)) ∧ Below w.heap.size w w') := by
    refine (rtmfind_any base g ys v id w h (by omega)).mono ?_
    rintro e w' ⟨rfl, hB⟩
    exact ⟨by rw [hf], hB⟩
  clear h hf
  go_enter Try.func58, Try.ntmps58
  go_wp2_with (go_at_call 97; ((with_reducible refine F.out.mono ?_); rintro e w1 ⟨rfl, hB⟩; have HB := Lib.hid hB; clear hB))
  go_ret
  exact ⟨rfl, HB.out⟩
theorem rcancel_some (base g : Nat) (ys : List T2) (v : Value) (id : Int) (k : Nat) (w : World) (h : Rq w base g ys v) (hb : base ≤ w.heap.size) (hm : ys.length ≤ 64) (hf : rf id ys = k) (hk : k < ys.length) :
    Calls Try.prog 58 #[.pointer (some ⟨g, 0, none⟩), .int .i64 id] w fun e w' => e = .returned (.int .i64 0) ∧ ∃ v', Rq w' base g (ys.eraseIdx k) v' ∧ TmF g v v' w w' := by
  have F : Hid (Calls Try.prog 97 #[.pointer (some ⟨g, 0, none⟩), .int .i64 id] w fun e w1 => e = .returned (.int .i64 k) ∧
      Calls Try.prog 70 #[.pointer (some ⟨g, 0, none⟩), .int .i64 k] w1 fun e w2 => e = .returned (.tuple #[]) ∧ ∃ v', Rq w2 base g (ys.eraseIdx k) v' ∧ TmF g v v' w w2) := by
    refine (rtmfind_any base g ys v id w h (by omega)).mono ?_
    rintro e w1 ⟨rfl, hB⟩
    refine ⟨by rw [hf], (rtmout_any base g ys v k w1 (h.later hB) (Nat.le_trans hb hB.size) hk (by omega)).mono ?_⟩
    rintro e w2 ⟨rfl, v', hq, ht⟩
    exact ⟨rfl, v', hq, ((TmF.refl g v w).later hB).trans ht⟩
  have k0 : ¬ ((k : Int) < 0) := by omega
  clear h hf
  go_enter Try.func58, Try.ntmps58
  go_wp2_with (first
    | (go_at_call 97; ((with_reducible refine F.out.mono ?_); rintro e w1 ⟨rfl, c1⟩; have C1 := Lib.hid c1; clear c1))
    | (go_at_call 70; ((with_reducible refine C1.out.mono ?_); rintro e w2 ⟨rfl, c2⟩; have C2 := Lib.hid c2; clear c2)))
  go_ret
  exact ⟨rfl, C2.out⟩
theorem rpop_none0 (base g : Nat) (v : Value) (now : Int) (w : World) (h : Rq w base g [] v) :
    Calls Try.prog 63 #[.pointer (some ⟨g, 0, none⟩), .int .i64 now] w fun e w' => e = .returned (.tuple #[.int .i64 0, .int .i64 5]) ∧ Below w.heap.size w w' := by
  have F : Hid (Calls Try.prog 69 #[.pointer (some ⟨g, 0, none⟩)] w fun e w' => e = .returned (.int .i64 (-1)) ∧ Below w.heap.size w w') := by
    refine (rtmfirst_any base g [] v w h (by simp)).mono ?_
    rintro e w' ⟨rfl, hB⟩
    exact ⟨rfl, hB⟩
  clear h
  go_enter Try.func63, Try.ntmps63
  go_wp2_with (go_at_call 69; ((with_reducible refine F.out.mono ?_); rintro e w1 ⟨rfl, hB⟩; have HB := Lib.hid hB; clear hB))
  go_ret2
  exact ⟨rfl, HB.out⟩
theorem rpop_none1 (base g : Nat) (ys : List T2) (x : T2) (k : Nat) (v : Value) (now : Int) (w : World) (h : Rq w base g ys v) (hm : ys.length ≤ 64) (hk : fiN ys ys.length = k) (hx : ys[k]? = some x) (hlt : now < x.2) :
    Calls Try.prog 63 #[.pointer (some ⟨g, 0, none⟩), .int .i64 now] w fun e w' => e = .returned (.tuple #[.int .i64 0, .int .i64 5]) ∧ Below w.heap.size w w' := by
  have hkl : k < ys.length := (List.getElem?_eq_some_iff.1 hx).1
  obtain ⟨n, hn⟩ : ∃ n, ys.length = n := ⟨_, rfl⟩
  have F : Hid (Calls Try.prog 69 #[.pointer (some ⟨g, 0, none⟩)] w fun e w' => e = .returned (.int .i64 k) ∧ Below w.heap.size w w' ∧ ∃ gr c, w'.cell? ⟨g, 0, none⟩ = some (.slice (some ⟨gr, 0, none⟩) n c) ∧ w'.cell? ⟨gr, k * 2 + 1, none⟩ = some (.int .i64 x.2)) := by
    refine (rtmfirst_any base g ys v w h (by omega)).mono ?_
    rintro e w' ⟨rfl, hB⟩
    have h2 := h.later hB
    obtain ⟨gr, c, e, _⟩ := ownR_shape h2.own (by omega)
    rw [hn] at e
    subst e
    exact ⟨by rw [hk], hB, gr, c, h2.blk.cell 0, (h2.own.cell k x hx).2⟩
  have k0 : ¬ ((k : Int) < 0) := by omega
  have k1 : (k : Int) < (n : Int) := by omega
  clear h hx hk
  go_enter Try.func63, Try.ntmps63
  go_wp2_with (go_at_call 69; ((with_reducible refine F.out.mono ?_); rintro e w1 ⟨rfl, hB, gr, c, x0, x1⟩; have HB := Lib.hid hB; clear hB))
  go_ret2
  exact ⟨rfl, HB.out⟩
theorem rpop_some (base g : Nat) (ys : List T2) (x : T2) (k : Nat) (v : Value) (now : Int) (w : World) (h : Rq w base g ys v) (hb : base ≤ w.heap.size) (hm : ys.length ≤ 64) (hk : fiN ys ys.length = k) (hx : ys[k]? = some x) (hle : x.2 ≤ now) :
    Calls Try.prog 63 #[.pointer (some ⟨g, 0, none⟩), .int .i64 now] w fun e w' => e = .returned (.tuple #[.int .i64 x.1, .int .i64 0]) ∧ ∃ v', Rq w' base g (ys.eraseIdx k) v' ∧ TmF g v v' w w' := by
  have hkl : k < ys.length := (List.getElem?_eq_some_iff.1 hx).1
  obtain ⟨n, hn⟩ : ∃ n, ys.length = n := ⟨_, rfl⟩
  have F : Hid (Calls Try.prog 69 #[.pointer (some ⟨g, 0, none⟩)] w fun e w' => e = .returned (.int .i64 k) ∧ (∃ gr c, w'.cell? ⟨g, 0, none⟩ = some (.slice (some ⟨gr, 0, none⟩) n c) ∧ w'.cell? ⟨gr, k * 2, none⟩ = some (.int .i64 x.1) ∧ w'.cell? ⟨gr, k * 2 + 1, none⟩ = some (.int .i64 x.2)) ∧
      Calls Try.prog 70 #[.pointer (some ⟨g, 0, none⟩), .int .i64 k] w' fun e w2 => e = .returned (.tuple #[]) ∧ ∃ v', Rq w2 base g (ys.eraseIdx k) v' ∧ TmF g v v' w w2) := by
    refine (rtmfirst_any base g ys v w h (by omega)).mono ?_
    rintro e w' ⟨rfl, hB⟩
    have h2 := h.later hB
    obtain ⟨gr, c, e, _⟩ := ownR_shape h2.own (by omega)
    rw [hn] at e
    have h3 := h2
    rw [e] at h3
    refine ⟨by rw [hk], ⟨gr, c, h3.blk.cell 0, h3.own.cell k x hx⟩, (rtmout_any base g ys v k w' h2 (Nat.le_trans hb hB.size) hkl (by omega)).mono ?_⟩
    rintro e w2 ⟨rfl, v', hq, ht⟩
    exact ⟨rfl, v', hq, ((TmF.refl g v w).later hB).trans ht⟩
  have k0 : ¬ ((k : Int) < 0) := by omega
  have k1 : (k : Int) < (n : Int) := by omega
  have k2 : ¬ (now < x.2) := by omega
  clear h hx hk
  go_enter Try.func63, Try.ntmps63
  go_wp2_with (first
    | (go_at_call 69; ((with_reducible refine F.out.mono ?_); rintro e w1 ⟨rfl, ⟨gr, c, x0, x1, x2⟩, c1⟩; have C1 := Lib.hid c1; clear c1))
    | (go_at_call 70; ((with_reducible refine C1.out.mono ?_); rintro e w2 ⟨rfl, c2⟩; have C2 := Lib.hid c2; clear c2)))
  go_ret2
  exact ⟨rfl, C2.out⟩
end Go.Proofs.Ytdlnmhobhafobaa
