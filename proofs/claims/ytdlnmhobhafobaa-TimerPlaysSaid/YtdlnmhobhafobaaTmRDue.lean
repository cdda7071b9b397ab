/-
  The reference's Due.
-/
import Derived.Test.YtdlnmhobhafobaaTmRPop
import Derived.Test.YtdlnmhobhafobaaTmDueM
import Derived.Test.YtdlnmhobhafobaaTmRAll2
namespace Go.Proofs.Ytdlnmhobhafobaa
open Go.RowKit Go.Shelf
set_option maxRecDepth 100000
set_option maxHeartbeats 4000000
set_option linter.unusedSimpArgs false
set_option linter.unusedVariables false

theorem TmF.new {g : Nat} {v v' : Value} {a b c : World} {row : Option Nat} (h : TmF g v v' a b) (k : b.grownBy c row) (hr : ∀ i, row = some i → a.heap.size ≤ i) : TmF g v v' a c := by
  have hs := h.size
  have hk := k.size
  refine ⟨k.os.trans h.os, k.tape.trans h.tape, k.output.trans h.output, by omega, fun i hi h1 h2 => (k.block i (by omega) (fun e => by have := hr i e.symm; omega)).trans (h.block i hi h1 h2), h.own⟩
/-- behind j that have come -/
structure RD (w : World) (base r : Nat) (xs : List T2) (u : Value) (j : Nat) (o : Value) (zs : List T2) (u' : Value) (wr : World) : Prop where
  q : Rq wr base r zs u'
  t : TmF r u u' w wr
  tie : Tie (xs.drop j) zs
  ow : OwnI wr w.heap.size o ((xs.take j).map Prod.fst)
  sep : ∀ i, o.ownBlock = some i → u'.ownBlock ≠ some i
  ok : OkL zs
theorem srt_nodup {ys : List T2} (h : (ys.map Prod.fst).Nodup) : ((srt ys).map Prod.fst).Nodup := by
  have hp : (srt ys).Perm ys := by
    refine snocI (P := fun ys => (srt ys).Perm ys) (List.Perm.refl _) (fun ys y ih => ?_) ys
    rw [srt_snoc]
    have hi : ∀ zs : List T2, (insQ y zs).Perm (y :: zs) := by
      intro zs
      induction zs with
      | nil => rw [insQ_nil]
      | cons z zs ihz =>
        by_cases hz : z.2 ≤ y.2
        · rw [insQ_le zs hz]
          exact (List.Perm.cons z ihz).trans (List.Perm.swap ..)
        · rw [insQ_gt zs hz]
    exact ((hi _).trans (List.Perm.cons y ih)).trans (List.perm_append_singleton y ys).symm
  exact (hp.map Prod.fst).nodup_iff.2 h
theorem rd_step {w : World} {base r : Nat} {xs : List T2} {u : Value} {j : Nat} {o : Value} {zs : List T2} {u' : Value} {wr : World} (h : RD w base r xs u j o zs u' wr) (hb : base ≤ w.heap.size) (hr : r < w.heap.size) (now : Int) (hj : j < cnt now xs) (hx : xs.length ≤ 64) :
    ∃ x : T2, Calls Try.prog 63 #[.pointer (some ⟨r, 0, none⟩), .int .i64 now] wr fun e w1 => e = .returned (.tuple #[.int .i64 x.1, .int .i64 0]) ∧ ∃ V A n c w2, w1.alloc (.cells #[.int .i64 x.1] 3) = V ∧
      (Builtin.append_ #[99, 99] 99 #[o, .slice (some ⟨w1.heap.size, 0, none⟩) 1 1]).run Try.prog V = .ok (.slice A n c) w2 ∧ ∃ zs' u'', RD w base r xs u (j + 1) (.slice A n c) zs' u'' w2 := by
  have hcl := cnt_le now xs
  have hlen := h.tie.len
  rw [List.length_drop] at hlen
  have hz0 : 0 < zs.length := by omega
  obtain ⟨k, hk, hkl⟩ := fiN_in zs zs.length hz0
  obtain ⟨x, hxk, hs, -⟩ := srt_first zs k hk
  have hxj : xs[j]? = some x := by
    have h1 : (xs.drop j)[0]? = some x := by rw [h.tie.1, hs]; rfl
    rw [List.getElem?_drop] at h1
    exact h1
  have hle : x.2 ≤ now := due_at hj hxj
  have hT := h.tie.without hxk
  have hd : xs.drop j = x :: xs.drop (j + 1) := by
    rw [List.drop_eq_getElem_cons (by omega)]
    congr 1
    have := List.getElem?_eq_some_iff.1 hxj
    exact this.2
  have hw : without x (xs.drop j) = xs.drop (j + 1) := by
    have hnd : ((xs.drop j).map Prod.fst).Nodup := by
      rw [h.tie.1]
      exact srt_nodup h.tie.2.1
    rw [hd] at hnd ⊢
    exact without_head hnd
  rw [hw] at hT
  have hs1 := h.t.size
  refine ⟨x, (rpop_some base r zs x k u' now wr h.q (by omega) h.tie.2.2 hk hxk hle).mono ?_⟩
  rintro e w1 ⟨rfl, u2, hq, t2⟩
  have hs2 := t2.size
  have hob := h.ow.form.2
  have ho1 := h.ow.tm t2 (fun e => by have := (hob _ e).1; omega) h.sep
  have BA : Below w1.heap.size w1 (w1.alloc (.cells #[.int .i64 x.1] 3)) := (Below.refl _ _).alloc (Nat.le_refl _) _
  obtain ⟨V, hV⟩ : ∃ V, w1.alloc (.cells #[.int .i64 x.1] 3) = V := ⟨_, rfl⟩
  have lit : OwnI V w1.heap.size (.slice (some ⟨w1.heap.size, 0, none⟩) 1 1) [x.1] := by
    rw [← hV]
    exact World.ownsRow_lit w1 #[.int .i64 x.1] 1 (Nat.le_refl _) (by unfold maxLen; omega) rfl
  rw [hV] at BA
  have tk : ((xs.take j).map Prod.fst).length ≤ 64 := by rw [List.length_map, List.length_take]; omega
  have zA := BA.size
  obtain ⟨o', w2, hrun, ho2, hg2, hv2⟩ := appI_all (ho1.ob.below BA).get lit (by rw [List.length_singleton]; omega) (by omega)
  obtain ⟨A, c, hsl, _⟩ := ho2.form.1
  have hob1 := ho1.form.2
  have sep1 : ∀ i, o.ownBlock = some i → u2.ownBlock ≠ some i := fun i e e2 => by
    rcases t2.own with e3 | e3 | ⟨m, e3, hm⟩
    · exact h.sep i e (e3 ▸ e2)
    · rw [e3] at e2; cases e2
    · rw [e3] at e2
      injection e2 with e2
      have := (hob i e).2
      omega
  have t3 : TmF r u u2 w w2 := (((h.t.trans t2).later BA)).new hg2 (fun i e => (hob1 i e).1)
  have hqV := hq.later BA
  have hrq := hq.own.block
  refine ⟨rfl, V, A, _, c, w2, hV, by rw [← hsl]; exact hrun, zs.eraseIdx k, u2, ?_, t3, hT, ?_, ?_, fun y hy => h.ok y ((List.eraseIdx_sublist zs k).subset hy)⟩
  · refine ⟨(hg2.block r (Blk.lt hqV.blk) (fun e => by have := (hob1 r e.symm).1; omega)).trans hqV.blk, (hqV.own.ob.grown hg2 (fun i e e2 => sep1 i e (mem_own.1 e2))).get, hq.ne⟩
  · rw [← hsl, take_one_more hxj, List.map_append]
    exact ho2
  · rw [← hsl]
    intro i e e2
    rcases hv2 with e3 | e3
    · exact sep1 i (e3 ▸ e) e2
    · rw [e3] at e
      injection e with e
      have := (hqV.own.block i e2).2
      omega
theorem rd_end {w : World} {base r : Nat} {xs : List T2} {u : Value} {o : Value} {zs : List T2} {u' : Value} {wr : World} (now : Int) (h : RD w base r xs u (cnt now xs) o zs u' wr) (hx : xs.length ≤ 64) :
    Calls Try.prog 63 #[.pointer (some ⟨r, 0, none⟩), .int .i64 now] wr fun e w1 => e = .returned (.tuple #[.int .i64 0, .int .i64 5]) ∧ RD w base r xs u (cnt now xs) o zs u' w1 := by
  have later : ∀ w1, Below wr.heap.size wr w1 → RD w base r xs u (cnt now xs) o zs u' w1 := fun w1 hB => ⟨h.q.later hB, h.t.later hB, h.tie, (h.ow.ob.below hB).get, h.sep, h.ok⟩
  rcases Nat.eq_zero_or_pos zs.length with h0 | h0
  · obtain rfl : zs = [] := List.eq_nil_of_length_eq_zero h0
    refine (rpop_none0 base r u' now wr h.q).mono ?_
    rintro e w1 ⟨rfl, hB⟩
    exact ⟨rfl, later w1 hB⟩
  · obtain ⟨k, hk, hkl⟩ := fiN_in zs zs.length h0
    obtain ⟨x, hxk, hs, -⟩ := srt_first zs k hk
    have hlt : now < x.2 := by
      have h1 := due_rest now xs
      rw [h.tie.1, hs] at h1
      by_cases hle : x.2 ≤ now
      · rw [cnt_cons_pos _ hle] at h1; omega
      · omega
    refine (rpop_none1 base r zs x k u' now wr h.q h.tie.2.2 hk hxk hlt).mono ?_
    rintro e w1 ⟨rfl, hB⟩
    exact ⟨rfl, later w1 hB⟩
theorem rdue_any (base r : Nat) (xs ys : List T2) (u : Value) (now : Int) (w : World) (h : Rq w base r ys u) (ht : Tie xs ys) (hok : OkL ys) (hb : base ≤ w.heap.size) :
    Calls Try.prog 61 #[.pointer (some ⟨r, 0, none⟩), .int .i64 now] w fun e w' => ∃ o zs u', e = .returned o ∧ RD w base r xs u (cnt now xs) o zs u' w' := by
  have hx : xs.length ≤ 64 := by rw [ht.len]; exact ht.2.2
  have hr := Blk.lt h.blk
  have R0 : Hid (RD w base r xs u 0 (.slice none 0 0) ys u w) := ⟨h, TmF.refl r u w, ht, OwnI.nil _ _, by simp [Value.ownBlock], hok⟩
  have hcl := cnt_le now xs
  clear h ht hok
  go_enter Try.func61, Try.ntmps61
  go_wp2
  go_loopw [5] (fun o wr => ∃ (j : Nat) (A : Option Addr) (c : Nat) (zs : List T2) (u' : Value), j ≤ cnt now xs ∧ o = .slice A j c ∧ Hid (RD w base r xs u j o zs u' wr)) (fun o _ => cnt now xs - lenOf o)
  case atStart => exact ⟨0, none, 0, ys, u, Nat.zero_le _, rfl, R0.out⟩
  case round =>
    rename_i wr
    obtain ⟨j, A, c, zs, u', hj, rfl, hR⟩ := hrel
    by_cases hlt : j < cnt now xs
    · obtain ⟨x, S⟩ := rd_step hR.out hb hr now hlt hx
      have HS := Lib.hid S
      clear S hR
      go_wp2_with (first
        | (go_at_call 63; ((with_reducible refine HS.out.mono ?_); rintro e w1 ⟨rfl, V, A2, n2, c2, w2, hV, hrun, zs2, u2, h2⟩; have HV := Lib.hid hV; have HR := Lib.hid hrun; have H2 := Lib.hid h2; clear hV hrun h2))
        | (rw [HV.out])
        | (at_builtin; refine wpList_appT 99 99 rfl (.tmp 17) (.tmp 19) rfl _ _ rfl rfl _ _ HR.out ?_))
      have hn2 : n2 = j + 1 := by
        obtain ⟨A', c', e, _⟩ := H2.out.ow.form.1
        injection e with _ e
        rw [e, List.length_map, List.length_take]
        omega
      subst hn2
      go_roundw
      case rel => exact ⟨j + 1, A2, c2, zs2, u2, by omega, rfl, H2⟩
      case measure => simp [lenOf]; omega
    · obtain rfl : j = cnt now xs := by omega
      have HE := Lib.hid (rd_end now hR.out hx)
      clear hR
      go_wp2_with (go_at_call 63; ((with_reducible refine HE.out.mono ?_); rintro e w1 ⟨rfl, h2⟩; have H2 := Lib.hid h2; clear h2))
      go_ret
      exact ⟨_, zs, u', rfl, H2.out⟩
end Go.Proofs.Ytdlnmhobhafobaa
