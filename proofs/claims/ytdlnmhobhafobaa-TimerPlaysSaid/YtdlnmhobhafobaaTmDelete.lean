/-
  slices.Delete of the first timers.
-/
import Derived.Test.YtdlnmhobhafobaaTmSetA
namespace Go.Proofs.Ytdlnmhobhafobaa
open Go.RowKit Go.Shelf
set_option maxRecDepth 100000
set_option maxHeartbeats 2000000
set_option linter.unusedSimpArgs false
set_option linter.unusedVariables false

theorem step_appT (t t' : TypeId) {w : World} {ops : Array Oper} {o : Oper} {a : Act} {K : Act → World → Prop} {Q : Exit → Act → World → Prop} {E : Prop} (hgd : o.guard = none) (s x : Operand)
    (ho : o.op = .call { callee := .builtin .append, args := #[s, x], argTypes := #[t, t'] }) (v u : Value) (hs : a.eval s = v) (hx : a.eval x = u)
    (v' : Value) (w2 : World) (hrun : (Builtin.append_ #[t, t'] o.type #[v, u]).run Try.prog w = .ok v' w2)
    (h : K (a.put o.dst v') w2) : if Region.wanted o (yielded ops a.tmps) = true then Oper.wp Try.prog o a w K Q else E := by
  have hw : Region.wanted o (yielded ops a.tmps) = true := by simp [Region.wanted, hgd]
  rw [if_pos hw]
  unfold Oper.wp execOp
  simp only [ho, resolve, invoke, builtin, Sem.run_bind, Sem.run_pure, Result.andThen_ok, List.map_toArray, List.map_cons, List.map_nil, hs, hx, hrun]
  exact h
theorem addr_add' (g o i : Nat) : (⟨g, o, none⟩ : Addr).add i = ⟨g, o + i, none⟩ := by
  unfold Addr.add
  split
  · rename_i h
    rw [h]
    rfl
  · rfl
/-- append(s[:0], s[k:]...) -/
theorem appDel {w : World} {base g n cap : Nat} {xs : List T2} (ho : OwnT w base (.slice (some ⟨g, 0, none⟩) n cap) xs) (k o' : Nat) (hk : k ≤ n) (h2 : k < cap → o' = k * 2) :
    ∃ w' L, (Builtin.append_ #[90, 90] 90 #[.slice (some ⟨g, 0, none⟩) 0 cap, .slice (some ⟨g, o', none⟩) (n - k) (cap - k)]).run Try.prog w = .ok (.slice (some ⟨g, 0, none⟩) (n - k) cap) w' ∧
      OwnT w' base (.slice (some ⟨g, 0, none⟩) n cap) L ∧ L.take (n - k) = xs.drop k ∧ w.grownBy w' (some g) := by
  obtain ⟨inf, hinf, hz, h1, h2'⟩ := info_parts infoT
  obtain ⟨cur, hb, hbg, hn, hc, hcmx, hl, ht⟩ := ho.raw
  have hX : (xs.flatMap cellsT).length = n * 2 := by rw [flat_length, hn]; omega
  have hnl : ((xs.flatMap cellsT).drop (k * 2)).length = (n - k) * inf.size := by rw [List.length_drop, hX, h1]; omega
  have hrun := run_append_room (P := Try.prog) w 90 90 95 inf Try.underlying90 hinf g 0 cap cur.toArray hb ⟨g, o', none⟩ (n - k) (cap - k) ((xs.flatMap cellsT).drop (k * 2)) hnl
    (fun j u hj => by
      rw [addr_add', hb.cell]
      have hjl := (List.getElem?_eq_some_iff.1 hj).1
      rw [List.length_drop, hX] at hjl
      rw [h2 (by omega)]
      rw [← ht, List.getElem?_drop, List.getElem?_take] at hj
      split at hj
      · exact hj
      · cases hj) (fun u hu => flat_one xs u (List.mem_of_mem_drop hu)) (by omega) (by rw [hnl, h1]; simp; omega)
  rw [h1] at hrun hnl
  rw [Nat.zero_add, Nat.zero_mul, Nat.zero_add, hnl, List.take_zero, List.nil_append] at hrun
  refine ⟨_, xs.drop k ++ xs.drop (n - k), hrun, ?_, ?_, grown_setRow _⟩
  · have hbk := setRow_heap w g _ ((xs.flatMap cellsT).drop (k * 2) ++ cur.toArray.toList.drop ((n - k) * 2)).toArray _ _ hb
    refine ownT_mk hbk hbg (by rw [List.length_append, List.length_drop, List.length_drop]; omega) hc hcmx ?_ ?_
    · rw [List.length_append, hnl, List.length_drop]
      simp only [hl]
      omega
    · rw [List.flatMap_append, ← flat_drop, ← flat_drop, List.take_append, List.take_of_length_le (by omega), hnl]
      congr 1
      rw [← ht, List.drop_take]
      try (congr 1; omega)
  · rw [List.take_append_of_le_length (by rw [List.length_drop]; omega), List.take_of_length_le (by rw [List.length_drop]; omega)]
theorem delete_none (base : Nat) (v : Value) (xs : List T2) (w : World) (ho : OwnT w base v xs) :
    Calls Try.prog 98 #[v, .int .i64 0, .int .i64 0] w fun e w' => e = .returned v ∧ w = w' := by
  rcases ho.form with ⟨rfl, rfl⟩ | ⟨g, cap, rfl, hbg, hgl, hlc, hcm⟩
  · clear ho
    go_enter Try.func98, Try.ntmps98
    go_wp2
    go_ret
    exact ⟨rfl, rfl⟩
  · obtain ⟨n, hn⟩ : ∃ n, n = xs.length := ⟨_, rfl⟩
    rw [← hn] at hlc ⊢
    have i1 : (0 : Int) ≤ (n : Int) := by omega
    have i2 : (n : Int) ≤ (cap : Int) := by omega
    clear ho hn hcm hgl hbg
    go_enter Try.func98, Try.ntmps98
    go_wp2
    go_ret
    exact ⟨rfl, rfl⟩
theorem delete_some (base g n cap k : Nat) (xs : List T2) (w : World) (ho : OwnT w base (.slice (some ⟨g, 0, none⟩) n cap) xs) (hk0 : 0 < k) (hk : k ≤ n) :
    Calls Try.prog 98 #[.slice (some ⟨g, 0, none⟩) n cap, .int .i64 0, .int .i64 k] w fun e w' =>
      e = .returned (.slice (some ⟨g, 0, none⟩) (n - k) cap) ∧ OwnT w' base (.slice (some ⟨g, 0, none⟩) (n - k) cap) (xs.drop k) ∧ w.grownBy w' (some g) := by
  obtain ⟨cur, hb, hbg, hn, hc, hcmx, hl, ht⟩ := ho.raw
  have hod : OwnT w.drew base (.slice (some ⟨g, 0, none⟩) n cap) xs := ho
  obtain ⟨w1, L, hr1, ho1, hL, hg1⟩ := appDel hod k (if cap = k then 0 else k * 2) hk (fun h => by rw [if_neg (by omega)])
  obtain ⟨w2, hr2, ho2, hg2⟩ := clearT ho1 (n - k) (by omega) (some ⟨g, (n - k) * 2, none⟩) (fun _ => rfl)
  rw [hL] at ho2
  have POST : Hid (OwnT w2 base (.slice (some ⟨g, 0, none⟩) (n - k) cap) (xs.drop k) ∧ w.grownBy w2 (some g)) := by
    refine ⟨ho2, ?_⟩
    have h1 : w.grownBy w1 (some g) := ⟨hg1.os, hg1.tape, hg1.output, hg1.size, hg1.block⟩
    exact h1.trans hg2
  have R1 := Lib.hid hr1
  rw [show n - (n - k) = k by omega] at hr2
  obtain ⟨m, hm⟩ : ∃ m, m = n - k := ⟨_, rfl⟩
  rw [← hm] at R1 hr2 POST ⊢
  have i0 : (0 : Int) ≤ (k : Int) := by omega
  have i1 : (k : Int) ≤ (n : Int) := by omega
  have i2 : (n : Int) ≤ (cap : Int) := by omega
  have i3 : ¬ ((0 : Int) = (k : Int)) := by omega
  have i4 : (0 : Int) ≤ (cap : Int) := by omega
  have i5 : (0 : Int) ≤ (m : Int) := by omega
  have i6 : (m : Int) ≤ (n : Int) := by omega
  have i7 : ¬ (cap = m) := by omega
  have hst : ∀ W, (Instr.slice 90 (.slice (some ⟨g, 0, none⟩) m cap) (some (.int .i64 (m : Int))) (some (.int .i64 (n : Int))) none).run Try.prog W = .ok (.slice (some ⟨g, m * 2, none⟩) k (cap - m)) W := fun W => by
    rw [run_slice_lh W 90 _ _ _ (by rw [tslice_elem]; exact Try.underlying90) .i64 .i64 _ _ i5 i6 i2, tslice_elem, timer_sizeOf]
    simp only [Result.andThen_ok, sliced, Int.toNat_natCast]
    rw [show n - m = k by omega]
    congr 2
    rw [if_neg (by omega)]
    exact congrArg some (addr_add g (m * 2))
  have hs0 : ∀ W, (Instr.slice 90 (.slice (some ⟨g, 0, none⟩) n cap) (some (.int .i64 (k : Int))) none none).run Try.prog W = .ok (.slice (some ⟨g, if cap = k then 0 else k * 2, none⟩) m (cap - k)) W := fun W => by
    rw [run_slice_l W 90 _ _ _ (by rw [tslice_elem]; exact Try.underlying90) .i64 _ i0 i1, tslice_elem, timer_sizeOf]
    simp only [Result.andThen_ok, sliced, Int.toNat_natCast]
    rw [hm]
    congr 2
    split
    · rfl
    · exact congrArg some (addr_add g (k * 2))
  obtain ⟨o', ho'⟩ : ∃ o', o' = (if cap = k then 0 else k * 2) := ⟨_, rfl⟩
  rw [← ho'] at R1 hs0
  clear ho hb hbg hn hc hcmx hl ht hod hr1 ho1 hL hg1 ho2 hg2 hk0 hk hm ho'
  go_enter Try.func98, Try.ntmps98
  go_wp2
  go_region_law (refine step_appT 90 90 rfl (.tmp 22) (.tmp 25) rfl (.slice (some ⟨g, 0, none⟩) 0 cap) (.slice (some ⟨g, o', none⟩) m (cap - k)) (by go_simp) (by go_simp) _ _ R1.out ?_)
  all_goals go_wp2
  all_goals go_ret
  all_goals exact ⟨rfl, POST.out⟩
end Go.Proofs.Ytdlnmhobhafobaa
