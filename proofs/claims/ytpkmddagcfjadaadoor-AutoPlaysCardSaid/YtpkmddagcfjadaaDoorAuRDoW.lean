/-
  The reference's Do and Timeout: the walks.
-/
import Derived.Test.YtpkmddagcfjadaaDoorAuRDo
namespace Go.Proofs.YtpkmddagcfjadaaDoor
open Go.RowKit
set_option maxRecDepth 100000
set_option maxHeartbeats 8000000
set_option linter.unusedSimpArgs false
set_option linter.unusedVariables false

theorem rdo_any (g : Nat) (s c mc mt e : Int) (w : World) (ha : RAuB w g s c mc mt) (h1 : 0 ≤ mc ∧ mc ≤ 255) (h2 : 0 ≤ mt ∧ mt ≤ 255) (h3 : 0 ≤ c ∧ c ≤ 255) :
    Calls Tryd.prog 44 #[.pointer (some ⟨g, 0, none⟩), .int .i64 e] w fun r w' => ∃ v, r = .returned (.tuple #[v, .int .i64 (doE s c e)]) ∧ OwnI w' w.heap.size v (doA s c e) ∧ RAuB w' g (doS s c e) (doC s c mc mt e) mc mt ∧ w.grownBy w' (some g) := by
  have c0 : w.cell? ⟨g, 2, none⟩ = some (.int .i64 s) := ha.cell 2
  have HN := Lib.hid (rnext_any s e w)
  have hgl := ha.lt
  have HA := Lib.hid ha
  have H1 := Lib.hid h1
  have H2 := Lib.hid h2
  have H3 := Lib.hid h3
  clear ha h1 h2
  have key0 : ∀ w1, Below w.heap.size w w1 → w1.cell? ⟨g, 3, none⟩ = some (.int .i64 c) := fun w1 hb => (HA.out.below hb hgl).cell 3
  have KEY0 := Lib.hid key0
  clear key0
  by_cases hx : nxE s e = 0
  · by_cases ho : outOf c e = true
    · have HD : doE s c e = 9 := by unfold doE; rw [if_pos hx, if_pos ho]
      obtain ⟨r1, r2, r3⟩ := do_refused (mc := mc) (mt := mt) HD (by omega)
      rw [HD, r1, r2, r3]
      rw [hx] at HN
      clear HD r1 r2 r3 hx
      have ho2 : (e = 4 ∧ c = 0) ∨ (e = 5 ∧ 0 < c) := by
        unfold outOf at ho
        simpa [Bool.or_eq_true, Bool.and_eq_true] using ho
      clear ho
      rcases ho2 with ⟨rfl, rfl⟩ | ⟨rfl, hc⟩
      all_goals
        go_enter Tryd.func44, Tryd.ntmps44
        go_wp2_with (go_at_call 13; ((with_reducible refine HN.out.mono ?_); rintro e w1 ⟨v, rfl, ho, hb⟩; have k1 := KEY0.out w1 hb; have BB := Lib.hid hb; clear ho hb HN))
        go_ret2
        exact ⟨_, rfl, OwnI.nil _ _, HA.out.below BB.out hgl, grown_none (grown_of_below BB.out)⟩
    · have HD : doE s c e = 0 := by unfold doE; rw [if_pos hx, if_neg ho]
      obtain ⟨r1, r2, r3⟩ := do_done (mc := mc) (mt := mt) HD
      rw [HD, r1, r2, r3]
      rw [hx] at HN
      have hlen := nxA_length s e
      obtain ⟨ns, hns⟩ : ∃ ns, nxS s e = ns := ⟨_, rfl⟩
      obtain ⟨l, hl⟩ : ∃ l, nxA s e = l := ⟨_, rfl⟩
      rw [hns, hl] at HN ⊢
      rw [hl] at hlen
      have ho2 : ¬ ((e = 4 ∧ c = 0) ∨ (e = 5 ∧ 0 < c)) := by
        intro h
        apply ho
        unfold outOf
        rcases h with ⟨h4, h0⟩ | ⟨h4, h0⟩
        · simp [h4, h0]
        · simp [h4, h0]
      have hcase : (e = 4 ∧ (c == 0) = false) ∨ (e = 5 ∧ ¬ 0 < c) ∨ ((e == 4) = false ∧ (e == 5) = false) := by
        by_cases h4 : e = 4
        · exact .inl ⟨h4, by simp; omega⟩
        · by_cases h5 : e = 5
          · exact .inr (.inl ⟨h5, by omega⟩)
          · exact .inr (.inr ⟨by simpa using h4, by simpa using h5⟩)
      have START : Hid (∀ w1 v, OwnI w1 w.heap.size v l → Below w.heap.size w w1 → RDoJ w w1 g s c mc mt l v 0) := fun w1 v ho hb => ⟨HA.out.below hb hgl, ho, grown_none (grown_of_below hb)⟩
      clear HD r1 r2 r3 hx hns hl ho ho2
      have walk : Calls Tryd.prog 44 #[.pointer (some ⟨g, 0, none⟩), .int .i64 e] w fun r w' => ∃ v w2, r = .returned (.tuple #[v, .int .i64 0]) ∧ RDoJ w w2 g s c mc mt l v l.length ∧ w' = w2.setCell ⟨g, 2, none⟩ (.int .i64 ns) := by
        rcases hcase with ⟨rfl, tc⟩ | ⟨rfl, tc⟩ | ⟨t4, t5⟩
        all_goals
          go_enter Tryd.func44, Tryd.ntmps44
          go_wp2_with (go_at_call 13; ((with_reducible refine HN.out.mono ?_); rintro e w1 ⟨v, rfl, ho, hb⟩; have k1 := KEY0.out w1 hb; obtain ⟨A0, n0, c0, rfl⟩ := ownI_shape ho; have ST := Lib.hid (START.out w1 _ ho hb); clear ho hb HN START))
          have hn0 : Hid (n0 = l.length) := ST.out.2.1.rd.1.1.symm
          have hn3 : n0 ≤ 3 := by have := hn0.out; omega
          go_loopw [46] (fun i wr => ∃ k : Nat, k ≤ n0 ∧ i = .int .i64 k ∧ RDoJ w wr g s c mc mt l (.slice A0 n0 c0) k) (fun i _ => n0 - (intOf i).toNat)
          case atStart => exact ⟨0, Nat.zero_le _, rfl, ST.out⟩
          case round =>
            rename_i wr
            obtain ⟨k, hk, rfl, hj⟩ := hrel
            have hgr : g < wr.heap.size := hj.1.lt
            by_cases hlt : k < n0
            · obtain ⟨b, off, rfl, hb2, hc⟩ := hj.2.1.rd.1.2 (by omega)
              have hcell := hc k hlt
              have hsn := rkn_snoc mc mt l k c (by have := hn0.out; omega)
              have hbd := rkn_bounds l H1.out H2.out (l.take k) c H3.out
              have HZ0 : Hid (rkn mc mt l (l.take k) c = rkn mc mt l (l.take k) c) := rfl
              obtain ⟨y, hy⟩ : ∃ y, numAt l k = y := ⟨_, rfl⟩
              obtain ⟨z, hz⟩ : ∃ z, rkn mc mt l (l.take k) c = z := ⟨_, rfl⟩
              rw [hy] at hcell hsn
              rw [hz] at hsn hbd
              have hc3 : wr.cell? ⟨g, 3, none⟩ = some (.int .i64 z) := by rw [← hz]; exact hj.1.cell 3
              have hf3 : wr.frozen? ⟨g, 3, none⟩ = false := hj.1.frozen 3
              have hc0 : wr.cell? ⟨g, 0, none⟩ = some (.int .i64 mc) := hj.1.cell 0
              have hc1 : wr.cell? ⟨g, 1, none⟩ = some (.int .i64 mt) := hj.1.cell 1
              have HJ := Lib.hid hj
              have HZ := Lib.hid hz
              have HS := Lib.hid hsn
              have HAS : Hid (Calls Tryd.prog 42 #[.slice (some ⟨b, off, none⟩) n0 c0, .int .i64 10] (wr.setCell ⟨g, 3, none⟩ (.int .i64 mc)) fun e w' => e = .returned (.bool (l.contains 10)) ∧ (wr.setCell ⟨g, 3, none⟩ (.int .i64 mc)) = w') := by
                refine has_any _ _ _ (wr.heap.size) l 10 _ ?_ (by omega)
                exact (hj.2.1.rd.1).off (only_set _) (Nat.le_refl _) (fun b off e => by
                  have h5 := hj.2.1.form.2 b (by rw [e]; rfl)
                  intro e2
                  have e3 : b = g := e2
                  omega)
              clear hy hz hj hc hsn HZ0
              unfold stp at HS
              by_cases h5 : y = 5
              · subst h5
                have HS2 : Hid (rkn mc mt l (l.take (k + 1)) c = grt mc mt l) := HS.out.trans (if_pos rfl)
                unfold grt at HS2
                obtain ⟨bb, hbb⟩ : ∃ bb, l.contains 10 = bb := ⟨_, rfl⟩
                rw [hbb] at HAS HS2
                clear HS hbb
                cases bb
                · have NX := Lib.hid (rdoJ_set HJ.out hgl HS2.out)
                  go_wp2_with (go_at_call 42; ((with_reducible refine HAS.out.mono ?_); rintro e w2 ⟨rfl, rfl⟩))
                  go_roundw
                  case rel => exact ⟨k + 1, by omega, by go_num, NX.out⟩
                  case measure => simp [intOf]; omega
                · have NX := Lib.hid (rdoJ_set2 (y := mc) HJ.out hgl HS2.out)
                  have q1 : (wr.setCell ⟨g, 3, none⟩ (.int .i64 mc)).cell? ⟨g, 1, none⟩ = some (.int .i64 mt) := (HJ.out.1.set3 mc).cell 1
                  go_wp2_with (go_at_call 42; ((with_reducible refine HAS.out.mono ?_); rintro e w2 ⟨rfl, rfl⟩))
                  go_roundw
                  case rel => exact ⟨k + 1, by omega, by go_num, NX.out⟩
                  case measure => simp [intOf]; omega
              · have t5 : (y == 5) = false := by simpa using h5
                by_cases h6 : y = 6
                · subst h6
                  have NX := Lib.hid (rdoJ_set HJ.out hgl (HS.out.trans rfl))
                  clear HS HAS
                  go_wp2
                  go_roundw
                  case rel => exact ⟨k + 1, by omega, by go_num, NX.out⟩
                  case measure => simp [intOf]; omega
                · have t6 : (y == 6) = false := by simpa using h6
                  by_cases h7 : y = 7 ∨ y = 10
                  · have HS2 : Hid (rkn mc mt l (l.take (k + 1)) c = (if z - 1 < 0 then 0 else z - 1)) := HS.out.trans (by rw [if_neg h5, if_neg h6, if_pos h7])
                    by_cases hz0 : 0 < z
                    · have NX := Lib.hid (rdoJ_set (z := z - 1) HJ.out hgl (HS2.out.trans (if_neg (by omega))))
                      clear HS h5 h6 HAS HS2
                      rcases h7 with h7 | h7
                      all_goals
                        subst h7
                        clear t5 t6
                        go_wp2
                        go_roundw
                        case rel => exact ⟨k + 1, by omega, by go_num, NX.out⟩
                        case measure => simp [intOf]; omega
                    · have NX := Lib.hid (rdoJ_same HJ.out HZ.out (HS2.out.trans (by rw [if_pos (by omega)]; omega)))
                      clear HS h5 h6 HAS HS2
                      rcases h7 with h7 | h7
                      all_goals
                        subst h7
                        clear t5 t6
                        go_wp2
                        go_roundw
                        case rel => exact ⟨k + 1, by omega, by go_num, NX.out⟩
                        case measure => simp [intOf]; omega
                  · have NX := Lib.hid (rdoJ_same HJ.out HZ.out (HS.out.trans (by rw [if_neg h5, if_neg h6, if_neg h7])))
                    have t7 : (y == 7) = false := by simp; omega
                    have t10 : (y == 10) = false := by simp; omega
                    clear HS h5 h6 h7 HAS
                    go_wp2
                    go_roundw
                    case rel => exact ⟨k + 1, by omega, by go_num, NX.out⟩
                    case measure => simp [intOf]; omega
            · obtain rfl : k = n0 := by omega
              have q2 : wr.cell? ⟨g, 2, none⟩ = some (.int .i64 s) := hj.1.cell 2
              have f2 : wr.frozen? ⟨g, 2, none⟩ = false := hj.1.frozen 2
              have HJ := Lib.hid hj
              clear hj
              go_wp2
              go_ret2
              exact ⟨_, _, rfl, by rw [← hn0.out]; exact HJ.out, rfl⟩
      refine walk.mono ?_
      rintro r w' ⟨v, w2, rfl, ⟨x1, x2, x3⟩, rfl⟩
      rw [List.take_length] at x1
      refine ⟨_, rfl, x2.grown (only_set _) ?_, x1.set2 _, grown_set x3 _ _⟩
      rcases h : v.ownBlock with _ | k
      · exact .inl rfl
      · have := x2.form.2 k h
        exact .inr (fun e => by injection e with e; have e2 : k = g := e; omega)
  · have HD : doE s c e = nxE s e := by unfold doE; rw [if_neg hx]
    obtain ⟨r1, r2, r3⟩ := do_refused (mc := mc) (mt := mt) HD hx
    rw [HD, r1, r2, r3]
    clear HD r1 r2 r3
    obtain ⟨ns, hns⟩ : ∃ ns, nxS s e = ns := ⟨_, rfl⟩
    obtain ⟨ne, hne⟩ : ∃ ne, nxE s e = ne := ⟨_, rfl⟩
    rw [hns, hne] at HN
    rw [hne] at hx ⊢
    have hx2 : (ne != 0) = true := by simpa using hx
    clear hns hne hx
    go_enter Tryd.func44, Tryd.ntmps44
    go_wp2_with (go_at_call 13; ((with_reducible refine HN.out.mono ?_); rintro e w1 ⟨v, rfl, ho, hb⟩; have BB := Lib.hid hb; clear ho hb HN))
    go_ret2
    exact ⟨_, rfl, OwnI.nil _ _, HA.out.below BB.out hgl, grown_none (grown_of_below BB.out)⟩
end Go.Proofs.YtpkmddagcfjadaaDoor
