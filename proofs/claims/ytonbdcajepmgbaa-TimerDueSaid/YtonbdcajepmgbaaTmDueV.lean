/-
  TimerDue: the law's walk.
-/
import Derived.Test.YtonbdcajepmgbaaTmDueL
namespace Go.Proofs.Ytonbdcajepmgbaa
open Go.RowKit Go.Shelf
set_option maxRecDepth 100000
set_option maxHeartbeats 4000000
set_option linter.unusedSimpArgs false
set_option linter.unusedVariables false

theorem skipI {w : World} {base : Nat} {v : Value} {l l' : List Int} (h : OwnI w base v l) (o : Obj) (e : l' = l) : OwnI (w.alloc o) base v l' := by
  rw [e]
  exact World.ownsRow.alloc h _
theorem pop_dend {w W : World} {b c d e0 P Q S : Nat} {lo hi : Int} {vp vq vs want one : Value} {xs : List T2} {md : Nat} (h : L2 w W b c d e0 P Q S hi vp vq vs want one xs (cnt hi xs)) (hle : lo ≤ hi) (hmd : (xs.drop (cnt hi xs)).length = md) :
    Calls Try.prog 25 #[.pointer (some ⟨Q, 0, none⟩), .int .i64 hi] W fun e W1 => e = .returned (.tuple #[.int .i64 0, .int .i64 5]) ∧ DEnd w W1 P S lo hi one want md := by
  refine (pop_end h).mono ?_
  rintro e W1 ⟨rfl, l⟩
  refine ⟨rfl, ?_⟩
  rw [← hmd]
  have q1 := l.p
  have q2 := l.s
  have a1 := l.ab
  have a2 := l.bc
  have a3 := l.cd
  have a4 := l.de
  have a5 := l.ge
  have b1 := q1.hi
  have b2 := q1.lo
  have b3 := q2.hi
  have b4 := q2.lo
  have ob := l.ho.form.2
  have wb := l.hw.form.2
  refine dend_any w W1 P S _ _ _ _ lo hi hle xs _ _ _ _ l.bel l.len q1.q q2.q l.ho l.hw b2 (Nat.le_refl _) (by omega) (by omega) (by omega) (by omega) ⟨fun hm => ?_, fun i e hm => ?_⟩ ⟨fun hm => ?_, fun i e hm => ?_⟩ ⟨fun hm => ?_, fun i e hm => ?_⟩
  · rcases List.mem_cons.1 hm with e | e
    · omega
    · have := (q1.own _ (mem_own.1 e)).2; omega
  · have := q2.own i e
    rcases List.mem_cons.1 hm with e | e
    · omega
    · have := (q1.own _ (mem_own.1 e)).2; omega
  · have := (ob _ (mem_own.1 hm)).1; omega
  · have := q2.own i e; have := (ob _ (mem_own.1 hm)).1; omega
  · have := (wb _ (mem_own.1 hm)).1; omega
  · have := q2.own i e; have := (wb _ (mem_own.1 hm)).1; omega
theorem timerdue_walk (A : Option Addr) (n c : Nat) (f : Nat → Int × Int × Int × Int) (now later : Int) (w : World) (h : Ops4 w w.heap.size A n f) (hn : n ≤ 8796093021952) :
    Calls Try.prog 4 #[.slice A n c, .int .i64 now, .int .i64 later] w fun e w' => e = .returned (.bool true) ∧ Below w.heap.size w w' := by
  have N := Lib.hid (fill3 A n c f w h hn)
  obtain ⟨nd, od, ln⟩ := fq_nodup f (min n 300)
  obtain ⟨xs, hxs⟩ : ∃ xs, fq f (min n 300) = xs := ⟨_, rfl⟩
  rw [hxs] at N nd od ln
  have ND := Lib.hid nd
  have OD := Lib.hid od
  have LN := Lib.hid ln
  clear h nd od ln hxs
  go_enter Try.func4, Try.ntmps4
  go_upto_region 6 with (first
    | (go_at_call 22; ((with_reducible refine N.out.mono ?_); rintro e w1 ⟨P, A1, m, k1, rfl, n2⟩; have N2 := Lib.hid n2; clear n2))
    | (go_at_call 22; ((with_reducible refine N2.out.mono ?_); rintro e w2 ⟨Q, A2, m2, k2, rfl, n3⟩; have N3 := Lib.hid n3; clear n3))
    | (go_at_call 22; ((with_reducible refine N3.out.mono ?_); rintro e w3 ⟨S, A3, m3, k3, rfl, vp, vq, vs, d0⟩; have D := Lib.hid d0; clear d0)))
  by_cases hsw : later < now
  case' pos =>
    obtain ⟨lo, hlo⟩ : ∃ lo, lo = later := ⟨_, rfl⟩
    obtain ⟨hi, hhi⟩ : ∃ hi, hi = now := ⟨_, rfl⟩
    subst hlo hhi
    have hle : lo ≤ hi := by omega
  case' neg =>
    obtain ⟨lo, hlo⟩ : ∃ lo, lo = now := ⟨_, rfl⟩
    obtain ⟨hi, hhi⟩ : ∃ hi, hi = later := ⟨_, rfl⟩
    subst hlo hhi
    have hle : lo ≤ hi := by omega
  all_goals
    have hm64 : m ≤ 64 := by have := LN.out; have := D.out.len; omega
    go_wp2
    go_loopw [14, 55] (fun u i wr => ∃ k : Nat, k ≤ m ∧ i = .int .i64 k ∧ Hid (OwnI wr w3.heap.size u (((xs.take k).filter fun x => decide (x.2 ≤ hi)).map Prod.fst) ∧ Below w3.heap.size w3 wr)) (fun _ i _ => m - (intOf i).toNat)
    case atStart => exact ⟨0, Nat.zero_le _, rfl, OwnI.nil _ _, Below.refl _ _⟩
    case round =>
      rename World => wr
      obtain ⟨k, hkm, rfl, hJ⟩ := hrel
      obtain ⟨ho, hB⟩ := hJ.out
      have hxl := D.out.len
      have zB := hB.size
      by_cases hlt : k < m
      · obtain ⟨x, hx⟩ : ∃ x, xs[k]? = some x := ⟨xs[k]'(by omega), List.getElem?_eq_getElem _⟩
        obtain ⟨gr, rfl⟩ : ∃ gr, A1 = some ⟨gr, 0, none⟩ := by
          rcases D.out.all.form with ⟨_, e⟩ | ⟨g', cap, e, _⟩
          · rw [e] at hx; simp at hx
          · injection e with e
            exact ⟨g', e⟩
        obtain ⟨c0, c1⟩ := (D.out.all.later hB).cell k x hx
        have hgr := ((D.out.all.later hB).block gr rfl).2
        by_cases hxh : x.2 ≤ hi
        · have hoa : OwnI (wr.alloc (.cells #[.int .i64 x.1, .int .i64 x.2] 43)) w3.heap.size _ _ := World.ownsRow.alloc ho _
          have hfl : (((xs.take k).filter fun x => decide (x.2 ≤ hi)).map Prod.fst).length ≤ 64 := by
            rw [List.length_map]
            exact Nat.le_trans (List.length_filter_le ..) (by rw [List.length_take]; omega)
          obtain ⟨v', w', hrun, ho', hb'⟩ := appI_run hoa x.1 (by omega) (by rw [World.size_alloc]; omega)
          rw [World.size_alloc] at hrun
          have HR := Lib.hid hrun
          have REL : Hid (OwnI w' w3.heap.size v' (((xs.take (k + 1)).filter fun x => decide (x.2 ≤ hi)).map Prod.fst) ∧ Below w3.heap.size w3 w') := by
            refine ⟨?_, (hB.alloc hB.size _).trans hb'⟩
            rw [take_one_more hx, List.filter_append, List.map_append, List.filter_cons_of_pos (by simpa using hxh)]
            exact ho'
          clear ho hB hJ hx hoa hrun ho' hb' hfl
          go_wp2_with (at_builtin; refine wpList_appT 41 41 rfl (.tmp 63) (.tmp 66) rfl _ _ rfl rfl _ _ HR.out ?_)
          go_roundw
          case rel => exact ⟨k + 1, by omega, by go_num, REL⟩
          case measure => simp [intOf]; omega
        · have REL := Lib.hid (And.intro (skipI ho (.cells #[.int .i64 x.1, .int .i64 x.2] 43) (l' := ((xs.take (k + 1)).filter fun x => decide (x.2 ≤ hi)).map Prod.fst) (by
            rw [take_one_more hx, List.filter_append, List.map_append, List.filter_cons_of_neg (by simpa using hxh), List.filter_nil, List.map_nil, List.append_nil])) (hB.alloc hB.size (.cells #[.int .i64 x.1, .int .i64 x.2] 43)))
          clear ho hB hJ hx
          go_wp2
          go_roundw
          case rel => exact ⟨k + 1, by omega, by go_num, REL⟩
          case measure => simp [intOf]; omega
      · have hkn' : k = m := by omega
        subst hkn'
        rw [List.take_of_length_le (by omega), due_filter OD.out] at ho
        have hcl := cnt_le hi xs
        obtain ⟨B, dd, hsl, _⟩ := ho.form.1
        rw [List.length_map, List.length_take, Nat.min_eq_left hcl] at hsl
        subst hsl
        have DU := Lib.hid (due1 D.out hB hi LN.out ho)
        have hdl : (xs.drop (cnt hi xs)).length = k - cnt hi xs := by rw [List.length_drop, hxl]
        clear ho hB hJ
        go_wp2_with (first
          | (go_at_call 24; ((with_reducible refine DU.out.mono ?_); rintro e W5 ⟨V, rfl, n1⟩; have N1 := Lib.hid n1; clear n1))
          | (go_at_call 23; ((with_reducible refine N1.out.mono ?_); rintro e W6 ⟨rfl, vp', n4⟩; have D1 := Lib.hid n4; clear n4)))
        have L0 : Hid (L2 w W6 w1.heap.size w2.heap.size w3.heap.size W6.heap.size P Q S hi vp' vq vs (.slice B (cnt hi xs) dd) (.slice none 0 0) xs 0) := by
          obtain ⟨r1, r2, r3, r4, r5, r6, r7⟩ := D1.out
          exact ⟨r1, r3, r4, r5, r2.q, r2.lo, r2.hi, fun i e => .inl (r2.own i e), OwnI.nil _ _, by simp [Value.ownBlock], r6, D.out.ab, D.out.bc, D.out.cd, r7, Nat.le_refl _, LN.out, ND.out⟩
        go_loopw [17, 18] (fun o i wr => ∃ (j : Nat) (vj : Value), j ≤ cnt hi xs ∧ i = .int .i64 j ∧ Hid (L2 w wr w1.heap.size w2.heap.size w3.heap.size W6.heap.size P Q S hi vp' vj vs (.slice B (cnt hi xs) dd) o xs j)) (fun _ i _ => 400 - (intOf i).toNat)
        case atStart => exact ⟨0, vq, Nat.zero_le _, rfl, L0.out⟩
        case round =>
          rename World => wq
          obtain ⟨j, vj, hjc, rfl, hL⟩ := hrel
          have hj400 : (j : Int) < 400 := by omega
          by_cases hjl : j < cnt hi xs
          · have PS := Lib.hid (pop_step hL.out hjl)
            clear hL
            go_wp2_with (first
              | (go_at_call 25; ((with_reducible refine PS.out.mono ?_); rintro e W1 ⟨id, V2, o2, W2, rfl, hV, hrun, vj2, hl2⟩; have HV := Lib.hid hV; have HR := Lib.hid hrun; have HL := Lib.hid hl2; clear hV hrun hl2))
              | (rw [HV.out])
              | (at_builtin; refine wpList_appT 41 41 rfl (.tmp 93) (.tmp 95) rfl _ _ rfl rfl _ _ HR.out ?_))
            go_roundw
            case rel => exact ⟨j + 1, vj2, by omega, by go_num, HL⟩
            case measure => simp [intOf]; omega
          · obtain rfl : j = cnt hi xs := by omega
            obtain ⟨md, hmd⟩ : ∃ md, (xs.drop (cnt hi xs)).length = md := ⟨_, rfl⟩
            have hL1 := hL.out
            have PE := Lib.hid (pop_dend hL1 hle hmd)
            have hme : ((md : Int) == (k : Int) - (cnt hi xs : Int)) = true := by
              rw [beq_iff_eq, ← hmd, hdl]
              omega
            unfold DEnd at PE
            clear hL hL1
            go_wp2_with (first
              | (go_at_call 25; ((with_reducible refine PE.out.mono ?_); rintro e W1 ⟨rfl, n1⟩; have E1 := Lib.hid n1; clear n1))
              | (go_at_call 24; ((with_reducible refine E1.out.mono ?_); rintro e W2 ⟨V1, rfl, n1⟩; have E2 := Lib.hid n1; clear n1))
              | (go_at_call 24; ((with_reducible refine E2.out.mono ?_); rintro e W3 ⟨V2, V3, X3, rfl, hrun, n1⟩; have HR := Lib.hid hrun; have E3 := Lib.hid n1; clear n1 hrun))
              | (at_builtin; refine wpList_appT 41 41 rfl (.tmp 100) (.tmp 103) rfl _ _ rfl rfl _ _ HR.out ?_)
              | (go_at_call 23; ((with_reducible refine E3.out.mono ?_); rintro e W4 ⟨rfl, n1⟩; have E4 := Lib.hid n1; clear n1))
              | (go_at_call 23; ((with_reducible refine E4.out.mono ?_); rintro e X5 ⟨rfl, n1⟩; have E5 := Lib.hid n1; clear n1))
              | (go_at_call 24; ((with_reducible refine E5.out.mono ?_); rintro e X6 ⟨A6, c6, rfl, n1⟩; have E6 := Lib.hid n1; clear n1))
              | (go_at_call 26; ((with_reducible refine E6.out.mono ?_); rintro e W7 ⟨rfl, n1⟩; have E7 := Lib.hid n1; clear n1))
              | (go_at_call 21; ((with_reducible refine E7.out.mono ?_); rintro e W8 ⟨rfl, n1⟩; have E8 := Lib.hid n1; clear n1)))
            go_ret
            exact ⟨rfl, E8.out⟩
end Go.Proofs.Ytonbdcajepmgbaa
