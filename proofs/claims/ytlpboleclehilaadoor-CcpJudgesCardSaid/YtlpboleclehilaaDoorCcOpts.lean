/-
  ccp.Options; the reference's Same of frames.
-/
import Derived.Test.YtlpboleclehilaaDoorCcAsk
import Derived.Test.YtlpboleclehilaaDoorCcFrame
namespace Go.Proofs.YtlpboleclehilaaDoor
open Go.RowKit
set_option maxRecDepth 100000
set_option maxHeartbeats 4000000
set_option linter.unusedSimpArgs false
set_option linter.unusedVariables false

theorem fsame_yes (P : Int) (A D : Option Addr) (n c d B : Nat) (l : List UInt8) (w : World) (hr : Rd w B A n l) (hq : Rd w B D n l) (hB : B ≤ w.heap.size) :
    Calls Tryd.prog 25 #[.agg #[.int .i64 P, .slice A n c], .agg #[.int .i64 P, .slice D n d]] w fun e w' => e = .returned (.bool true) ∧ Below w.heap.size w w' := by
  obtain ⟨V, hV⟩ : ∃ V, (w.alloc (.cells #[.int .i64 P, .slice A n c] 53)).alloc (.cells #[.int .i64 P, .slice D n d] 53) = V := ⟨_, rfl⟩
  have bV : Below w.heap.size w V := by rw [← hV]; exact ((Below.refl _ _).alloc (Nat.le_refl _) _).alloc (by simp) _
  have m0 : Blk V w.heap.size 53 [.int .i64 P, .slice A n c] := by rw [← hV]; exact (Below.heap_alloc _ _ _ (by simp)).trans (blk_new w _ _)
  have m1 : Blk V (w.heap.size + 1) 53 [.int .i64 P, .slice D n d] := by
    rw [← hV]
    have h := blk_new (w.alloc (.cells #[.int .i64 P, .slice A n c] 53)) 53 [.int .i64 P, .slice D n d]
    rw [World.size_alloc] at h
    exact h
  have i0 := m0.cell 0
  have i1 := m0.cell 1
  have j0 := m1.cell 0
  have j1 := m1.cell 1
  have c1 := conv_run (hr.below (bV.mono hB)) c
  have c2 := conv_run (hq.below (bV.mono hB)) d
  have q : ∀ z : Int, (z == z) = true := by simp
  have qb : ∀ z : List UInt8, (z == z) = true := by simp
  have HV := Lib.hid hV
  have HB := Lib.hid bV
  generalize strOf l = s at *
  clear hr hq hV bV m0 m1
  go_enter Tryd.func25, Tryd.ntmps25
  go_wp2_with (rw [HV.out])
  go_ret
  exact ⟨rfl, HB.out⟩
/-- the options by which bits are asked -/
def optP (D B : Int) : Nat → List Opt
  | 0 => []
  | 1 => if canB 26 D = true then [(26, dat 26 D)] else []
  | _ => (if canB 26 D = true then [(26, dat 26 D)] else []) ++ (if canB 21 B = true then [(21, dat 21 B)] else [])
def optsC (D B : Int) : List Opt := optP D B 2
theorem optP_len (D B : Int) (k : Nat) : (optP D B k).length ≤ 2 := by
  unfold optP
  split
  · simp
  · split <;> simp
  · rw [List.length_append]
    split <;> split <;> simp
def TabM (W : World) : Prop := W.cell? ⟨0, 0, none⟩ = some (.int .i64 26) ∧ W.cell? ⟨0, 1, none⟩ = some (.int .i64 21)
theorem TabM.below {W V : World} (h : TabM W) (hb : Below W.heap.size W V) (hl : 0 < W.heap.size) : TabM V := ⟨(hb.cell (p := ⟨0, 0, none⟩) hl).trans h.1, (hb.cell (p := ⟨0, 1, none⟩) hl).trans h.2⟩
theorem TabM.lt {W : World} (h : TabM W) : 0 < W.heap.size := block_lt_of_cell h.1
def AskOne (base : Nat) (W V : World) (v : Value) (s : List Opt) (K b : Int) : Prop :=
  Calls Tryd.prog 29 #[.int .i64 K, .int .i64 b] V fun e V2 => ∃ g q, e = .returned (.agg #[.int .i64 K, .slice (some ⟨g, 0, none⟩) q q]) ∧ ∃ A n c V3,
    Hid ((Builtin.append_ #[28, 28] 28 #[v, .slice (some ⟨V2.heap.size, 0, none⟩) 1 1]).run Tryd.prog (V2.alloc (.cells #[.int .i64 K, .slice (some ⟨g, 0, none⟩) q q] 61)) = .ok (.slice A n c) V3) ∧
      Hid (OwnL V3 base (.slice A n c) (s ++ [(K, dat K b)]) ∧ Below base W V3)
theorem ask_one {W V : World} {v : Value} {s : List Opt} {base : Nat} (hv : OwnL V base v s) (hB : Below base W V) (hbs : base ≤ V.heap.size) (hs : s.length ≤ 1000) (K b : Int) : AskOne base W V v s K b := by
  unfold AskOne
  refine (option_any K b V).mono ?_
  rintro e V2 ⟨g, rfl, ho, hb⟩
  have s2 := hb.size
  have bA : Below V2.heap.size V2 (V2.alloc (.cells #[.int .i64 K, .slice (some ⟨g, 0, none⟩) (szK K) (szK K)] 61)) := (Below.refl _ _).alloc (Nat.le_refl _) _
  have kn := blk_new V2 61 [.int .i64 K, .slice (some ⟨g, 0, none⟩) (szK K) (szK K)]
  have b3 := hb.trans (bA.mono s2)
  have hv3 := hv.later b3
  have ho3 := (ho.later bA).base_le (show base ≤ V.heap.size from hbs)
  obtain ⟨v', w', hrun, h1, h2, h3⟩ := appL_run hv3 V2.heap.size K _ _ _ _ (kn.cell 0) (kn.cell 1) ho3 (by omega) (by have := b3.size; omega)
  obtain ⟨A, c, rfl⟩ := h1.shape
  refine ⟨g, szK K, rfl, A, _, c, w', Lib.hid hrun, Lib.hid ⟨h1, ?_⟩⟩
  exact ((hB.trans (b3.mono hbs))).grown h2 (by have := b3.size; omega) (fun q hq => (hv3.block q hq).1)
theorem meth0 (W : World) : (Instr.index 78 (.agg #[.int .i64 26, .int .i64 21]) (.int .i64 ((0 : Nat) : Int))).run Tryd.prog W = .ok (.int .i64 26) W := by kernel_rfl
theorem meth1 (W : World) : (Instr.index 78 (.agg #[.int .i64 26, .int .i64 21]) (.int .i64 ((1 : Nat) : Int))).run Tryd.prog W = .ok (.int .i64 21) W := by kernel_rfl
theorem wpList_idx {ops : Array Oper} {rest : List Oper} {o : Oper} {a : Act} {w : World} {Q : Exit → Act → World → Prop} (s x : Operand) (u i v : Value) (hrun : (Instr.index 78 u i).run Tryd.prog w = .ok v w) (h : wpList Tryd.prog ops Q rest (a.put o.dst v) w)
    (hgd : o.guard = none) (ho : o.op = .index 78 s x) (hs : a.eval s = u) (hx : a.eval x = i) : wpList Tryd.prog ops Q (o :: rest) a w := by
  refine wpList_plain hgd fun K hK => ?_
  unfold Oper.wp execOp
  simp only [ho, Sem.run_bind, Sem.run_pure, Result.andThen_ok, hs, hx, hrun]
  exact hK _ _ h
theorem options_ccp (D B : Int) (w : World) (hT : TabM w) :
    Calls Tryd.prog 20 #[.agg #[.int .i64 D, .int .i64 B]] w fun e w' => ∃ A n c, e = .returned (.slice A n c) ∧ OwnL w' w.heap.size (.slice A n c) (optsC D B) ∧ Below w.heap.size w w' := by
  obtain ⟨W1, hW1⟩ : ∃ W1, w.alloc (.cells #[.int .i64 D, .int .i64 B] 27) = W1 := ⟨_, rfl⟩
  have k1 : Blk W1 w.heap.size 27 [.int .i64 D, .int .i64 B] := by rw [← hW1]; exact blk_new w _ _
  have B1 : Below w.heap.size w W1 := by rw [← hW1]; exact (Below.refl _ _).alloc (Nat.le_refl _) _
  have s1 : W1.heap.size = w.heap.size + 1 := by rw [← hW1]; simp
  have HW := Lib.hid hW1
  have hT1 := hT.below B1 hT.lt
  have t0 := hT1.1
  have t1 := hT1.2
  have HK := Lib.hid k1
  have HB1 := Lib.hid B1
  have HI := Lib.hid (And.intro (OwnL.nil W1 W1.heap.size) (Below.refl W1.heap.size W1))
  clear hW1 k1 B1 hT hT1
  go_enter Tryd.func20, Tryd.ntmps20
  go_upto_region 1 with (fail)
  rw [HW.out]
  clear HW
  go_wp2
  go_loopw [3, 8] (fun v i wr => ∃ (V : World) (k : Nat), V = wr ∧ k ≤ 2 ∧ i = .int .i64 k ∧ Hid (OwnL V W1.heap.size v (optP D B k) ∧ Below W1.heap.size W1 V)) (fun _ i _ => 2 - (intOf i).toNat)
  case atStart => exact ⟨_, 0, rfl, by omega, rfl, HI.out⟩
  case round =>
    rename_i wr
    obtain ⟨V, k, rfl, hk, rfl, hJ⟩ := hrel
    clear HI t0 t1
    have hBV := hJ.out.2
    have hsz := hBV.size
    have kz : Blk V w.heap.size 27 [.int .i64 D, .int .i64 B] := (hBV.block _ (by omega)).trans HK.out
    have z0 := kz.cell 0
    have z1 := kz.cell 1
    have M0 := Lib.hid meth0
    have M1 := Lib.hid meth1
    rcases (show k = 0 ∨ k = 1 ∨ k = 2 by omega) with rfl | rfl | rfl
    · have FA : Hid (Calls Tryd.prog 36 #[.pointer (some ⟨w.heap.size, 0, none⟩), .int .i64 26] V fun e w' => e = .returned (.pointer (some ⟨w.heap.size, 0, none⟩)) ∧ V = w') := field_any w.heap.size 26 V
      have CA := Lib.hid (can_any 26 D V)
      by_cases hc : canB 26 D = true
      · rw [hc] at CA
        have AO := Lib.hid (ask_one hJ.out.1 hBV hsz (by have := optP_len D B 0; omega) 26 D)
        unfold AskOne at AO
        have hn : optP D B 0 ++ [(26, dat 26 D)] = optP D B 1 := by
          show [] ++ _ = if _ then _ else _
          rw [if_pos hc]
          rfl
        rw [hn] at AO
        clear hc hn kz hBV hJ
        go_wp2_with (first
          | ((with_reducible refine wpList_idx (.tmp 7) (.tmp 8) _ _ _ (M0.out _) ?_ rfl rfl ?_ ?_); rotate_left; rfl; rfl)
          | (go_at_call 36; ((with_reducible refine FA.out.mono ?_); rintro e w' ⟨rfl, rfl⟩))
          | (go_at_call 41; ((with_reducible refine CA.out.mono ?_); rintro e w' ⟨rfl, rfl⟩))
          | (go_at_call 29; ((with_reducible refine AO.out.mono ?_); rintro e V2 ⟨g, q, rfl, A, n, c, V3, HR, HN⟩))
          | (at_builtin; refine wpList_appO 28 28 rfl (.tmp 18) (.tmp 22) rfl _ _ rfl rfl _ _ HR.out ?_))
        go_roundw
        case rel => exact ⟨_, 1, rfl, by omega, rfl, HN.out⟩
        case measure => simp [intOf]
      · have hc : canB 26 D = false := by simpa using hc
        rw [hc] at CA
        have HN : Hid (OwnL V W1.heap.size u3 (optP D B 1) ∧ Below W1.heap.size W1 V) := by
          have : optP D B 1 = [] := if_neg (by rw [hc]; simp)
          rw [this]
          exact hJ.out
        clear hc kz hBV hJ
        go_wp2_with (first
          | ((with_reducible refine wpList_idx (.tmp 7) (.tmp 8) _ _ _ (M0.out _) ?_ rfl rfl ?_ ?_); rotate_left; rfl; rfl)
          | (go_at_call 36; ((with_reducible refine FA.out.mono ?_); rintro e w' ⟨rfl, rfl⟩))
          | (go_at_call 41; ((with_reducible refine CA.out.mono ?_); rintro e w' ⟨rfl, rfl⟩)))
        go_roundw
        case rel => exact ⟨_, 1, rfl, by omega, rfl, HN.out⟩
        case measure => simp [intOf]
    · have FA : Hid (Calls Tryd.prog 36 #[.pointer (some ⟨w.heap.size, 0, none⟩), .int .i64 21] V fun e w' => e = .returned (.pointer (some ⟨w.heap.size, 1, none⟩)) ∧ V = w') := field_any w.heap.size 21 V
      have CA := Lib.hid (can_any 21 B V)
      by_cases hc : canB 21 B = true
      · rw [hc] at CA
        have AO := Lib.hid (ask_one hJ.out.1 hBV hsz (by have := optP_len D B 1; omega) 21 B)
        unfold AskOne at AO
        have hn : optP D B 1 ++ [(21, dat 21 B)] = optP D B 2 := by
          show optP D B 1 ++ _ = (if _ then _ else _) ++ (if _ then _ else _)
          rw [if_pos hc]
          rfl
        rw [hn] at AO
        clear hc hn kz hBV hJ
        go_wp2_with (first
          | ((with_reducible refine wpList_idx (.tmp 7) (.tmp 8) _ _ _ (M1.out _) ?_ rfl rfl ?_ ?_); rotate_left; rfl; rfl)
          | (go_at_call 36; ((with_reducible refine FA.out.mono ?_); rintro e w' ⟨rfl, rfl⟩))
          | (go_at_call 41; ((with_reducible refine CA.out.mono ?_); rintro e w' ⟨rfl, rfl⟩))
          | (go_at_call 29; ((with_reducible refine AO.out.mono ?_); rintro e V2 ⟨g, q, rfl, A, n, c, V3, HR, HN⟩))
          | (at_builtin; refine wpList_appO 28 28 rfl (.tmp 18) (.tmp 22) rfl _ _ rfl rfl _ _ HR.out ?_))
        go_roundw
        case rel => exact ⟨_, 2, rfl, by omega, rfl, HN.out⟩
        case measure => simp [intOf]
      · have hc : canB 21 B = false := by simpa using hc
        rw [hc] at CA
        have HN : Hid (OwnL V W1.heap.size u3 (optP D B 2) ∧ Below W1.heap.size W1 V) := by
          have : optP D B 2 = optP D B 1 := by
            show (if _ then _ else _) ++ (if _ then _ else _) = if _ then _ else _
            rw [hc]
            simp
          rw [this]
          exact hJ.out
        clear hc kz hBV hJ
        go_wp2_with (first
          | ((with_reducible refine wpList_idx (.tmp 7) (.tmp 8) _ _ _ (M1.out _) ?_ rfl rfl ?_ ?_); rotate_left; rfl; rfl)
          | (go_at_call 36; ((with_reducible refine FA.out.mono ?_); rintro e w' ⟨rfl, rfl⟩))
          | (go_at_call 41; ((with_reducible refine CA.out.mono ?_); rintro e w' ⟨rfl, rfl⟩)))
        go_roundw
        case rel => exact ⟨_, 2, rfl, by omega, rfl, HN.out⟩
        case measure => simp [intOf]
    · obtain ⟨A, c, hv⟩ := hJ.out.1.shape
      subst hv
      obtain ⟨n, hn⟩ : ∃ n, (optP D B 2).length = n := ⟨_, rfl⟩
      rw [hn] at hJ ⊢
      have HN := hJ
      clear hn kz hJ hBV
      go_wp2
      go_ret
      exact ⟨A, n, c, rfl, HN.out.1.base_le (by omega), HB1.out.trans (HN.out.2.mono (by omega))⟩
end Go.Proofs.YtlpboleclehilaaDoor
