/-
  The reference's proto and Bytes.
-/
import Derived.Test.YtlpboleclehilaaDoorCcBytes
import Derived.Test.YtlpboleclehilaaDoorOne
namespace Go.Proofs.YtlpboleclehilaaDoor
open Go.RowKit
set_option maxRecDepth 100000
set_option maxHeartbeats 2000000
set_option linter.unusedSimpArgs false
set_option linter.unusedVariables false

theorem rproto_any (n : Int) (w : World) : Calls Tryd.prog 43 #[.int .i64 n] w fun e w' => e = .returned (.bool (prB n)) ∧ w = w' := by
  by_cases h0 : 0 < n
  · have h0' : 1 ≤ n := h0
    by_cases h1 : n ≤ 65535
    · have e1 : n.tmod 2 = n % 2 := Int.tmod_eq_emod_of_nonneg (by omega)
      have e2 : n.tdiv 256 = n / 256 := Int.tdiv_eq_ediv_of_nonneg (by omega)
      have e3 : (n / 256).tmod 2 = n / 256 % 2 := Int.tmod_eq_emod_of_nonneg (by omega)
      by_cases h2 : n % 2 = 1
      · have HV : Hid (prB n = (n / 256 % 2 == 0)) := by
          show _ = _
          unfold prB
          rw [decide_eq_true h0, decide_eq_true h1, h2]
          rfl
        have f2 : (n % 2 == 1) = true := by simpa using h2
        clear h2
        go_enter Tryd.func43, Tryd.ntmps43
        go_wp2
        go_ret
        exact ⟨by rw [HV.out]; rfl, rfl⟩
      · have f2 : (n % 2 == 1) = false := by simpa using h2
        have HV : Hid (prB n = false) := by
          show _ = _
          unfold prB
          rw [f2]
          simp
        clear h2
        go_enter Tryd.func43, Tryd.ntmps43
        go_wp2
        go_ret
        exact ⟨by rw [HV.out]; rfl, rfl⟩
    · have HV : Hid (prB n = false) := by show _ = _; unfold prB; rw [decide_eq_false h1]; simp
      go_enter Tryd.func43, Tryd.ntmps43
      go_wp2
      go_ret
      exact ⟨by rw [HV.out]; rfl, rfl⟩
  · have h0' : ¬ 1 ≤ n := h0
    have HV : Hid (prB n = false) := by show _ = _; unfold prB; rw [decide_eq_false h0]; simp
    go_enter Tryd.func43, Tryd.ntmps43
    go_wp2
    go_ret
    exact ⟨by rw [HV.out]; rfl, rfl⟩
theorem app_one {w V : World} {v : Value} {h : List UInt8} (ho : Own V w.heap.size v h) (hb : Below w.heap.size w V) (x : UInt8) (hh : h.length ≤ 100) :
    ∃ v' w', (Builtin.append_ #[51, 51] 51 #[v, .slice (some ⟨V.heap.size, 0, none⟩) 1 1]).run Tryd.prog (V.alloc (.cells #[.int .u8 (x.toNat : Int)] 5)) = .ok v' w' ∧ Own w' w.heap.size v' (h ++ [x]) ∧ Below w.heap.size w w' ∧ (∀ i t cs, t ≠ 5 → Blk V i t cs → Blk w' i t cs) := by
  have s := hb.size
  obtain ⟨v', w', r, o, g, b⟩ := append_run (ho.alloc (.cells #[.int .u8 (x.toNat : Int)] 5)) 1 (rd_one V x _ rfl) (by simp) (by omega) (by simp; omega)
  refine ⟨v', w', r, o, (hb.alloc s _).grown g (by simp; omega) (fun k hk => (ho.block k hk).1), fun i t cs ht hi => ?_⟩
  have hi1 : Blk (V.alloc (.cells #[.int .u8 (x.toNat : Int)] 5)) i t cs := ((Below.refl V.heap.size V).alloc (Nat.le_refl _) _ |>.block i (Blk.lt hi)).trans hi
  refine (g.block i (Blk.lt hi1) (fun e => ?_)).trans hi1
  rcases ho.2 with ⟨rfl, _⟩ | ⟨q, cap, cur, rfl, _, hq, _⟩
  · simp [Value.ownBlock] at e
  · simp only [Value.ownBlock, Option.some.injEq] at e
    subst e
    unfold Blk at hi
    rw [hi] at hq
    injection hq with hq
    injection hq with e1 e2 e3
    exact ht e2
theorem app_more {w V : World} {v : Value} {h : List UInt8} (ho : Own V w.heap.size v h) (hb : Below w.heap.size w V) {D : Option Addr} {m c B : Nat} {l : List UInt8} (hr : Rd w B D m l) (hB : B ≤ w.heap.size) (hD : D = none → c = 0) (hm : h.length + m ≤ 140737488355328) :
    ∃ A n cc w', (Builtin.append_ #[51, 51] 51 #[v, .slice D m c]).run Tryd.prog V = .ok (.slice A n cc) w' ∧ Own w' w.heap.size (.slice A n cc) (h ++ l) ∧ Below w.heap.size w w' := by
  have s := hb.size
  obtain ⟨v', w', r, o, g, b⟩ := append_run ho c (hr.below (hb.mono hB)) hD hm s
  obtain ⟨A, cc, rfl, -⟩ := own_rdv1 o
  exact ⟨A, _, cc, w', r, o, hb.grown g s (fun k hk => (ho.block k hk).1)⟩
/-- what is told of a frame's bytes -/
theorem rbytes_any (p : Int) (D : Option Addr) (m c B : Nat) (l : List UInt8) (w : World) (hr : Rd w B D m l) (hB : B ≤ w.heap.size) (hD : D = none → c = 0) (hmc : m ≤ c) (hm : m ≤ 140737488351232) :
    Calls Tryd.prog 22 #[.agg #[.int .i64 p, .slice D m c]] w fun e w' => BtR w p l e w' := by
  obtain ⟨W1, hW1⟩ : ∃ W1, w.alloc (.cells #[.int .i64 p, .slice D m c] 53) = W1 := ⟨_, rfl⟩
  have k1 : Blk W1 w.heap.size 53 [.int .i64 p, .slice D m c] := by rw [← hW1]; exact blk_new w _ _
  have B1 : Below w.heap.size w W1 := by rw [← hW1]; exact (Below.refl _ _).alloc (Nat.le_refl _) _
  have s1 : W1.heap.size = w.heap.size + 1 := by rw [← hW1]; simp
  have HW := Lib.hid hW1
  have c0 := k1.cell 0
  have c1 := k1.cell 1
  have PR := Lib.hid (rproto_any p W1)
  have hl := hr.1
  have hzl := Blk.lt k1
  by_cases hp : prB p = true
  · rw [hp] at PR
    have hp2 := hp
    unfold prB at hp2
    simp only [Bool.and_eq_true, decide_eq_true_eq, beq_iff_eq] at hp2
    obtain ⟨⟨⟨p0, p1⟩, p2⟩, p3⟩ := hp2
    by_cases hn : 16384 < m
    · have HE : Hid (btE p l.length = 4 ∧ btL p l = []) := by
        have : btE p l.length = 4 := by unfold btE; rw [hp, if_neg (by simp), if_pos (by omega)]
        exact ⟨this, by unfold btL; rw [this]; rfl⟩
      have hn' : (16384 : Int) < (m : Int) := by omega
      have HB := Lib.hid B1
      clear hW1 k1 B1 hr hp p0 p1 p2 p3 hn hl
      go_enter Tryd.func22, Tryd.ntmps22
      go_wp2_with (first
        | (rw [HW.out])
        | (go_at_call 43; ((with_reducible refine PR.out.mono ?_); rintro e w' ⟨rfl, rfl⟩)))
      go_ret2
      refine ⟨none, 0, 0, ?_, ?_, fun _ => rfl, Nat.le_refl _, HB.out⟩
      · rw [HE.out.1]; rfl
      · rw [HE.out.2]; exact Rd.nil
    · have h1 : ¬ (16384 : Int) < (m : Int) := by omega
      have HE : Hid (btE p l.length = 0 ∧ btL p l = numL p ++ l) := by
        have : btE p l.length = 0 := by unfold btE; rw [hp, if_neg (by simp), if_neg (by omega)]
        exact ⟨this, by unfold btL; rw [this]; rfl⟩
      have e1 : p.tmod 256 = p % 256 := Int.tmod_eq_emod_of_nonneg (by omega)
      have e2 : p.tdiv 256 = p / 256 := Int.tdiv_eq_ediv_of_nonneg (by omega)
      by_cases hs : p < 256
      · have hn1 : numL p = [byN p] := if_pos hs
        obtain ⟨v1, w1, r1, o1, b1, f1⟩ := app_one (Own.nil W1 w.heap.size) B1 (byN p) (by simp)
        rw [byN_nat, show (((p % 256).toNat : Nat) : Int) = p % 256 by omega, s1] at r1
        obtain ⟨A, n, cc, w2, r2, o2, b2⟩ := app_more o1 b1 hr hB hD (by simp; omega)
        rw [hn1] at HE
        have q1 : w1.cell? ⟨w.heap.size, 1, none⟩ = some (.slice D m c) := (f1 _ _ _ (by decide) k1).cell 1
        have R1 := Lib.hid r1
        have R2 := Lib.hid r2
        have HY := Lib.hid (And.intro o2 b2)
        have s1' := s1
        clear hr hW1 k1 B1 hp hn hl r1 r2 o1 b1 o2 b2 hn1 f1
        go_enter Tryd.func22, Tryd.ntmps22
        go_wp2_with (first
          | (rw [HW.out])
          | (go_at_call 43; ((with_reducible refine PR.out.mono ?_); rintro e w' ⟨rfl, rfl⟩))
          | (at_builtin; refine wpList_app rfl (.tmp 23) (.tmp 28) rfl _ _ rfl rfl _ _ R1.out ?_)
          | (at_builtin; refine wpList_app rfl (.tmp 30) (.tmp 32) rfl _ _ rfl rfl _ _ R2.out ?_))
        go_ret2
        obtain ⟨A', c', he, hrd, -⟩ := own_rdv1 HY.out.1
        injection he with he1 he2 he3
        subst he1 he2 he3
        refine ⟨A, _, cc, ?_, ?_, HY.out.1.len.2.1, HY.out.1.len.2.2, HY.out.2⟩
        · rw [HE.out.1]; rfl
        · rw [HE.out.2]; exact hrd
      · have hn1 : numL p = [byN (p / 256), byN p] := if_neg hs
        obtain ⟨v0, w0, r0, o0, b0, f0⟩ := app_one (Own.nil W1 w.heap.size) B1 (byN (p / 256)) (by simp)
        rw [byN_nat, show (((p / 256 % 256).toNat : Nat) : Int) = p / 256 by omega, s1] at r0
        obtain ⟨v1, w1, r1, o1, b1, f1⟩ := app_one o0 b0 (byN p) (by simp)
        rw [byN_nat, show (((p % 256).toNat : Nat) : Int) = p % 256 by omega] at r1
        obtain ⟨A, n, cc, w2, r2, o2, b2⟩ := app_more o1 b1 hr hB hD (by simp; omega)
        rw [hn1] at HE
        have q0 : w0.cell? ⟨w.heap.size, 0, none⟩ = some (.int .i64 p) := (f0 _ _ _ (by decide) k1).cell 0
        have q1 : w1.cell? ⟨w.heap.size, 1, none⟩ = some (.slice D m c) := (f1 _ _ _ (by decide) (f0 _ _ _ (by decide) k1)).cell 1
        have ql : w.heap.size < w0.heap.size := Blk.lt (f0 _ _ _ (by decide) k1)
        have R0 := Lib.hid r0
        have R1 := Lib.hid r1
        have R2 := Lib.hid r2
        have HY := Lib.hid (And.intro o2 b2)
        clear hr hW1 k1 B1 hp hn hl r0 r1 r2 o0 b0 o1 b1 o2 b2 hn1 f0 f1
        go_enter Tryd.func22, Tryd.ntmps22
        go_wp2_with (first
          | (rw [HW.out])
          | (go_at_call 43; ((with_reducible refine PR.out.mono ?_); rintro e w' ⟨rfl, rfl⟩))
          | (at_builtin; refine wpList_app rfl (.tmp 16) (.tmp 21) rfl _ _ rfl rfl _ _ R0.out ?_)
          | (at_builtin; refine wpList_app rfl (.tmp 23) (.tmp 28) rfl _ _ rfl rfl _ _ R1.out ?_)
          | (at_builtin; refine wpList_app rfl (.tmp 30) (.tmp 32) rfl _ _ rfl rfl _ _ R2.out ?_))
        go_ret2
        obtain ⟨A', c', he, hrd, -⟩ := own_rdv1 HY.out.1
        injection he with he1 he2 he3
        subst he1 he2 he3
        refine ⟨A, _, cc, ?_, ?_, HY.out.1.len.2.1, HY.out.1.len.2.2, HY.out.2⟩
        · rw [HE.out.1]; rfl
        · rw [HE.out.2]; exact hrd
  · have hp : prB p = false := by simpa using hp
    rw [hp] at PR
    have HE : Hid (btE p l.length = 30 ∧ btL p l = []) := by
      have : btE p l.length = 30 := by unfold btE; rw [hp, if_pos rfl]
      exact ⟨this, by unfold btL; rw [this]; rfl⟩
    have HB := Lib.hid B1
    clear hW1 k1 B1 hr hp hl
    go_enter Tryd.func22, Tryd.ntmps22
    go_wp2_with (first
      | (rw [HW.out])
      | (go_at_call 43; ((with_reducible refine PR.out.mono ?_); rintro e w' ⟨rfl, rfl⟩)))
    go_ret2
    refine ⟨none, 0, 0, ?_, ?_, fun _ => rfl, Nat.le_refl _, HB.out⟩
    · rw [HE.out.1]; rfl
    · rw [HE.out.2]; exact Rd.nil
end Go.Proofs.YtlpboleclehilaaDoor
