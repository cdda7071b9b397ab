/-
  Ipv6cpJudges: the walk of the law.
-/
import Derived.Test.YtciijnhagdfpiaaI6Judges
import Derived.Test.YtciijnhagdfpiaaI6Known
namespace Go.Proofs.Ytciijnhagdfpiaa
open Go.RowKit
set_option maxRecDepth 100000
set_option maxHeartbeats 4000000
set_option linter.unusedSimpArgs false
set_option linter.unusedVariables false

theorem step_row6 {ops : Array Oper} {rest : List Oper} {o : Oper} {a : Act} {w : World} {Q : Exit → Act → World → Prop} (x : Operand) (g : Nat) (cv : Array Value) (hg : RowAt w g cv) (hi : (Try.prog.info? 26).map (·.size) = some cv.size)
    (h : wpList Try.prog ops Q rest (a.put o.dst (.agg cv)) w) (hgd : o.guard = none) (ho : o.op = .load 26 x) (hx : a.eval x = .pointer (some ⟨g, 0, none⟩)) : wpList Try.prog ops Q (o :: rest) a w :=
  step_conf6 x g cv hg hi h hgd ho hx
theorem jd_kind {mf mine naks draw : Int} {s L : List Opt} {k : Int} (h : (k, L) = jd6 mf mine s naks draw) : k = 2 ∨ k = 3 ∨ k = 4 := by
  unfold jd6 at h
  split at h
  · injection h with hk _; exact .inr (.inr hk)
  · split at h
    · injection h with hk _; exact .inr (.inl hk)
    · split at h
      · injection h with hk _; exact .inr (.inr hk)
      · injection h with hk _; exact .inl hk
theorem ipv6cpjudges_walk (cv : Array Value) (id mf mine : Int) (A : Option Addr) (n c : Nat) (s : List Opt) (naks draw : Int) (w : World) (hc : ConfI cv id mf) (hr : OptRd w w.heap.size A n s) (hd : In64 draw) :
    Calls Try.prog 4 #[.agg cv, .int .u64 mine, .slice A n c, .int .i64 naks, .int .u64 draw] w fun e w' => e = .returned (.bool true) ∧ Below w.heap.size w w' := by
  obtain ⟨W1, hW1⟩ : ∃ W1, w.alloc (.cells cv 26) = W1 := ⟨_, rfl⟩
  have k1 : Blk W1 w.heap.size 26 cv.toList := by rw [← hW1]; exact blk_new w _ _
  have B1 : Below w.heap.size w W1 := by rw [← hW1]; exact (Below.refl _ _).alloc (Nat.le_refl _) _
  have hrow : RowAt W1 w.heap.size cv := conf_row6 k1
  have HW := Lib.hid hW1
  have HB1 := Lib.hid B1
  have KN := Lib.hid (fun V => known17_any V)
  by_cases hn : 300 < n
  · have KV := Lib.hid (KN.out W1)
    clear hW1 k1 B1 hrow hr hc hd
    go_enter Try.func4, Try.ntmps4
    go_upto_region 1 with (fail)
    rw [HW.out]
    clear HW
    go_wp2_with (go_at_call 16; (with_reducible refine KV.out.mono ?_); rintro e w4 ⟨rfl, b4⟩; have HB4 := Lib.hid b4; clear b4)
    go_ret
    exact ⟨rfl, HB1.out.trans (HB4.out.mono HB1.out.size)⟩
  · obtain ⟨k, L, hj⟩ : ∃ k L, (k, L) = jd6 mf mine s naks draw := ⟨_, _, rfl⟩
    have CH := jg_calls hc hd hr (by omega) B1 hrow hj (c := c)
    unfold JgC at CH
    have CH := Lib.hid CH
    have HJ := Lib.hid hj
    have HR0 := Lib.hid hrow
    have IC : Hid ((Try.prog.info? 26).map (·.size) = some cv.size) := by show _ = _; rw [hc.1]; exact info6
    have hkk := jd_kind hj
    have hl := hr.1
    by_cases h2 : k = 2 ∧ 0 < n
    · obtain ⟨rfl, hn0⟩ := h2
      obtain ⟨x, hx, x0, x1⟩ := jd_read hj (fun e => by rw [e] at hl; simp at hl; omega)
      have hv : rd6V s = .tuple #[.int .u64 x, .bool true, .int .i64 0] := by unfold rd6V; rw [hx]
      rw [hv] at CH
      have f0 : (x == 0) = false := by simpa using x0
      have f1 : (x == mine) = false := by simpa using x1
      clear hW1 k1 B1 hrow hr hc hd hj hkk hl hx x0 x1 hv
      go_enter Try.func4, Try.ntmps4
      go_upto_region 1 with (fail)
      rw [HW.out]
      clear HW
      go_wp2_with (first
        | (go_at_call 12; (with_reducible refine CH.out.mono ?_); rintro e V1 ⟨F, f, rfl, R1, C1⟩)
        | ((with_reducible refine step_row6 (.tmp 5) w.heap.size cv R1.out IC.out ?_ rfl rfl ?_); rotate_left; rfl)
        | (go_at_call 17; (with_reducible refine C1.out.mono ?_); rintro e V2 ⟨X, m, x', rfl, R2, C2⟩)
        | ((with_reducible refine step_row6 (.tmp 5) w.heap.size cv R2.out IC.out ?_ rfl rfl ?_); rotate_left; rfl)
        | (go_at_call 18; (with_reducible refine C2.out.mono ?_); rintro e V3 ⟨Y, y, rfl, C3⟩)
        | (go_at_call 8; (with_reducible refine C3.out.mono ?_); rintro e V4 ⟨rfl, C4⟩)
        | (go_at_call 19; (with_reducible refine C4.out.mono ?_); rintro e V5 ⟨rfl, C5, -⟩)
        | (go_at_call 13; (with_reducible refine C5.out.mono ?_); rintro e V6 ⟨rfl, C6⟩)
        | (go_at_call 11; (with_reducible refine C6.out.mono ?_); rintro e V7 ⟨rfl, C7⟩)
        | (go_at_call 8; (with_reducible refine C7.out.mono ?_); rintro e V8 ⟨rfl, C8⟩)
        | (go_at_call 16; (with_reducible refine (KN.out _).mono ?_); rintro e V9 ⟨rfl, b9⟩; have B9 := Lib.hid b9; clear b9))
      go_ret
      exact ⟨rfl, C8.out.trans (B9.out.mono C8.out.size)⟩
    · have g2 : (k == 2) = true → ¬ 0 < n := fun e h => h2 ⟨by simpa using e, h⟩
      by_cases hk2 : k = 2
      · have hn0 : n = 0 := by
          rcases Nat.eq_zero_or_pos n with h | h
          · exact h
          · exact absurd ⟨hk2, h⟩ h2
        subst hk2 hn0
        clear hW1 k1 B1 hrow hr hc hd hj hkk hl h2 g2
        go_enter Try.func4, Try.ntmps4
        go_upto_region 1 with (fail)
        rw [HW.out]
        clear HW
        go_wp2_with (first
          | (go_at_call 12; (with_reducible refine CH.out.mono ?_); rintro e V1 ⟨F, f, rfl, R1, C1⟩)
          | ((with_reducible refine step_row6 (.tmp 5) w.heap.size cv R1.out IC.out ?_ rfl rfl ?_); rotate_left; rfl)
          | (go_at_call 17; (with_reducible refine C1.out.mono ?_); rintro e V2 ⟨X, m, x', rfl, R2, C2⟩)
          | ((with_reducible refine step_row6 (.tmp 5) w.heap.size cv R2.out IC.out ?_ rfl rfl ?_); rotate_left; rfl)
          | (go_at_call 18; (with_reducible refine C2.out.mono ?_); rintro e V3 ⟨Y, y, rfl, C3⟩)
          | (go_at_call 8; (with_reducible refine C3.out.mono ?_); rintro e V4 ⟨rfl, C4⟩)
          | (go_at_call 19; (with_reducible refine C4.out.mono ?_); rintro e V5 ⟨rfl, -, C6⟩)
          | (go_at_call 11; (with_reducible refine C6.out.mono ?_); rintro e V7 ⟨rfl, C7⟩)
          | (go_at_call 8; (with_reducible refine C7.out.mono ?_); rintro e V8 ⟨rfl, C8⟩)
          | (go_at_call 16; (with_reducible refine (KN.out _).mono ?_); rintro e V9 ⟨rfl, b9⟩; have B9 := Lib.hid b9; clear b9))
        go_ret
        exact ⟨rfl, C8.out.trans (B9.out.mono C8.out.size)⟩
      · have e2 : (k == 2) = false := by simpa using hk2
        have hk34 : k = 3 ∨ k = 4 := by omega
        clear hW1 k1 B1 hrow hr hc hd hj hkk hl h2 g2 hk2 e2
        rcases hk34 with rfl | rfl
        all_goals
          go_enter Try.func4, Try.ntmps4
          go_upto_region 1 with (fail)
          rw [HW.out]
          clear HW
          go_wp2_with (first
            | (go_at_call 12; (with_reducible refine CH.out.mono ?_); rintro e V1 ⟨F, f, rfl, R1, C1⟩)
            | ((with_reducible refine step_row6 (.tmp 5) w.heap.size cv R1.out IC.out ?_ rfl rfl ?_); rotate_left; rfl)
            | (go_at_call 17; (with_reducible refine C1.out.mono ?_); rintro e V2 ⟨X, m, x', rfl, R2, C2⟩)
            | ((with_reducible refine step_row6 (.tmp 5) w.heap.size cv R2.out IC.out ?_ rfl rfl ?_); rotate_left; rfl)
            | (go_at_call 18; (with_reducible refine C2.out.mono ?_); rintro e V3 ⟨Y, y, rfl, C3⟩)
            | (go_at_call 8; (with_reducible refine C3.out.mono ?_); rintro e V4 ⟨rfl, C4⟩)
            | (go_at_call 19; (with_reducible refine C4.out.mono ?_); rintro e V5 ⟨rfl, -, C6⟩)
            | (go_at_call 11; (with_reducible refine C6.out.mono ?_); rintro e V7 ⟨rfl, C7⟩)
            | (go_at_call 8; (with_reducible refine C7.out.mono ?_); rintro e V8 ⟨rfl, C8⟩)
            | (go_at_call 16; (with_reducible refine (KN.out _).mono ?_); rintro e V9 ⟨rfl, b9⟩; have B9 := Lib.hid b9; clear b9))
          go_ret
          exact ⟨rfl, C8.out.trans (B9.out.mono C8.out.size)⟩
end Go.Proofs.Ytciijnhagdfpiaa
