/-
  The reference's New; the law's model of a call.
-/
import Derived.Test.YtdjifjlkpimiaaaPoRef2
import Derived.Test.YtdjifjlkpimiaaaPoWit

namespace Go.Proofs.Ytdjifjlkpimiaaa
open Go.RowKit
set_option maxRecDepth 100000
set_option maxHeartbeats 4000000
set_option linter.unusedSimpArgs false
set_option linter.unusedVariables false

theorem fold_put : ∀ (cs pre mid post : List Value) (k : Nat), mid.length = cs.length → pre.length = k →
    (cs.zipIdx k).foldl (fun (acc : Array Value) (x : Value × Nat) => acc.setIfInBounds x.2 x.1) (pre ++ mid ++ post).toArray = (pre ++ cs ++ post).toArray
  | [], pre, mid, post, k, h, hk => by
    obtain rfl : mid = [] := List.eq_nil_of_length_eq_zero h
    rfl
  | c :: cs, pre, [], post, k, h, hk => by simp at h
  | c :: cs, pre, m :: ms, post, k, h, hk => by
    rw [List.zipIdx_cons, List.foldl_cons]
    have e : (pre ++ (m :: ms) ++ post).toArray.setIfInBounds k c = ((pre ++ [c]) ++ ms ++ post).toArray := by
      subst hk
      simp
    have h2 := fold_put cs (pre ++ [c]) ms post (k + 1) (by simpa using h) (by simp [hk])
    show List.foldl _ ((pre ++ (m :: ms) ++ post).toArray.setIfInBounds k c) _ = _
    rw [e, h2]
    simp
def rpZ : List Value := [.int .i64 0, .bool false, .int .i64 0, .string ⟨#[]⟩, .int .i64 0, .int .i64 0, .int .i64 0, .int .i64 0]
def places61 : Array (Nat × Nat) := #[(0, 33), (33, 1), (34, 1), (35, 1), (36, 1), (37, 1), (38, 1), (39, 1), (40, 1)]
theorem built61 (parts : List (Nat × Value)) : Try.prog.built 61 parts = Instr.fill (places61[·]?) (confW.toList ++ rpZ).toArray parts := by kernel_rfl
theorem fill_step (place : Nat → Option (Nat × Nat)) (cells : Array Value) (i : Nat) (v : Value) (rest : List (Nat × Value)) (off size : Nat) (hp : place i = some (off, size)) (h1 : v.cells.size = size) (h2 : off + size ≤ cells.size) :
    Instr.fill place cells ((i, v) :: rest) = Instr.fill place (v.cells.zipIdx.foldl (fun (cs : Array Value) (x : Value × Nat) => cs.setIfInBounds (off + x.2) x.1) cells) rest := by
  conv => lhs; unfold Instr.fill
  rw [hp]
  simp only
  rw [if_neg (by rw [h1]; simp; omega)]
theorem built_ref (cs : List Value) (hc : cs.length = 33) : Try.prog.built 61 [(0, .agg cs.toArray)] = some (cs ++ rpZ).toArray := by
  rw [built61, fill_step _ _ 0 (.agg cs.toArray) _ 0 33 rfl (by show cs.toArray.size = 33; simp [hc]) (by simp [rpZ, confW])]
  have h := fold_put cs [] confW.toList rpZ 0 (by rw [hc]; rfl) rfl
  simp only [List.nil_append] at h
  show Instr.fill _ (cs.toArray.zipIdx.foldl _ _) _ = _
  have e : cs.toArray.zipIdx.foldl (fun (cs : Array Value) (x : Value × Nat) => cs.setIfInBounds (0 + x.2) x.1) (confW.toList ++ rpZ).toArray = (cs ++ rpZ).toArray := by
    rw [← h]
    simp
  rw [e]
  rfl
theorem wpList_build {P : Program} {w : World} {ops : Array Oper} {rest : List Oper} {o : Oper} {a : Act} {Q : Exit → Act → World → Prop} (hgd : o.guard = none) (t : TypeId) (parts : Array (Nat × Operand)) (ho : o.op = .build t parts) (cells : Array Value)
    (hb : P.built t (parts.map fun (i, x) => (i, a.eval x)).toList = some cells) (h : wpList P ops Q rest (a.put o.dst (.agg cells)) w) : wpList P ops Q (o :: rest) a w := by
  refine wpList_plain hgd fun K hK => ?_
  unfold Oper.wp execOp
  simp only [ho, Sem.run_bind, run_build w t _ cells hb, Result.andThen_ok]
  exact hK _ _ h
theorem span_any (z : Int) (w : World) : Calls Try.prog 22 #[.int .i64 z] w fun e w' => e = .returned (.bool (spnB z)) ∧ w = w' := by
  unfold spnB
  by_cases a : 0 ≤ z
  · by_cases b : z ≤ 2147483648
    · rw [decide_eq_true ⟨a, b⟩]
      go_enter Try.func22, Try.ntmps22
      go_wp2
      go_ret
      exact ⟨rfl, rfl⟩
    · rw [decide_eq_false (fun h => b h.2)]
      go_enter Try.func22, Try.ntmps22
      go_wp2
      go_ret
      exact ⟨rfl, rfl⟩
  · rw [decide_eq_false (fun h => a h.1)]
    go_enter Try.func22, Try.ntmps22
    go_wp2
    go_ret
    exact ⟨rfl, rfl⟩
def RNewR (w : World) (cs : List Value) (il se ho mf : Int) (pe dm : Bool) (e : Ending) (w' : World) : Prop := Below w.heap.size w w' ∧
  (okN il se ho mf = false → e = .returned (.tuple #[.pointer none, .int .i64 1])) ∧
  (okN il se ho mf = true → ∃ g, e = .returned (.tuple #[.pointer (some ⟨g, 0, none⟩), .int .i64 0]) ∧ w.heap.size ≤ g ∧ RpB w' g cs (poNew il se ho mf pe dm))
theorem rnew_any (cs : List Value) (il se ho mf : Int) (pe dm : Bool) (w : World) (hc : ConfP cs.toArray il se ho mf pe dm) : Calls Try.prog 9 #[.agg cs.toArray] w (RNewR w cs il se ho mf pe dm) := by
  obtain ⟨W1, hW1⟩ : ∃ W1, w.alloc (.cells cs.toArray 25) = W1 := ⟨_, rfl⟩
  have k1 : Blk W1 w.heap.size 25 cs.toArray.toList := by rw [← hW1]; exact blk_new w _ _
  have B1 : Below w.heap.size w W1 := by rw [← hW1]; exact (Below.refl _ _).alloc (Nat.le_refl _) _
  obtain ⟨c25, c26, c27, c28, c29, c30⟩ := conf_cells k1 hc
  obtain ⟨z, hz⟩ : ∃ z, w.heap.size = z := ⟨_, rfl⟩
  have IC : Hid ((Try.prog.info? 25).map (·.size) = some cs.toArray.size) := by show _ = _; rw [hc.1]; exact infoC
  have HR1 := Lib.hid (conf_row k1)
  have hlen : cs.length = 33 := by have := hc.1; simpa using this
  have HBT := Lib.hid (built_ref cs hlen)
  rw [hz] at c25 c26 c27 c28 c29 c30 HR1
  have HW := Lib.hid hW1
  have HB := Lib.hid B1
  have HC := Lib.hid hc
  have PN : Hid (∀ e, okN il se ho mf = false → e = Ending.returned (.tuple #[.pointer none, .int .i64 1]) → RNewR w cs il se ho mf pe dm e W1) := fun e h he => ⟨B1, fun _ => he, (fun h2 => by rw [h] at h2; cases h2)⟩
  have PY : Hid (okN il se ho mf = true → RNewR w cs il se ho mf pe dm (.returned (.tuple #[.pointer (some ⟨W1.heap.size, 0, none⟩), .int .i64 0])) (W1.alloc (.cells (cs ++ rpZ).toArray 61))) := fun h => ⟨B1.alloc B1.size _, (fun h2 => by rw [h] at h2; cases h2), fun _ => ⟨_, rfl, B1.size, blk_new _ _ _, hc⟩⟩
  have hN1 := Lib.hid (span_any ho W1)
  have hN2 := Lib.hid (span_any il W1)
  have hN3 := Lib.hid (span_any se W1)
  unfold okN at PN PY
  clear k1 B1 hW1 hc hlen
  obtain ⟨s1, h1⟩ : ∃ s, spnB ho = s := ⟨_, rfl⟩
  obtain ⟨s2, h2⟩ : ∃ s, spnB il = s := ⟨_, rfl⟩
  obtain ⟨s3, h3⟩ : ∃ s, spnB se = s := ⟨_, rfl⟩
  rw [h1, h2, h3] at PN PY
  rw [h1] at hN1
  rw [h2] at hN2
  rw [h3] at hN3
  clear h1 h2 h3
  cases s1 with
  | false =>
    have P := Lib.hid (PN.out _ (Bool.false_and _) rfl)
    clear PN PY
    go_enter Try.func9, Try.ntmps9
    go_upto_region 1 with (fail)
    rw [HW.out]
    clear HW hz
    go_wp2_with (first | (go_at_call 22; ((with_reducible refine hN1.out.mono ?_); rintro e w' ⟨rfl, rfl⟩)) | (go_at_call 22; ((with_reducible refine hN2.out.mono ?_); rintro e w' ⟨rfl, rfl⟩)) | (go_at_call 22; ((with_reducible refine hN3.out.mono ?_); rintro e w' ⟨rfl, rfl⟩)))
    go_ret2
    exact P.out
  | true =>
    cases s2 with
    | false =>
      have P := Lib.hid (PN.out _ (by simp) rfl)
      clear PN PY
      go_enter Try.func9, Try.ntmps9
      go_upto_region 1 with (fail)
      rw [HW.out]
      clear HW hz
      go_wp2_with (first | (go_at_call 22; ((with_reducible refine hN1.out.mono ?_); rintro e w' ⟨rfl, rfl⟩)) | (go_at_call 22; ((with_reducible refine hN2.out.mono ?_); rintro e w' ⟨rfl, rfl⟩)) | (go_at_call 22; ((with_reducible refine hN3.out.mono ?_); rintro e w' ⟨rfl, rfl⟩)))
      go_ret2
      exact P.out
    | true =>
      cases s3 with
      | false =>
        have P := Lib.hid (PN.out _ (by simp) rfl)
        clear PN PY
        go_enter Try.func9, Try.ntmps9
        go_upto_region 1 with (fail)
        rw [HW.out]
        clear HW hz
        go_wp2_with (first | (go_at_call 22; ((with_reducible refine hN1.out.mono ?_); rintro e w' ⟨rfl, rfl⟩)) | (go_at_call 22; ((with_reducible refine hN2.out.mono ?_); rintro e w' ⟨rfl, rfl⟩)) | (go_at_call 22; ((with_reducible refine hN3.out.mono ?_); rintro e w' ⟨rfl, rfl⟩)))
        go_ret2
        exact P.out
      | true =>
        by_cases m1 : mf < 0
        · have t1 : decide (mf < 0) = true := decide_eq_true m1
          have P := Lib.hid (PN.out _ (by simp; omega) rfl)
          clear PN PY
          go_enter Try.func9, Try.ntmps9
          go_upto_region 1 with (fail)
          rw [HW.out]
          clear HW hz
          go_wp2_with (first | (go_at_call 22; ((with_reducible refine hN1.out.mono ?_); rintro e w' ⟨rfl, rfl⟩)) | (go_at_call 22; ((with_reducible refine hN2.out.mono ?_); rintro e w' ⟨rfl, rfl⟩)) | (go_at_call 22; ((with_reducible refine hN3.out.mono ?_); rintro e w' ⟨rfl, rfl⟩)))
          go_ret2
          exact P.out
        · have t1 : decide (mf < 0) = false := decide_eq_false m1
          by_cases m2 : 65535 < mf
          · have t2 : decide (65535 < mf) = true := decide_eq_true m2
            have P := Lib.hid (PN.out _ (by simp; omega) rfl)
            clear PN PY
            go_enter Try.func9, Try.ntmps9
            go_upto_region 1 with (fail)
            rw [HW.out]
            clear HW hz
            go_wp2_with (first | (go_at_call 22; ((with_reducible refine hN1.out.mono ?_); rintro e w' ⟨rfl, rfl⟩)) | (go_at_call 22; ((with_reducible refine hN2.out.mono ?_); rintro e w' ⟨rfl, rfl⟩)) | (go_at_call 22; ((with_reducible refine hN3.out.mono ?_); rintro e w' ⟨rfl, rfl⟩)))
            go_ret2
            exact P.out
          · have t2 : decide (65535 < mf) = false := decide_eq_false m2
            have P := Lib.hid (PY.out (by simp; omega))
            clear PN PY
            go_enter Try.func9, Try.ntmps9
            go_upto_region 1 with (fail)
            rw [HW.out]
            clear HW hz
            go_wp2_with (first | ((with_reducible refine step_conf (.tmp 1) z cs.toArray HR1.out IC.out ?_ rfl rfl ?_); rotate_left; rfl) | (exact HBT.out) | (refine wpList_build (o := ⟨some 31, .build _ _, _, _, _, _⟩) rfl 61 _ rfl (cs ++ rpZ).toArray ?_ ?_) | (first | (go_at_call 22; ((with_reducible refine hN1.out.mono ?_); rintro e w' ⟨rfl, rfl⟩)) | (go_at_call 22; ((with_reducible refine hN2.out.mono ?_); rintro e w' ⟨rfl, rfl⟩)) | (go_at_call 22; ((with_reducible refine hN3.out.mono ?_); rintro e w' ⟨rfl, rfl⟩))))
            go_ret2
            exact P.out
end Go.Proofs.Ytdjifjlkpimiaaa
