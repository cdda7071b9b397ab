/-
  hdlc.New: a line between frames.
-/
import Derived.Test.YtmdlpbgelgeiaaaDoorHdEnd
namespace Go.Proofs.YtmdlpbgelgeiaaaDoor
open Go.RowKit
set_option maxRecDepth 100000
set_option maxHeartbeats 2000000
set_option linter.unusedSimpArgs false
set_option linter.unusedVariables false

def st0 : LSt := ⟨[], false, false, 0, 0, 0, 0, 0, 0⟩
theorem fold_put : ∀ (cs pre mid post : List Value) (k : Nat), mid.length = cs.length → pre.length = k →
    (cs.zipIdx k).foldl (fun (acc : Array Value) (x : Value × Nat) => acc.setIfInBounds x.2 x.1) (pre ++ mid ++ post).toArray = (pre ++ cs ++ post).toArray
  | [], pre, mid, post, k, h, hk => by
    obtain rfl : mid = [] := List.eq_nil_of_length_eq_zero h
    rfl
  | c :: cs, pre, [], post, k, h, hk => by simp at h
  | c :: cs, pre, m :: ms, post, k, h, hk => by
    rw [List.zipIdx_cons, List.foldl_cons]
    have e : (pre ++ (m :: ms) ++ post).toArray.setIfInBounds k c = ((pre ++ [c]) ++ ms ++ post).toArray := by
      subst hk
      simp
    have h2 := fold_put cs (pre ++ [c]) ms post (k + 1) (by simpa using h) (by simp [hk])
    show List.foldl _ ((pre ++ (m :: ms) ++ post).toArray.setIfInBounds k c) _ = _
    rw [e, h2]
    simp
def places82 : Array (Nat × Nat) := #[(0, 256), (256, 1), (257, 1), (258, 1), (259, 1), (260, 1), (261, 1), (262, 6)]
theorem built82 (parts : List (Nat × Value)) : Tryd.prog.built 82 parts = Instr.fill (places82[·]?) (kdK 0 0 ++ lnT 0 false false (.slice none 0 0) st0).toArray parts := by kernel_rfl
theorem fill_step (place : Nat → Option (Nat × Nat)) (cells : Array Value) (i : Nat) (v : Value) (rest : List (Nat × Value)) (off size : Nat) (hp : place i = some (off, size)) (h1 : v.cells.size = size) (h2 : off + size ≤ cells.size) :
    Instr.fill place cells ((i, v) :: rest) = Instr.fill place (v.cells.zipIdx.foldl (fun (cs : Array Value) (x : Value × Nat) => cs.setIfInBounds (off + x.2) x.1) cells) rest := by
  conv => lhs; unfold Instr.fill
  rw [hp]
  simp only
  rw [if_neg (by rw [h1]; simp; omega)]
theorem fill_one (place : Nat → Option (Nat × Nat)) (a : Int) (M M' : Nat) (p q p' q' : Bool) (i : Nat) (v : Value) (rest : List (Nat × Value)) (j : Nat) (hp : place i = some (256 + j, 1)) (hj : j < 12) (h1 : v.cells = #[v]) (e : (lnT M p q (.slice none 0 0) st0).set j v = lnT M' p' q' (.slice none 0 0) st0) :
    Instr.fill place (lnC a M p q (.slice none 0 0) st0).toArray ((i, v) :: rest) = Instr.fill place (lnC a M' p' q' (.slice none 0 0) st0).toArray rest := by
  rw [fill_step place _ i v rest (256 + j) 1 hp (by rw [h1]; rfl) (by simp [lnC, lnT, kdL_length]; omega), h1]
  congr 1
  have h := lnC_set a M p q (.slice none 0 0) st0 j v
  rw [e] at h
  show (lnC a M p q (.slice none 0 0) st0).toArray.setIfInBounds (256 + j + 0) v = _
  rw [Nat.add_zero, List.setIfInBounds_toArray, h]
  rfl
theorem built_line (a : Int) (M : Nat) (p q : Bool) : Tryd.prog.built 82 [(0, .agg (kdL a).toArray), (1, .int .i64 M), (2, .bool p), (3, .bool q)] = some (lnC a M p q (.slice none 0 0) st0).toArray := by
  rw [built82]
  have h0 : ∀ (base : List Value), base.length = 256 → (kdL a).toArray.zipIdx.foldl (fun (cs : Array Value) (x : Value × Nat) => cs.setIfInBounds (0 + x.2) x.1) (base ++ lnT 0 false false (.slice none 0 0) st0).toArray = (kdL a ++ lnT 0 false false (.slice none 0 0) st0).toArray := by
    intro base hb
    have h := fold_put (kdL a) [] base (lnT 0 false false (.slice none 0 0) st0) 0 (by rw [hb, kdL_length]) rfl
    simp only [List.nil_append] at h
    rw [← h]
    simp
  rw [fill_step _ _ 0 (.agg (kdL a).toArray) _ 0 256 rfl (by show (kdL a).toArray.size = 256; simp [kdL_length]) (by simp [lnT, kdK_length])]
  show Instr.fill _ ((kdL a).toArray.zipIdx.foldl _ _) _ = _
  rw [h0 (kdK 0 0) (kdK_length 0 0)]
  show Instr.fill _ (lnC a 0 false false (.slice none 0 0) st0).toArray _ = _
  rw [fill_one _ a 0 M false false false false 1 (.int .i64 M) _ 0 rfl (by decide) rfl rfl]
  rw [fill_one _ a M M false false p false 2 (.bool p) _ 1 rfl (by decide) rfl rfl]
  rw [fill_one _ a M M p false p q 3 (.bool q) _ 2 rfl (by decide) rfl rfl]
  rfl

theorem wpList_build {P : Program} {w : World} {ops : Array Oper} {rest : List Oper} {o : Oper} {a : Act} {Q : Exit → Act → World → Prop} (hgd : o.guard = none) (t : TypeId) (parts : Array (Nat × Operand)) (ho : o.op = .build t parts) (cells : Array Value)
    (hb : P.built t (parts.map fun (i, x) => (i, a.eval x)).toList = some cells) (h : wpList P ops Q rest (a.put o.dst (.agg cells)) w) : wpList P ops Q (o :: rest) a w := by
  refine wpList_plain hgd fun K hK => ?_
  unfold Oper.wp execOp
  simp only [ho, Sem.run_bind, run_build w t _ cells hb, Result.andThen_ok]
  exact hK _ _ h
def newB (mru accm : Int) : Bool := decide (64 ≤ mru ∧ mru ≤ 16384) && mapB accm
theorem new_no (mru accm : Int) (p q : Bool) (w : World) (hb : newB mru accm = false) :
    Calls Tryd.prog 25 #[.int .i64 mru, .int .i64 accm, .bool p, .bool q] w fun e w' => e = .returned (.pointer none) ∧ w = w' := by
  have MC := Lib.hid (mapRight_any accm w)
  by_cases h1 : mru < 64
  · have d1 : decide (mru < 64) = true := by simpa using h1
    clear hb
    go_enter Tryd.func25, Tryd.ntmps25
    go_wp2
    go_ret
    exact ⟨rfl, rfl⟩
  · have d1 : decide (mru < 64) = false := by simpa using h1
    by_cases h2 : 16384 < mru
    · have d2 : decide (16384 < mru) = true := by simpa using h2
      clear hb
      go_enter Tryd.func25, Tryd.ntmps25
      go_wp2
      go_ret
      exact ⟨rfl, rfl⟩
    · have d2 : decide (16384 < mru) = false := by simpa using h2
      have hm : mapB accm = false := by
        unfold newB at hb
        rcases hx : mapB accm with _ | _
        · rfl
        · rw [hx] at hb; simp at hb; omega
      rw [hm] at MC
      clear hb hm
      go_enter Tryd.func25, Tryd.ntmps25
      go_wp2_with (go_at_call 38; refine MC.out.mono ?_; rintro e w' ⟨rfl, rfl⟩)
      go_ret
      exact ⟨rfl, rfl⟩
theorem new_yes (mru accm : Int) (p q : Bool) (w : World) (hb : newB mru accm = true) :
    Calls Tryd.prog 25 #[.int .i64 mru, .int .i64 accm, .bool p, .bool q] w fun e w' => ∃ b M : Nat, e = .returned (.pointer (some ⟨b, 0, none⟩)) ∧ w.heap.size ≤ b ∧ (M : Int) = mru + 6 ∧ M ≤ 16390 ∧ LnAt w' b accm M p q (.slice none 0 0) st0 ∧ Below w.heap.size w w' := by
  unfold newB at hb
  rw [Bool.and_eq_true] at hb
  obtain ⟨hmr, hm⟩ := hb
  have hmr : 64 ≤ mru ∧ mru ≤ 16384 := by simpa using hmr
  obtain ⟨m0, m1⟩ := hmr
  have MC := Lib.hid (mapRight_any accm w)
  rw [hm] at MC
  have hab : 0 ≤ accm ∧ accm < 4294967296 := by unfold mapB at hm; simp at hm; omega
  have KC := Lib.hid (kindsOf_any accm hab.1 hab.2 w)
  obtain ⟨M, hM⟩ : ∃ M : Nat, (M : Int) = mru + 6 := ⟨(mru + 6).toNat, by omega⟩
  have hM2 : M ≤ 16390 := by omega
  have hbuilt := built_line accm M p q
  obtain ⟨vs, hvs⟩ : ∃ vs, vs = kdL accm := ⟨_, rfl⟩
  obtain ⟨cs, hcs⟩ : ∃ cs, cs = lnC accm M p q (.slice none 0 0) st0 := ⟨_, rfl⟩
  rw [← hvs] at KC hbuilt
  rw [← hcs, hM] at hbuilt
  have HBT := Lib.hid hbuilt
  have d1 : decide (mru < 64) = false := by simp; omega
  have d2 : decide (16384 < mru) = false := by simp; omega
  have HM := Lib.hid hM
  have HCS := Lib.hid hcs
  have hlen : cs.length = 268 := by rw [hcs]; simp [lnC, lnT, kdL_length]
  clear hm hab hbuilt hvs hcs hM
  go_enter Tryd.func25, Tryd.ntmps25
  go_wp2_with (first
    | (go_at_call 38; refine MC.out.mono ?_; rintro e w' ⟨rfl, rfl⟩)
    | (go_at_call 45; refine KC.out.mono ?_; rintro e w2 ⟨rfl, hb2⟩; have HB2 := Lib.hid hb2; clear hb2)
    | (exact HBT.out)
    | (refine wpList_build (o := ⟨some 26, .build _ _, _, _, _, _⟩) rfl 82 _ rfl cs.toArray ?_ ?_))
  go_ret
  refine ⟨_, M, rfl, HB2.out.size, HM.out, hM2, ?_, HB2.out.alloc HB2.out.size _⟩
  have hk := blk_new w2 82 cs
  rw [HCS.out] at hk ⊢
  exact ⟨hk, Own.nil _ _, by simp [st0]⟩
end Go.Proofs.YtmdlpbgelgeiaaaDoor
