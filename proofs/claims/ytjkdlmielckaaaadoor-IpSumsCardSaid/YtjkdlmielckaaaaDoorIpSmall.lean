/-
  strconv: the numbers of the chapter's example as digits.
-/
import Derived.Test.YtjkdlmielckaaaaDoorIpParse
import Derived.Lib.AppendStr
namespace Go.Proofs.YtjkdlmielckaaaaDoor
open Go.RowKit
set_option maxRecDepth 100000
set_option maxHeartbeats 4000000
set_option linter.unusedSimpArgs false
set_option linter.unusedVariables false

/-- one's digits -/
abbrev SmallA (z : Int) (s : List UInt8) : Prop := ∀ w, Calls Tryd.prog 59 #[.int .i64 z] w fun e w' => e = .returned (.string ⟨s.toArray⟩) ∧ w = w'
theorem small_0 : SmallA 0 [48] := by
  intro w
  go_enter Tryd.func59, Tryd.ntmps59
  go_wp2
  go_ret
  exact ⟨rfl, rfl⟩
theorem small_1 : SmallA 1 [49] := by
  intro w
  go_enter Tryd.func59, Tryd.ntmps59
  go_wp2
  go_ret
  exact ⟨rfl, rfl⟩
theorem small_2 : SmallA 2 [50] := by
  intro w
  go_enter Tryd.func59, Tryd.ntmps59
  go_wp2
  go_ret
  exact ⟨rfl, rfl⟩
theorem small_5 : SmallA 5 [53] := by
  intro w
  go_enter Tryd.func59, Tryd.ntmps59
  go_wp2
  go_ret
  exact ⟨rfl, rfl⟩
theorem small_7 : SmallA 7 [55] := by
  intro w
  go_enter Tryd.func59, Tryd.ntmps59
  go_wp2
  go_ret
  exact ⟨rfl, rfl⟩
theorem small_10 : SmallA 10 [49, 48] := by
  intro w
  go_enter Tryd.func59, Tryd.ntmps59
  go_wp2
  go_ret
  exact ⟨rfl, rfl⟩
theorem itoa_5 (w : World) : Calls Tryd.prog 47 #[.int .i64 5] w fun e w' => e = .returned (.string ⟨#[53]⟩) ∧ w = w' := by
  go_enter Tryd.func47, Tryd.ntmps47
  go_wp2_with (first | (go_at_call 59; ((with_reducible refine (small_5 _).mono ?_); rintro e w' ⟨rfl, rfl⟩)) | go_in)
  go_ret
  exact ⟨rfl, rfl⟩
theorem itoa_7 (w : World) : Calls Tryd.prog 47 #[.int .i64 7] w fun e w' => e = .returned (.string ⟨#[55]⟩) ∧ w = w' := by
  go_enter Tryd.func47, Tryd.ntmps47
  go_wp2_with (first | (go_at_call 59; ((with_reducible refine (small_7 _).mono ?_); rintro e w' ⟨rfl, rfl⟩)) | go_in)
  go_ret
  exact ⟨rfl, rfl⟩
/-- append of a string -/
theorem append_str {w : World} {base : Nat} {v : Value} {l : List UInt8} (ho : Own w base v l) (s : ByteArray) (hbytes : l.length + s.size ≤ 140737488355328) (hbase : base ≤ w.heap.size) :
    ∃ v' w2, (Builtin.append_ #[22, 9] 22 #[v, .string s]).run Tryd.prog w = .ok v' w2 ∧ Own w2 base v' (l ++ s.data.toList) ∧ w.grownBy w2 v.ownBlock := by
  obtain ⟨i, hi, hz, h1, h2⟩ := info_parts byte_info
  obtain ⟨v', w', hr, h3, h4, _⟩ := Lib.run_append_own_string (P := Tryd.prog) w base 22 9 22 5 i Tryd.underlying22 Tryd.underlying9 hi hz h1 h2 v l.length _ ho s (by unfold maxLen; omega) hbytes hbase
  refine ⟨v', w', hr, ?_, h4⟩
  unfold Own
  rw [List.length_append, List.map_append, show s.data.toList.length = s.size from Array.length_toList]
  exact h3
theorem wpList_appS {w : World} {ops : Array Oper} {rest : List Oper} {o : Oper} {a : Act} {Q : Exit → Act → World → Prop} (hgd : o.guard = none) (s x : Operand)
    (ho : o.op = .call { callee := .builtin .append, args := #[s, x], argTypes := #[22, 9] }) (v u : Value) (hs : a.eval s = v) (hx : a.eval x = u)
    (v' : Value) (w2 : World) (hrun : (Builtin.append_ #[22, 9] o.type #[v, u]).run Tryd.prog w = .ok v' w2)
    (h : wpList Tryd.prog ops Q rest (a.put o.dst v') w2) : wpList Tryd.prog ops Q (o :: rest) a w := by
  refine wpList_plain hgd fun K hK => ?_
  unfold Oper.wp execOp
  simp only [ho, resolve, invoke, builtin, Sem.run_bind, Sem.run_pure, Result.andThen_ok, List.map_toArray, List.map_cons, List.map_nil, hs, hx, hrun]
  exact hK _ _ h
/-- a small number's digits behind bytes -/
abbrev AppA (z : Int) (s : List UInt8) : Prop := ∀ (W : World) (base : Nat) (v : Value) (l : List UInt8), Own W base v l → base ≤ W.heap.size → l.length ≤ 100 → Calls Tryd.prog 51 #[v, .int .i64 z, .int .i64 10] W fun e w' => ∃ v', e = .returned v' ∧ Hid (Own w' base v' (l ++ s)) ∧ Hid (Below base W w')
theorem app_0 : AppA 0 [48] := by
  intro W base v l ho hb hl
  obtain ⟨v', w2, r1, o1, g1⟩ := append_str ho ⟨#[48]⟩ (by simp [ByteArray.size]; omega) hb
  have R1 := Lib.hid r1
  have O1 := Lib.hid o1
  have HB : Hid (Below base W w2) := (Below.refl _ _).grown g1 hb (fun j hj => (ho.block j hj).1)
  obtain ⟨A, c, rfl, _⟩ := own_later ho (Below.refl _ _)
  clear r1 o1 g1 ho
  go_enter Tryd.func51, Tryd.ntmps51
  go_wp2_with (first
    | (go_at_call 59; ((with_reducible refine (small_0 _).mono ?_); rintro e w' ⟨rfl, rfl⟩))
    | (at_builtin; refine wpList_appS rfl (.tmp 13) (.tmp 16) rfl _ _ rfl rfl _ _ R1.out ?_)
    | go_in)
  go_ret
  exact ⟨_, rfl, O1, HB⟩
theorem app_1 : AppA 1 [49] := by
  intro W base v l ho hb hl
  obtain ⟨v', w2, r1, o1, g1⟩ := append_str ho ⟨#[49]⟩ (by simp [ByteArray.size]; omega) hb
  have R1 := Lib.hid r1
  have O1 := Lib.hid o1
  have HB : Hid (Below base W w2) := (Below.refl _ _).grown g1 hb (fun j hj => (ho.block j hj).1)
  obtain ⟨A, c, rfl, _⟩ := own_later ho (Below.refl _ _)
  clear r1 o1 g1 ho
  go_enter Tryd.func51, Tryd.ntmps51
  go_wp2_with (first
    | (go_at_call 59; ((with_reducible refine (small_1 _).mono ?_); rintro e w' ⟨rfl, rfl⟩))
    | (at_builtin; refine wpList_appS rfl (.tmp 13) (.tmp 16) rfl _ _ rfl rfl _ _ R1.out ?_)
    | go_in)
  go_ret
  exact ⟨_, rfl, O1, HB⟩
theorem app_2 : AppA 2 [50] := by
  intro W base v l ho hb hl
  obtain ⟨v', w2, r1, o1, g1⟩ := append_str ho ⟨#[50]⟩ (by simp [ByteArray.size]; omega) hb
  have R1 := Lib.hid r1
  have O1 := Lib.hid o1
  have HB : Hid (Below base W w2) := (Below.refl _ _).grown g1 hb (fun j hj => (ho.block j hj).1)
  obtain ⟨A, c, rfl, _⟩ := own_later ho (Below.refl _ _)
  clear r1 o1 g1 ho
  go_enter Tryd.func51, Tryd.ntmps51
  go_wp2_with (first
    | (go_at_call 59; ((with_reducible refine (small_2 _).mono ?_); rintro e w' ⟨rfl, rfl⟩))
    | (at_builtin; refine wpList_appS rfl (.tmp 13) (.tmp 16) rfl _ _ rfl rfl _ _ R1.out ?_)
    | go_in)
  go_ret
  exact ⟨_, rfl, O1, HB⟩
theorem app_10 : AppA 10 [49, 48] := by
  intro W base v l ho hb hl
  obtain ⟨v', w2, r1, o1, g1⟩ := append_str ho ⟨#[49, 48]⟩ (by simp [ByteArray.size]; omega) hb
  have R1 := Lib.hid r1
  have O1 := Lib.hid o1
  have HB : Hid (Below base W w2) := (Below.refl _ _).grown g1 hb (fun j hj => (ho.block j hj).1)
  obtain ⟨A, c, rfl, _⟩ := own_later ho (Below.refl _ _)
  clear r1 o1 g1 ho
  go_enter Tryd.func51, Tryd.ntmps51
  go_wp2_with (first
    | (go_at_call 59; ((with_reducible refine (small_10 _).mono ?_); rintro e w' ⟨rfl, rfl⟩))
    | (at_builtin; refine wpList_appS rfl (.tmp 13) (.tmp 16) rfl _ _ rfl rfl _ _ R1.out ?_)
    | go_in)
  go_ret
  exact ⟨_, rfl, O1, HB⟩
end Go.Proofs.YtjkdlmielckaaaaDoor
