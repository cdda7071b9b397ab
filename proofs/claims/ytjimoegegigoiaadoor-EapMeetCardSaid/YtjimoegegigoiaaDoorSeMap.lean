/-
  A map from pairs of names to numbers.
-/
import Derived.Test.YtjimoegegigoiaaDoorProg
import Derived.Lib.Hide
import Derived.Maps.OwnSet
import Derived.DeepKeys4
import Derived.Deep.Light
import Derived.WalkKit
namespace Go.Proofs.YtjimoegegigoiaaDoor
open Go.RowKit Go.Maps
set_option maxRecDepth 100000
set_option maxHeartbeats 2000000
set_option linter.unusedSimpArgs false
set_option linter.unusedVariables false

theorem pair_laid : laidOutB Tryd.prog = true := by kernel_rfl
theorem pair_row : (158 : TypeId) < Tryd.prog.types.size := of_decide_eq_true (by kernel_rfl)
theorem pair_wide : (match Tryd.prog.underlying 158 with | some (.array _ _) | some (.struct _) => true | _ => false) = true := by kernel_rfl
theorem pair_law : Keyed Tryd.prog 158 := Keyed.of_law (deep_law_laid pair_laid (m := 2) (by omega) pair_row (by kernel_rfl) pair_wide)
/-- what a pair reads as -/
def kOf (a c : ByteArray) : Lit := .string (keyBytes [.string a.data.toList, .string c.data.toList])
theorem pair_keyType : Tryd.prog.keyType 158 = true := by kernel_rfl
theorem types_pos : ∃ m, Tryd.prog.types.size + 1 = m + 1 + 1 := by
  have h := pair_row
  refine ⟨Tryd.prog.types.size - 1, ?_⟩
  have : (158 : Nat) < Tryd.prog.types.size := h
  omega
theorem pair_cells : Tryd.prog.cellsOf 158 = 2 := by kernel_rfl
theorem str_cells : Tryd.prog.cellsOf 9 = 1 := by kernel_rfl
theorem kOf_at (a c : ByteArray) (ha : a.size ≤ maxLen) (hc : c.size ≤ maxLen) : keyOf Tryd.prog 158 (.agg #[.string a, .string c]) = some (kOf a c) := by
  have u := Tryd.underlying158
  have us := Tryd.underlying9
  obtain ⟨m, hm⟩ := types_pos
  unfold keyOf
  rw [u]
  simp only [pair_keyType, Bool.true_and]
  rw [hm]
  have hf : Value.formed Tryd.prog 158 (.agg #[.string a, .string c]) = true := by
    simp [Value.formed, u, pair_cells]
  rw [hf]
  simp only [if_true]
  unfold Program.keyLits
  rw [u]
  have hs : ∀ (x : ByteArray), x.size ≤ maxLen → Tryd.prog.keyLits (m + 1) 9 [.string x] = some [.string x.data.toList] := fun x hx => by
    unfold Program.keyLits
    rw [us]
    simp [hx]
  simp [pair_cells, str_cells, Value.cells, hs a ha, hs c hc]
  rfl

theorem zeroI (w : World) : (zeroValue 3).run Tryd.prog w = .ok (.int .i64 0) w := by kernel_rfl
theorem mapT : Tryd.prog.underlying 129 = some (.map 158 3) := Tryd.underlying129
theorem kOf_inj {a c x y : ByteArray} (ha : a.size ≤ maxLen) (hc : c.size ≤ maxLen) (hx : x.size ≤ maxLen) (hy : y.size ≤ maxLen) (e : kOf x y = kOf a c) : x = a ∧ y = c := by
  have h1 := kOf_at x y hx hy
  rw [e] at h1
  have h2 := pair_law.inj h1 (kOf_at a c ha hc)
  injection h2 with h2
  simp at h2
  exact h2
/-- block b is a map from pairs of names to places -/
def MapP (W : World) (b n : Nat) (F : ByteArray → ByteArray → Option Nat) : Prop :=
  ∃ D : DataW Unit, W.ownsMap Tryd.prog 158 (plainElem Tryd.prog 3) b n D ∧ ∀ a c : ByteArray, a.size ≤ maxLen → c.size ≤ maxLen → Maps.has D (kOf a c) = (F a c).isSome ∧ D.atKey (kOf a c) (.lit (.int .i64 0)) = .lit (.int .i64 ((F a c).getD 0 : Nat))
theorem MapP.made (W : World) : MapP (W.alloc (.map #[] 0)) W.heap.size 0 (fun _ _ => none) :=
  ⟨_, World.ownsMap_made W _ _ _, fun a c _ _ => ⟨rfl, rfl⟩⟩
theorem MapP.kept {W W' : World} {b n : Nat} {F : ByteArray → ByteArray → Option Nat} {row : Option Nat} (h : MapP W b n F) (hg : W.grownBy W' row) (hne : some b ≠ row) : MapP W' b n F := by
  obtain ⟨D, h1, h2⟩ := h
  exact ⟨D, h1.kept hg hne, h2⟩
theorem MapP.lt {W : World} {b n : Nat} {F : ByteArray → ByteArray → Option Nat} (h : MapP W b n F) : b < W.heap.size := by
  obtain ⟨D, h1, h2⟩ := h
  exact h1.lt
theorem MapP.later {W W' : World} {b n : Nat} {F : ByteArray → ByteArray → Option Nat} (h : MapP W b n F) (hB : Below W.heap.size W W') : MapP W' b n F :=
  h.kept (row := none) ⟨hB.os, hB.tape, hB.output, hB.size, fun i hi _ => hB.block i hi⟩ (by simp)
theorem MapP.mono {W : World} {b n m : Nat} {F : ByteArray → ByteArray → Option Nat} (h : MapP W b n F) (hm : n ≤ m) : MapP W b m F := by
  obtain ⟨D, h1, h2⟩ := h
  exact ⟨D, h1.mono hm, h2⟩
theorem MapP.look {W : World} {b n : Nat} {F : ByteArray → ByteArray → Option Nat} (h : MapP W b n F) (a c : ByteArray) (ha : a.size ≤ maxLen) (hc : c.size ≤ maxLen) :
    (Instr.lookup 129 (.map (some b)) (.agg #[.string a, .string c]) true).run Tryd.prog W = .ok (.tuple #[.int .i64 ((F a c).getD 0 : Nat), .bool (F a c).isSome]) W := by
  obtain ⟨D, h1, h2⟩ := h
  obtain ⟨hh, hat⟩ := h2 a c ha hc
  obtain ⟨v, ps, hrun, hv⟩ := h1.look_ok pair_law mapT (zeroI W) (plainElem_int Tryd.underlying3 (by decide)) (kOf_at a c ha hc)
  obtain ⟨z, rfl, he, _⟩ := plainElem_int_inv Tryd.underlying3 hv
  rw [hat] at he
  simp only [Prod.mk.injEq] at he
  have h3 := he.1
  injection h3 with h3
  injection h3 with _ h3
  rw [hrun, hh, ← h3]
open Classical in
theorem MapP.put {W : World} {b n : Nat} {F : ByteArray → ByteArray → Option Nat} (h : MapP W b n F) (a c : ByteArray) (i : Nat) (ha : a.size ≤ maxLen) (hc : c.size ≤ maxLen) (hi : i ≤ 9223372036854775807) (hn : n < maxLen) :
    ∃ w', (Instr.mapUpdate 129 (.map (some b)) (.agg #[.string a, .string c]) (.int .i64 (i : Int))).run Tryd.prog W = .ok () w' ∧ MapP w' b (n + 1) (fun x y => if x = a ∧ y = c then some i else F x y) ∧ W.grownBy w' (some b) := by
  obtain ⟨D, h1, h2⟩ := h
  have hwf : (Lit.int .i64 (i : Int)).wf = true := WalkArith.wf_i64 (by omega)
  obtain ⟨w', hrun, hown, hg⟩ := h1.update pair_law mapT hn (kOf_at a c ha hc) (plainElem_int Tryd.underlying3 hwf)
  refine ⟨w', hrun, ⟨_, hown, fun x y hx hy => ?_⟩, hg⟩
  by_cases e : x = a ∧ y = c
  · obtain ⟨rfl, rfl⟩ := e
    simp only [and_self, if_true]
    exact ⟨Maps.has_put_same h1.isMap (pair_law.key (kOf_at x y hx hy)) _, Maps.atKey_put_same h1.isMap (pair_law.key (kOf_at x y hx hy)) _ _⟩
  · simp only [if_neg e]
    have hne : kOf x y ≠ kOf a c := fun h => e (kOf_inj ha hc hx hy h)
    obtain ⟨q1, q2⟩ := h2 x y hx hy
    exact ⟨(Maps.has_put_other hne _).trans q1, (Maps.atKey_put_other hne _ _).trans q2⟩
end Go.Proofs.YtjimoegegigoiaaDoor
