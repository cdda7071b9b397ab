/-
  (tetherref01.Hex alone.)   octet.Hex and tetherref01.Hex: bytes as digits. They make memory of their own alone.
-/
import Derived.Test.YtmdlpbgelgeiaaaDoorBase
import Derived.Test.YtmdlpbgelgeiaaaDoorHexMath
import Derived.Lib.Hide
import Derived.Lib.BufferRead
import Derived.LoopTactic
import Derived.Laws.BitsAllLaws
import Derived.Deep.RegionHeld3
import Derived.Deep.RegionHeldLaw
import Derived.Deep.RegionLaw
import Derived.Deep.Light
namespace Go.Proofs.YtmdlpbgelgeiaaaDoor
open Go.RowKit
set_option maxRecDepth 100000
set_option maxHeartbeats 1000000
set_option linter.unusedSimpArgs false
set_option linter.unusedVariables false

/-- an append whose run is known, at a step of a region that draws its order -/
theorem step_app2 {w : World} {ops : Array Oper} {o : Oper} {a : Act} {K : Act → World → Prop} {Q : Exit → Act → World → Prop} {E : Prop} (hgd : o.guard = none) (s x : Operand)
    (ho : o.op = .call { callee := .builtin .append, args := #[s, x], argTypes := #[22, 22] }) (v u : Value) (hs : a.eval s = v) (hx : a.eval x = u)
    (v' : Value) (w2 : World) (hrun : (Builtin.append_ #[22, 22] o.type #[v, u]).run Tryd.prog w = .ok v' w2)
    (h : K (a.put o.dst v') w2) : if Region.wanted o (yielded ops a.tmps) = true then Oper.wp Tryd.prog o a w K Q else E := by
  have hw : Region.wanted o (yielded ops a.tmps) = true := by simp [Region.wanted, hgd]
  rw [if_pos hw]
  unfold Oper.wp execOp
  simp only [ho, resolve, invoke, builtin, Sem.run_bind, Sem.run_pure, Result.andThen_ok, List.map_toArray, List.map_cons, List.map_nil, hs, hx, hrun]
  exact h
theorem rd_two (w : World) (c d : UInt8) (x y : Int) (hx : x = (c.toNat : Int)) (hy : y = (d.toNat : Int)) :
    Rd (w.alloc (.cells #[.int .u8 x, .int .u8 y] 5)) (w.heap.size + 1) (some ⟨w.heap.size, 0, none⟩) 2 [c, d] := by
  subst hx hy
  refine ⟨rfl, fun _ => ⟨w.heap.size, 0, rfl, by omega, fun j hj => ?_⟩⟩
  have h := (blk_new w 5 [.int .u8 (c.toNat : Int), .int .u8 (d.toNat : Int)]).cell j
  rw [Nat.zero_add]
  rcases (show j = 0 ∨ j = 1 by omega) with rfl | rfl <;> exact h

/-- an empty slice with room -/
theorem mk0_run (n : Nat) (x : Int) (hx : x = (n : Int)) (hn : n ≤ 281474976710656) (w : World) :
    (Instr.makeSlice 22 (.int .i64 0) (.int .i64 x)).run Tryd.prog w = .ok (.slice (some ⟨w.heap.size, 0, none⟩) 0 n) (w.alloc (.cells (zeros n).toArray 5)) := by
  subst hx
  obtain ⟨i, hi, hz, h1, h2⟩ := info_parts byte_info
  have h := run_make (P := Tryd.prog) w 22 5 i (.int .u8 0) Tryd.underlying22 hi hz .i64 .i64 0 n (Int.le_refl _) (Int.natCast_nonneg _) (by rw [h2]; omega) (by omega)
  simp only [Int.toNat_natCast, h1, Nat.mul_one] at h
  rw [h]
  have e : madeCells (Value.int .u8 0).cells n = (zeros n).toArray := by
    apply Array.toList_inj.1
    exact toList_madeCells_one _ _
  rw [e]
  rfl
theorem own_room (w : World) (base n : Nat) (hb : base ≤ w.heap.size) (hn : n ≤ 281474976710656) : Own (w.alloc (.cells (zeros n).toArray 5)) base (.slice (some ⟨w.heap.size, 0, none⟩) 0 n) [] :=
  ⟨by simp, .inr ⟨w.heap.size, n, _, rfl, hb, blk_new w _ _, Nat.zero_le _, by unfold maxLen; omega, by simp [zeros], by simp⟩⟩
/-- string(v) -/
theorem own_string {w : World} {base : Nat} {v : Value} {l : List UInt8} (h : Own w base v l) : (convert 22 9 v).run Tryd.prog w = .ok (.string ⟨l.toArray⟩) w := by
  rcases h.form with ⟨rfl, rfl⟩ | ⟨g, cap, rfl, _, _, _⟩
  · exact Lib.run_convert_nil_bytes w 22 9 5 0 Tryd.underlying22 Tryd.underlying5 Tryd.underlying9
  · refine run_convert_bytes_back w 22 9 5 ⟨g, 0, none⟩ cap l Tryd.underlying22 Tryd.underlying5 Tryd.underlying9 (fun j hj => ?_)
    have e : (⟨g, 0, none⟩ : Addr).add j = ⟨g, j, none⟩ := by
      unfold Addr.add
      split
      · subst_vars
        rfl
      · simp
    rw [e, h.cell rfl j hj, byteAt_eq l j hj]

/-- two more digits -/
theorem hex_grow {w : World} {base n : Nat} {v : Value} {l : List UInt8} (k : Nat) (hk : k < n) (hl : l.length = n) (hn : n ≤ 1048576) (W : World) (hW : Below w.heap.size w W) (hb : base = w.heap.size) (ho : Own W base v (hexS (l.take k))) (x y : Int)
    (hx : x = ((dig ((l.getD k 0).toNat / 16)).toNat : Int)) (hy : y = ((dig ((l.getD k 0).toNat % 16)).toNat : Int)) :
    ∃ v2 w2, (Builtin.append_ #[22, 22] 22 #[v, .slice (some ⟨W.heap.size, 0, none⟩) 2 2]).run Tryd.prog (W.alloc (.cells #[.int .u8 x, .int .u8 y] 5)) = .ok v2 w2 ∧ Own w2 base v2 (hexS (l.take (k + 1))) ∧ Below w.heap.size w w2 := by
  subst hb
  have hsz := hW.size
  have hlen : (hexS (l.take k)).length ≤ 2097152 := by
    rw [hexS_length, List.length_take]
    omega
  obtain ⟨v2, w2, r2, o2, g2, b2⟩ := append_run (ho.alloc (.cells #[.int .u8 x, .int .u8 y] 5)) 2 (rd_two W _ _ x y hx hy) (by simp) (by omega) (by simp; omega)
  rw [← hexS_next l k (by omega)] at o2
  exact ⟨v2, w2, r2, o2, (hW.alloc hsz _).grown g2 (by simp; omega) (fun j hj => (ho.block j hj).1)⟩

theorem shr4 (c : UInt8) : ((c.toNat : Int) / 16) = ((c.toNat / 16 : Nat) : Int) := by omega
theorem and15 (c : UInt8) : bits .and .u8 (c.toNat : Int) 15 = ((c.toNat % 16 : Nat) : Int) := by
  have h := u8_and_nat c.toNat 15 c.toNat_lt (by omega)
  rw [show c.toNat &&& 15 = c.toNat % 16 from Nat.and_two_pow_sub_one_eq_mod c.toNat 4] at h
  exact h

theorem dig_at : ∀ (p : Nat) (h : p < (ByteArray.mk #[48, 49, 50, 51, 52, 53, 54, 55, 56, 57, 97, 98, 99, 100, 101, 102]).size), (ByteArray.mk #[48, 49, 50, 51, 52, 53, 54, 55, 56, 57, 97, 98, 99, 100, 101, 102])[p]'h = dig p := by
  intro p hp
  have h : p < 16 := hp
  have key : ∀ q : Fin 16, (#[48, 49, 50, 51, 52, 53, 54, 55, 56, 57, 97, 98, 99, 100, 101, 102] : Array UInt8)[q.val]'q.isLt = dig q.val := by decide
  exact key ⟨p, h⟩
theorem rhex_any (A : Option Addr) (n c : Nat) (l : List UInt8) (w : World) (hr : Rd w w.heap.size A n l) (hc : n ≤ c) (hn : n ≤ 1048576) :
    Calls Tryd.prog 42 #[.slice A n c] w fun e w' => e = .returned (.string ⟨(hexS l).toArray⟩) ∧ Below w.heap.size w w' := by
  have HR := Lib.hid hr
  have HL : Hid (l.length = n) := hr.1
  clear hr
  go_enter Tryd.func42, Tryd.ntmps42
  go_wp2
  go_loopw [3, 4] (fun v i wr => ∃ k : Nat, i = .int .i64 k ∧ k ≤ n ∧ Own wr w.heap.size v (hexS (l.take k)) ∧ Below w.heap.size w wr) (fun _ i _ => n - (intOf i).toNat)
  case atStart => exact ⟨0, rfl, by omega, Own.nil _ _, Below.refl _ _⟩
  case round =>
    rename_i wr
    obtain ⟨k, rfl, hk, ho, hB⟩ := hrel
    by_cases hkn : k < n
    · obtain ⟨b, o, rfl, hb, hcell⟩ := (HR.out.below hB).2 (by omega)
      have k1 := hcell k hkn
      obtain ⟨c0, hc0⟩ : ∃ c0 : UInt8, c0 = l.getD k 0 := ⟨_, rfl⟩
      have e0 : byteAt l k = (c0.toNat : Int) := by rw [hc0]; rfl
      rw [e0] at k1
      have hlt := c0.toNat_lt
      obtain ⟨x, hx⟩ : ∃ x : Int, x = ((dig (c0.toNat / 16)).toNat : Int) := ⟨_, rfl⟩
      obtain ⟨y, hy⟩ : ∃ y : Int, y = ((dig (c0.toNat % 16)).toNat : Int) := ⟨_, rfl⟩
      obtain ⟨z, hz⟩ : ∃ z : Int, z = (c0.toNat : Int) := ⟨_, rfl⟩
      obtain ⟨p, hp⟩ : ∃ p : Nat, p = c0.toNat / 16 := ⟨_, rfl⟩
      obtain ⟨q, hq⟩ : ∃ q : Nat, q = c0.toNat % 16 := ⟨_, rfl⟩
      have hzp : z / 16 = (p : Int) := by rw [hz, hp]; exact shr4 c0
      have hzq : z % 16 = (q : Int) := by rw [hz, hq]; omega
      rw [← hz] at k1
      have z0 : 0 ≤ z := by omega
      have z1 : z ≤ 255 := by omega
      have p1 : (p : Int) < 16 := by omega
      have q1 : (q : Int) < 16 := by omega
      have p2 : p < 16 := by omega
      have q2 : q < 16 := by omega
      have i1 := dig_at p
      have i2 := dig_at q
      have i3 : ((dig p).toNat : Int) = x := by rw [hx, hp]
      have i4 : ((dig q).toNat : Int) = y := by rw [hy, hq]
      have i5 : IntKind.u8.wrap (z.tdiv 16) = (p : Int) := by rw [Int.tdiv_eq_ediv_of_nonneg z0, hzp, IntKind.wrap_u8']; omega
      have i6 : IntKind.u8.wrap (z.tmod 16) = (q : Int) := by rw [Int.tmod_eq_emod_of_nonneg z0, hzq, IntKind.wrap_u8']; omega
      have i7 : z.tmod 16 = (q : Int) := by rw [Int.tmod_eq_emod_of_nonneg z0, hzq]
      obtain ⟨v2, w2, r2, o2, b2⟩ := hex_grow (w := w) (base := w.heap.size) k hkn HL.out hn wr.drew (below_drewN hB 1) rfl ho x y (by rw [hx, hc0]) (by rw [hy, hc0])
      have R2 := Lib.hid r2
      have O2 := Lib.hid o2
      have B2 := Lib.hid b2
      clear r2 o2 b2 ho hB hx hy hz hp hq e0 hc0 hlt hcell
      go_wp2
      go_region_law (refine step_app2 rfl (.tmp 11) (.tmp 24) rfl _ _ rfl rfl _ _ R2.out ?_)
      all_goals go_wp2
      all_goals go_roundw
      all_goals first
        | exact ⟨k + 1, by go_num, by omega, O2.out, B2.out⟩
        | (simp [intOf]; omega)
    · have e : k = n := by omega
      subst e
      rw [List.take_of_length_le (by rw [HL.out]; exact Nat.le_refl _)] at ho
      have hs := own_string ho
      have BB := Lib.hid hB
      clear ho hB
      go_wp2
      go_ret
      exact ⟨rfl, BB.out⟩
end Go.Proofs.YtmdlpbgelgeiaaaDoor
