/-
  ip.seal: the checksum written into a header.
-/
import Derived.Test.YtjkdlmielckaaaaDoorIpWrit
import Derived.Lib.SliceRun
namespace Go.Proofs.YtjkdlmielckaaaaDoor
open Go.RowKit
set_option maxRecDepth 100000
set_option maxHeartbeats 2000000
set_option linter.unusedSimpArgs false
set_option linter.unusedVariables false

/-- a header whose checksum's place is 0, and with the checksum in it -/
def zeroL (l : List UInt8) : List UInt8 := (l.set 10 0).set 11 0
def sealL (l : List UInt8) : List UInt8 := ((zeroL l).set 10 (UInt8.ofNat (sumZ (zeroL l) / 256))).set 11 (UInt8.ofNat (sumZ (zeroL l) % 256))
theorem sealL_length (l : List UInt8) : (sealL l).length = l.length := by simp [sealL, zeroL]
theorem zero_byte (w : World) : (zeroValue 5).run Tryd.prog w = .ok (.int .u8 0) w := by kernel_rfl
theorem rd_front {w : World} {g n : Nat} {cur : List Value} {l : List UInt8} (hb : Blk w g 5 cur) (ht : cur.take n = l.map cellOf) (hl : l.length = n) : Rd w w.heap.size (some ⟨g, 0, none⟩) n l := by
  refine ⟨hl, fun h0 => ⟨g, 0, rfl, hb.lt, fun j hj => ?_⟩⟩
  rw [Nat.zero_add, hb.cell]
  have e : (cur.take n)[j]? = cur[j]? := by rw [List.getElem?_take]; simp [hj]
  rw [← e, ht, cells_at l j (by omega)]
theorem seal_any (g n c : Nat) (cur : List Value) (l : List UInt8) (w : World) (hb : Blk w g 5 cur) (ht : cur.take n = l.map cellOf) (hl : l.length = n) (h12 : 12 ≤ n) (hc : n ≤ c) (hn : n ≤ 140737488355328) :
    Calls Tryd.prog 18 #[.slice (some ⟨g, 0, none⟩) n c] w fun e w' => e = .returned (.tuple #[]) ∧ Blk w' g 5 ((sealL l).map cellOf ++ cur.drop n) ∧ w.grownBy w' (some g) := by
  obtain ⟨W2, hW2⟩ : ∃ W2, (w.setCell ⟨g, 10, none⟩ (.int .u8 0)).setCell ⟨g, 11, none⟩ (.int .u8 0) = W2 := ⟨_, rfl⟩
  have hlc : n ≤ cur.length := by
    have := congrArg List.length ht
    rw [List.length_take, List.length_map] at this
    omega
  have k2 : Blk W2 g 5 ((cur.set 10 (.int .u8 0)).set 11 (.int .u8 0)) := by rw [← hW2]; exact (hb.set_ 10 _).set_ 11 _
  have t2 : ((cur.set 10 (.int .u8 0)).set 11 (.int .u8 0)).take n = (zeroL l).map cellOf := by
    rw [List.take_set, List.take_set, ht]
    unfold zeroL
    rw [List.map_set, List.map_set]
    rfl
  have hcl : ∀ ty, (Builtin.clear_ #[22] ty #[.slice (some ⟨g, 10, none⟩) 2 2]).run Tryd.prog w = .ok (.tuple #[]) W2 := fun ty => by
    rw [← hW2]
    refine Lib.run_clear_slice w 22 5 ty (.int .u8 0) Tryd.underlying22 zero_byte rfl rfl g 10 2 2 (by decide) (fun j hj => ?_) (fun j hj => hb.frozen _)
    rw [hb.cell, List.getElem?_eq_getElem (by omega)]
    rfl
  have S := Lib.hid (ipSum_any (some ⟨g, 0, none⟩) n c _ (zeroL l) W2 (rd_front k2 t2 (by simp [zeroL, hl])) (by omega))
  obtain ⟨z, hz⟩ : ∃ z, sumZ (zeroL l) = z := ⟨_, rfl⟩
  have hz1 : z ≤ 65535 := by rw [← hz]; exact sumZ_le _
  rw [hz] at S
  have c10 : W2.cell? ⟨g, 10, none⟩ = some (.int .u8 0) := by rw [k2.cell, List.getElem?_set_ne (by decide), List.getElem?_set_self (by omega)]
  have c11 : W2.cell? ⟨g, 11, none⟩ = some (.int .u8 0) := by rw [k2.cell, List.getElem?_set_self (by rw [List.length_set]; omega)]
  have f10 := k2.frozen 10
  have f11 := k2.frozen 11
  have HR : Hid (Blk ((W2.setCell ⟨g, 10, none⟩ (.int .u8 ((z : Int) / 256))).setCell ⟨g, 11, none⟩ (.int .u8 ((z : Int) % 256))) g 5 ((sealL l).map cellOf ++ cur.drop n)) := Lib.hid (by
    have k4 := (k2.set_ 10 (.int .u8 ((z : Int) / 256))).set_ 11 (.int .u8 ((z : Int) % 256))
    have e : ((((cur.set 10 (.int .u8 0)).set 11 (.int .u8 0)).set 10 (.int .u8 ((z : Int) / 256))).set 11 (.int .u8 ((z : Int) % 256))) = (sealL l).map cellOf ++ cur.drop n := by
      have e1 : (.int .u8 ((z : Int) / 256) : Value) = cellOf (UInt8.ofNat (z / 256)) := by
        unfold cellOf
        rw [show ((UInt8.ofNat (z / 256)).toNat : Int) = (z : Int) / 256 by simp; omega]
      have e2 : (.int .u8 ((z : Int) % 256) : Value) = cellOf (UInt8.ofNat (z % 256)) := by
        unfold cellOf
        rw [show ((UInt8.ofNat (z % 256)).toNat : Int) = (z : Int) % 256 by simp]
      rw [← List.take_append_drop n ((((cur.set 10 (.int .u8 0)).set 11 (.int .u8 0)).set 10 (.int .u8 ((z : Int) / 256))).set 11 (.int .u8 ((z : Int) % 256)))]
      congr 1
      · rw [List.take_set, List.take_set, t2, e1, e2, ← List.map_set, ← List.map_set, sealL, hz]
      · rw [List.drop_set_of_lt (by omega), List.drop_set_of_lt (by omega), List.drop_set_of_lt (by omega), List.drop_set_of_lt (by omega)]
    rw [e] at k4
    exact k4)
  have HG : Hid (w.grownBy ((W2.setCell ⟨g, 10, none⟩ (.int .u8 ((z : Int) / 256))).setCell ⟨g, 11, none⟩ (.int .u8 ((z : Int) % 256))) (some g)) := Lib.hid (by
    rw [← hW2]
    exact only_then (only_then (only_then (only_set _) (only_set _) (fun i hi => .inl hi)) (only_set _) (fun i hi => .inl hi)) (only_set _) (fun i hi => .inl hi))
  clear hb k2 t2 hW2 ht hz
  go_enter Tryd.func18, Tryd.ntmps18
  go_wp2_with (first
    | (go_at_call 11; (with_reducible refine (S.out).mono ?_); rintro e w' ⟨rfl, rfl⟩)
    | (simp only [hcl]))
  go_end0
  exact ⟨rfl, HR.out, HG.out⟩
end Go.Proofs.YtjkdlmielckaaaaDoor
