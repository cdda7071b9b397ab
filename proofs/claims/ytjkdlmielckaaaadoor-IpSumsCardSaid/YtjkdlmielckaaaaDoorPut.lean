/-
  octet.Put: a number behind bytes in new memory, or the error.
-/
import Derived.Test.YtjkdlmielckaaaaDoorNum
import Derived.Test.YtjkdlmielckaaaaDoorFill
import Derived.Test.YtjkdlmielckaaaaDoorBase
import Derived.Laws.CopyOwn
import Derived.Deep.Light
namespace Go.Proofs.YtjkdlmielckaaaaDoor
open Go.RowKit
set_option maxRecDepth 100000
set_option linter.unusedSimpArgs false
set_option linter.unusedVariables false

theorem put_size (A : Option Addr) (n c : Nat) (m s : Int) (w : World) (hs : ¬ (1 ≤ s ∧ s ≤ 8)) :
    Calls Tryd.prog 50 #[.slice A n c, .int .u64 m, .int .i64 s] w fun e w' => e = .returned (.tuple #[.slice none 0 0, .int .i64 1]) ∧ w = w' := by
  have hd : decide (1 ≤ s ∧ s ≤ 8) = false := by simpa using hs
  go_enter Tryd.func50, Tryd.ntmps50
  go_wp2_with (go_at_call 37; refine (size_right _ _).mono ?_; rintro e w' ⟨rfl, rfl⟩)
  go_ret2
  exact ⟨rfl, rfl⟩

theorem put_much (A : Option Addr) (n c : Nat) (m s : Int) (w : World) (hs : 1 ≤ s ∧ s ≤ 8) (hm0 : 0 ≤ m) (hm : m < 18446744073709551616) (hq : (m / 2 ^ (8 * s).toNat != 0) = true) :
    Calls Tryd.prog 50 #[.slice A n c, .int .u64 m, .int .i64 s] w fun e w' => e = .returned (.tuple #[.slice none 0 0, .int .i64 1]) ∧ w = w' := by
  have hd : decide (1 ≤ s ∧ s ≤ 8) = true := by simpa using hs
  obtain ⟨hs1, hs8⟩ := hs
  go_enter Tryd.func50, Tryd.ntmps50
  go_wp2_with (go_at_call 37; refine (size_right _ _).mono ?_; rintro e w' ⟨rfl, rfl⟩)
  go_ret2
  exact ⟨rfl, rfl⟩

theorem put_ok (A : Option Addr) (n c s : Nat) (x : Int) (l : List UInt8) (w : World) (hr : Rd w w.heap.size A n l) (hs1 : 1 ≤ s) (hs8 : s ≤ 8) (hx0 : 0 ≤ x) (hx1 : x < 18446744073709551616)
    (hq : (x / 2 ^ (8 * s) != 0) = false) (hn : n ≤ 140737488351232) :
    Calls Tryd.prog 50 #[.slice A n c, .int .u64 x, .int .i64 (s : Int)] w fun e w' =>
      e = .returned (.tuple #[.slice (some ⟨w.heap.size, 0, none⟩) (n + s) (n + s), .int .i64 0]) ∧ Blk w' w.heap.size 5 ((l ++ putB x.toNat s).map cellOf) ∧ Below w.heap.size w w' := by
  have hd : decide (1 ≤ (s : Int) ∧ (s : Int) ≤ 8) = true := by simp; omega
  have hmk := fun w => mk_run (n + s) ((n : Int) + (s : Int)) (by omega) (by omega) w
  obtain ⟨w2, hcp, hb2, hg2⟩ := copy_run (blk_new w 5 (zeros (n + s))) 0 (n + s) (n + s) c (hr.alloc (Nat.le_refl _) _) n (by omega) (by rw [zeros_length]; omega)
  have hl := hr.1
  have hB : Below w.heap.size w w2 := ((Below.refl _ _).alloc (Nat.le_refl _) _).grown hg2 (by simp) (by intro k hk; injection hk with hk; omega)
  have hb3 : Blk w2 w.heap.size 5 (l.map cellOf ++ zeros s) := by
    have e : (zeros (n + s)).take 0 ++ ((l.take n).map cellOf ++ (zeros (n + s)).drop (0 + n)) = l.map cellOf ++ zeros s := by
      rw [List.take_zero, List.nil_append, List.take_of_length_le (by omega)]
      simp [zeros]
    rw [e] at hb2
    exact hb2
  have hlen : (l.map cellOf ++ zeros s).length = n + s := by rw [List.length_append, List.length_map, zeros_length, hl]
  have G := wset_grown w.heap.size ((putB x.toNat s).map cellOf) w2 n
  have F := wset_blk w.heap.size 5 ((putB x.toNat s).map cellOf) w2 n _ hb3 (by rw [List.length_map, putB_length, hlen]; omega)
  have e2 : (l.map cellOf ++ zeros s).take n ++ ((putB x.toNat s).map cellOf ++ (l.map cellOf ++ zeros s).drop (n + ((putB x.toNat s).map cellOf).length)) = (l ++ putB x.toNat s).map cellOf := by
    rw [List.drop_eq_nil_of_le (by rw [List.length_map, putB_length, hlen]; omega), List.take_append_of_le_length (by rw [List.length_map]; omega), List.take_of_length_le (by rw [List.length_map]; omega)]
    simp
  rw [e2] at F
  have hB2 := Lib.hid (hB.grown G hB.size (by intro k hk; injection hk with hk; omega))
  have FF := Lib.hid F
  have hfill := Lib.hid (fill_int w.heap.size n s s x w2 _ hb3 ⟨hs1, hs8⟩ (by rw [hlen]; omega) hx0 hx1 (Nat.le_refl _))
  clear hr hl hB hb3 hlen G F e2 hg2 hb2
  go_enter Tryd.func50, Tryd.ntmps50
  go_wp2_with (first
    | (go_at_call 37; refine (size_right _ _).mono ?_; rintro e w' ⟨rfl, rfl⟩)
    | (go_at_call 57; refine (hfill.out).mono ?_; rintro e w' ⟨rfl, rfl⟩))
  go_ret2
  exact ⟨rfl, FF.out, hB2.out⟩
end Go.Proofs.YtjkdlmielckaaaaDoor
