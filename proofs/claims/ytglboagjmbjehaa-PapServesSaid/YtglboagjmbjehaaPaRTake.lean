/-
  tetherref12.take: a part at the beginning.
-/
import Derived.Test.YtglboagjmbjehaaPaBothA
import Derived.BigQuiet
namespace Go.Proofs.Ytglboagjmbjehaa
open Go.RowKit Go.Shelf
set_option maxRecDepth 100000
set_option maxHeartbeats 4000000
set_option linter.unusedSimpArgs false
set_option linter.unusedVariables false

def tk : List UInt8 → Option (ByteArray × List UInt8)
  | [] => none
  | c :: r => if r.length < c.toNat then none else some (stOf (r.take c.toNat), r.drop c.toNat)
def TkR (w : World) (B : Nat) (l : List UInt8) (e : Ending) (w' : World) : Prop :=
  Below w.heap.size w w' ∧ ((tk l = none ∧ e = .returned (.tuple #[.string ⟨#[]⟩, .slice none 0 0, .bool false])) ∨
    ∃ s r A n c, tk l = some (s, r) ∧ e = .returned (.tuple #[.string s, .slice A n c, .bool true]) ∧ Rd w' B A n r ∧ n ≤ c ∧ (A = none → c = 0))
theorem rtake_any (A : Option Addr) (n c B : Nat) (l : List UInt8) (w : World) (hr : Rd w B A n l) (hB : B ≤ w.heap.size) (hc : n ≤ c) (hnil : A = none → c = 0) (hm : n ≤ maxLen) :
    Calls Try.prog 57 #[.slice A n c] w (TkR w B l) := by
  have hl := hr.1
  unfold maxLen at hm
  have NO : tk l = none → Hid (TkR w B l (.returned (.tuple #[.string ⟨#[]⟩, .slice none 0 0, .bool false])) w) := fun h => ⟨Below.refl _ _, .inl ⟨h, rfl⟩⟩
  cases l with
  | nil =>
    obtain rfl : n = 0 := by simpa using hl.symm
    have NN := NO rfl
    clear NO hr hl
    go_enter Try.func57, Try.ntmps57
    go_wp2
    exact bodyPost_ret (v := .tuple #[.string ⟨#[]⟩, .slice none 0 0, .bool false]) (by simp [results, Try.results57, go_sem]) rfl NN.out
  | cons x r =>
    obtain ⟨k, hk⟩ : ∃ k, x.toNat = k := ⟨_, rfl⟩
    have hk255 : k ≤ 255 := by have := x.toNat_lt; omega
    rw [List.length_cons] at hl
    obtain ⟨b, off, rfl, hbB, hcell⟩ := hr.2 (by omega)
    have c0 : w.cell? ⟨b, off, none⟩ = some (.int .u8 (k : Int)) := by
      have h := hcell 0 (by omega)
      rw [Nat.add_zero] at h
      rw [h, byteAt_eq (x :: r) 0 (by simp)]
      simp [hk]
    have hn1 : ¬ ((n : Int) < 1) := by omega
    have hn0 : (0 : Int) < (n : Int) := by omega
    by_cases hs : r.length < k
    · have NN := NO (by show (if r.length < x.toNat then none else some (stOf (r.take x.toNat), r.drop x.toNat)) = none; rw [hk, if_pos hs])
      have hle : (n : Int) - 1 < (k : Int) := by omega
      clear NO hr hcell hk
      go_enter Try.func57, Try.ntmps57
      go_wp2
      exact bodyPost_ret (v := .tuple #[.string ⟨#[]⟩, .slice none 0 0, .bool false]) (by simp [results, Try.results57, go_sem]) rfl NN.out
    · obtain ⟨A1, c1, hs1, hr1⟩ := slice_part _ n c B k (x :: r) w hr hc (by omega)
      obtain ⟨A2, c2, hs2, hr2, hnil2, hle2⟩ := slice_from _ n c B (1 + k) (x :: r) w hr hc hnil (by omega)
      have e1 : ((x :: r).drop 1).take k = r.take k := by simp
      have e2 : (x :: r).drop (1 + k) = r.drop k := by rw [Nat.add_comm]; simp
      rw [e1] at hr1
      rw [e2] at hr2
      have hcv := conv_str hr1.drew c1
      rw [show (((1 + k : Nat)) : Int) = 1 + (k : Int) by omega] at hs2
      have YES : Hid (∀ i, TkR w B (x :: r) (.returned (.tuple #[.string (stOf (r.take k)), .slice A2 (n - (1 + k)) c2, .bool true])) (w.drewN i)) := fun i =>
        ⟨below_drewN (Below.refl _ _) i, .inr ⟨_, _, A2, _, c2, by show (if r.length < x.toNat then none else some (stOf (r.take x.toNat), r.drop x.toNat)) = some _; rw [hk, if_neg hs], rfl, hr2.drewN i, hle2, hnil2⟩⟩
      have hle : ¬ ((n : Int) - 1 < (k : Int)) := by omega
      clear NO hr hcell hk hr1 hr2 e1 e2
      go_enter Try.func57, Try.ntmps57
      go_wp2
      go_region
      all_goals
        go_wp2
        exact bodyPost_ret (v := .tuple #[.string (stOf (r.take k)), .slice A2 (n - (1 + k)) c2, .bool true]) (by simp [results, Try.results57, go_sem]) rfl (YES.out 1)
end Go.Proofs.Ytglboagjmbjehaa
