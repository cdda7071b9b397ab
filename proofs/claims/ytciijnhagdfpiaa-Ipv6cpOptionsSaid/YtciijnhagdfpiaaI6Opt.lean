/-
  ipv6cp.Options and the reference's: an identifier as one option.
-/
import Derived.Test.YtciijnhagdfpiaaI6Num
import Derived.Test.YtciijnhagdfpiaaOne
import Derived.LoopTactic
import Derived.Laws.Bits64
import Derived.Deep.Light
namespace Go.Proofs.Ytciijnhagdfpiaa
open Go.RowKit
set_option maxRecDepth 100000
set_option maxHeartbeats 4000000
set_option linter.unusedSimpArgs false
set_option linter.unusedVariables false

theorem ownL_one {w : World} {base h : Nat} {K : Int} {E : Option Addr} {k c : Nat} {l : List UInt8} (ho : Blk w h 54 [.int .i64 K, .slice E k c]) (hv : Own w base (.slice E k c) l) (hb : base ≤ h) :
    OwnL w base (.slice (some ⟨h, 0, none⟩) 1 1) [(K, l)] := by
  refine ⟨[.int .i64 K, .slice E k c], ⟨rfl, .inr ⟨h, 1, _, rfl, hb, ho, Nat.le_refl _, by unfold maxLen; omega, rfl, rfl⟩⟩, fun i hi => ?_⟩
  have : i = 0 := by simp at hi; omega
  subst this
  exact ⟨rfl, E, k, c, rfl, hv⟩
theorem i6own {w : World} {base g : Nat} {l : List UInt8} (h : Blk w g 5 (l.map cellOf)) (hb : base ≤ g) (hm : l.length ≤ 140737488355328) :
    Own w base (.slice (some ⟨g, 0, none⟩) l.length l.length) l := by
  refine ⟨by simp, .inr ⟨g, l.length, _, rfl, hb, h, Nat.le_refl _, by unfold maxLen; omega, by simp, by rw [Nat.mul_one]; exact List.take_of_length_le (by simp)⟩⟩
theorem options6_any (x : Int) (w : World) (h0 : 0 ≤ x) (h1 : x < 18446744073709551616) :
    Calls Try.prog 7 #[.int .u64 x] w fun e w' => ∃ g, e = .returned (.slice (some ⟨g, 0, none⟩) 1 1) ∧ OwnL w' w.heap.size (.slice (some ⟨g, 0, none⟩) 1 1) [(1, putB x.toNat 8)] ∧ Below w.heap.size w w' := by
  have HWR := Lib.hid (show Calls Try.prog 30 #[.slice (some ⟨w.heap.size, 0, none⟩) 8 8, .int .u64 x] (w.alloc (.cells (zeros 8).toArray 5)) fun e w' => e = .returned (.tuple #[]) ∧ w'.heap.size = w.heap.size + 1 ∧
      Hid (OwnL (w'.alloc (.cells #[.int .i64 1, .slice (some ⟨w.heap.size, 0, none⟩) 8 8] 54)) w.heap.size (.slice (some ⟨w.heap.size + 1, 0, none⟩) 1 1) [(1, putB x.toNat 8)] ∧ Below w.heap.size w (w'.alloc (.cells #[.int .i64 1, .slice (some ⟨w.heap.size, 0, none⟩) 8 8] 54))) from by
    have hz8 : (zeros 8).length = 8 := rfl
    have k1 := blk_new w 5 (zeros 8)
    refine (write_any w.heap.size 0 8 _ x _ _ k1 (by rw [hz8]; omega) h0 h1).mono ?_
    rintro e w' ⟨rfl, rfl⟩
    have B1 : Below w.heap.size w (w.alloc (.cells (zeros 8).toArray 5)) := (Below.refl _ _).alloc (Nat.le_refl _) _
    have k2 := wset_blk w.heap.size 5 ((putB x.toNat 8).map cellOf) _ 0 _ k1 (by simp [putB_length, hz8])
    have g2 := wset_grown w.heap.size ((putB x.toNat 8).map cellOf) (w.alloc (.cells (zeros 8).toArray 5)) 0
    have e2 : (List.take 0 (zeros 8) ++ ((putB x.toNat 8).map cellOf ++ List.drop (0 + ((putB x.toNat 8).map cellOf).length) (zeros 8))) = (putB x.toNat 8).map cellOf := by simp [putB_length, zeros]
    rw [e2] at k2
    have z2 : (wset (w.alloc (.cells (zeros 8).toArray 5)) w.heap.size 0 ((putB x.toNat 8).map cellOf)).heap.size = w.heap.size + 1 := by rw [wset_size]; simp
    generalize wset (w.alloc (.cells (zeros 8).toArray 5)) w.heap.size 0 ((putB x.toNat 8).map cellOf) = W at k2 g2 z2 ⊢
    have B2 : Below w.heap.size w W := B1.grown g2 (by simp) (fun q e => by injection e; omega)
    have ho := i6own (base := w.heap.size) k2 (Nat.le_refl _) (by rw [putB_length]; omega)
    rw [putB_length] at ho
    have BA : Below W.heap.size W (W.alloc (.cells #[.int .i64 1, .slice (some ⟨w.heap.size, 0, none⟩) 8 8] 54)) := (Below.refl _ _).alloc (Nat.le_refl _) _
    have k3 := blk_new W 54 [.int .i64 1, .slice (some ⟨w.heap.size, 0, none⟩) 8 8]
    rw [z2] at k3
    exact ⟨rfl, z2, ownL_one k3 (ho.later BA) (by omega), B2.trans (BA.mono (by omega))⟩)
  have hmk := fun w => mk_run 8 8 rfl (by omega) w
  go_enter Try.func7, Try.ntmps7
  go_wp2_with (go_at_call 30; (with_reducible refine HWR.out.mono ?_); rintro e w1 ⟨rfl, hz, HO⟩)
  go_ret
  exact ⟨w.heap.size + 1, rfl, HO.out⟩
theorem roptions6_any (x : Int) (w : World) (hx0 : 0 ≤ x) (hx1 : x < 18446744073709551616) :
    Calls Try.prog 9 #[.int .u64 x] w fun e w' => ∃ g, e = .returned (.slice (some ⟨g, 0, none⟩) 1 1) ∧ OwnL w' w.heap.size (.slice (some ⟨g, 0, none⟩) 1 1) [(1, putB x.toNat 8)] ∧ Below w.heap.size w w' := by
  go_enter Try.func9, Try.ntmps9
  go_wp2
  go_loopw [3, 4] (fun v i wr => ∃ z : Int, i = .int .i64 z ∧ -1 ≤ z ∧ z < (8 : Nat) ∧ Own wr w.heap.size v (putB (x.toNat / 256 ^ (z + 1).toNat) (8 - (z + 1).toNat)) ∧ Below w.heap.size w wr) (fun _ i _ => (intOf i + 1).toNat)
  case atStart =>
    refine ⟨_, rfl, by omega, by omega, ?_, Below.refl _ _⟩
    exact Own.nil w w.heap.size
  case round =>
    rename_i wr
    obtain ⟨z, rfl, hz1, hzs, ho, hB⟩ := hrel
    by_cases h0 : 0 ≤ z
    · obtain ⟨q, rfl⟩ := Int.eq_ofNat_of_zero_le h0
      have e1 : ((q : Int) + 1).toNat = q + 1 := by omega
      rw [e1] at ho
      have hsz := hB.size
      obtain ⟨v2, w2, r2, o2, g2, b2⟩ := append_run (ho.alloc (.cells #[.int .u8 (x / 2 ^ (8 * q) % 256)] 5)) 1 (rd_one wr (UInt8.ofNat (x.toNat / 256 ^ q % 256)) _ (byte_shr x q hx0)) (by simp) (by rw [putB_length]; omega) (by simp; omega)
      rw [putB_next x.toNat 8 q (by omega)] at o2
      have hB2 : Below w.heap.size w w2 := (hB.alloc hsz _).grown g2 (by simp; omega) (by
        intro k hk
        rcases ho.form with ⟨e, _⟩ | ⟨g, cap, e, hg, _⟩
        · rw [e] at hk
          simp [Value.ownBlock] at hk
        · rw [e] at hk
          simp [Value.ownBlock] at hk
          omega)
      have R2 := Lib.hid r2
      have O2 := Lib.hid o2
      have B2 := Lib.hid hB2
      clear r2 o2 g2 b2 ho hB hB2 e1
      go_wp2_with (at_builtin; refine wpList_app rfl (.tmp 9) (.tmp 16) rfl _ _ rfl rfl _ _ R2.out ?_)
      go_roundw
      case rel =>
        refine ⟨_, rfl, by omega, by omega, ?_, B2.out⟩
        have e : ((q : Int) - 1 + 1).toNat = q := by omega
        rw [e]
        exact O2.out
      case measure => simp [intOf]
    · have e : z = -1 := by omega
      subst e
      rw [show ((-1 : Int) + 1).toNat = 0 from rfl, Nat.pow_zero, Nat.div_one, Nat.sub_zero] at ho
      obtain ⟨A, c, rfl⟩ : ∃ A c, u3 = .slice A 8 c := by
        rcases ho.form with ⟨_, h2⟩ | ⟨g, cap, e, _⟩
        · have := putB_length x.toNat 8
          rw [h2] at this
          cases this
        · rw [putB_length] at e
          exact ⟨_, _, e⟩
      have BA : Below wr.heap.size wr (wr.alloc (.cells #[.int .i64 1, .slice A 8 c] 54)) := (Below.refl _ _).alloc (Nat.le_refl _) _
      have HF := Lib.hid (And.intro (ownL_one (blk_new wr 54 [.int .i64 1, .slice A 8 c]) (ho.later BA) hB.size) (hB.trans (BA.mono hB.size)))
      clear ho hB BA
      go_wp2
      go_ret
      exact ⟨_, rfl, HF.out⟩
end Go.Proofs.Ytciijnhagdfpiaa
