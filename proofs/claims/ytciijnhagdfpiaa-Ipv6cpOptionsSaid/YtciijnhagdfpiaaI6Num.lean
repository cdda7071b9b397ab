/-
  ipv6cp: an identifier as eight bytes, written and read; the options of an identifier; the link's own address.
-/
import Derived.Test.YtciijnhagdfpiaaNumPut
import Derived.Test.YtciijnhagdfpiaaOpList
namespace Go.Proofs.Ytciijnhagdfpiaa
open Go.RowKit
set_option maxRecDepth 100000
set_option maxHeartbeats 4000000
set_option linter.unusedSimpArgs false
set_option linter.unusedVariables false

theorem wset_size (g : Nat) : ∀ (vs : List Value) (w : World) (o : Nat), (wset w g o vs).heap.size = w.heap.size
  | [], _, _ => rfl
  | v :: vs, w, o => by rw [wset, wset_size g vs, World.size_setCell]
theorem or8 (l : List UInt8) (k : Nat) (h : k < 8) : bits .or .u64 (num l k * 256) (byteAt l k) = num l (k + 1) := by
  have g0 := num_lo l k
  have g1 := num_below l k h
  have g2 := byteAt_lo l k
  have g3 := byteAt_hi l k
  exact or_8 _ _ (by omega) (by omega) (by omega) (by omega) (by omega)
theorem wset_snoc (g : Nat) : ∀ (vs : List Value) (w : World) (o k : Nat) (h : k < vs.length), wset w g o (vs.take (k + 1)) = (wset w g o (vs.take k)).setCell ⟨g, o + k, none⟩ vs[k]
  | v :: vs, w, o, 0, h => rfl
  | v :: vs, w, o, k + 1, h => by
    have := wset_snoc g vs (w.setCell ⟨g, o, none⟩ v) (o + 1) k (by simpa using h)
    rw [List.take_succ_cons, List.take_succ_cons, wset, wset, this, show o + 1 + k = o + (k + 1) by omega]
    rfl
theorem putB8_at (m k : Nat) (h : k < 8) : (putB m 8)[k]? = some (UInt8.ofNat (m / 256 ^ (7 - k) % 256)) := by
  rcases (show k = 0 ∨ k = 1 ∨ k = 2 ∨ k = 3 ∨ k = 4 ∨ k = 5 ∨ k = 6 ∨ k = 7 by omega) with rfl | rfl | rfl | rfl | rfl | rfl | rfl | rfl <;> simp [putB, Nat.div_div_eq_div_mul]
theorem shr_cell (x : Int) (k : Nat) (hk : k < 8) (h0 : 0 ≤ x) : some (Value.int .u8 (x / 2 ^ (8 * (7 - k)) % 256)) = ((putB x.toNat 8).map cellOf)[k]? := by
  rw [List.getElem?_map, putB8_at _ _ hk, byte_shr x (7 - k) h0]
  rfl
theorem write_any (g o c t : Nat) (x : Int) (w : World) (cs : List Value) (hb : Blk w g t cs) (ho : o + 8 ≤ cs.length) (h0 : 0 ≤ x) (h1 : x < 18446744073709551616) :
    Calls Try.prog 30 #[.slice (some ⟨g, o, none⟩) 8 c, .int .u64 x] w fun e w' => e = .returned (.tuple #[]) ∧ w' = wset w g o ((putB x.toNat 8).map cellOf) := by
  have SC := Lib.hid (fun k hk => shr_cell x k hk h0)
  obtain ⟨vs, hvs⟩ : ∃ vs, (putB x.toNat 8).map cellOf = vs := ⟨_, rfl⟩
  rw [hvs] at SC ⊢
  have hl : vs.length = 8 := by rw [← hvs]; simp [putB_length]
  have HC := Lib.hid (show ∀ k, k < 8 → (∃ v, (wset w g o (vs.take k)).cell? ⟨g, o + k, none⟩ = some v) ∧ (wset w g o (vs.take k)).frozen? ⟨g, o + k, none⟩ = false from fun k hk => by
    have hB := wset_blk g t (vs.take k) w o cs hb (by rw [List.length_take]; omega)
    refine ⟨?_, hB.frozen _⟩
    rw [hB.cell]
    refine ⟨_, List.getElem?_eq_getElem ?_⟩
    simp [hl]
    omega)
  clear hb hvs
  go_enter Try.func30, Try.ntmps30
  go_wp2
  go_loopw [7] (fun i wr => ∃ (V : World) (k : Nat), V = wr ∧ k ≤ 8 ∧ i = .int .i64 k ∧ Hid (V = wset w g o (vs.take k))) (fun i _ => 8 - (intOf i).toNat)
  case atStart => exact ⟨_, 0, rfl, by omega, rfl, rfl⟩
  case round =>
    obtain ⟨V, k, rfl, hk, rfl, hV⟩ := hrel
    by_cases hlt : k < 8
    · obtain ⟨⟨v, hc⟩, hf⟩ := HC.out k hlt
      rw [← hV.out] at hc hf
      go_wp2
      go_roundw
      case rel => exact ⟨_, k + 1, rfl, by omega, by go_num, by
        show _ = _
        rw [wset_snoc g vs w o k (by omega), ← hV.out]
        congr 1
        have := SC.out k hlt
        rw [List.getElem?_eq_getElem (by omega)] at this
        exact Option.some.inj this⟩
      case measure => simp [intOf]; omega
    · have : k = 8 := by omega
      subst this
      have HV := Lib.hid (show V = wset w g o vs by rw [hV.out, List.take_of_length_le (by omega)])
      clear hV
      go_wp2
      go_end0
      exact ⟨rfl, HV.out⟩
theorem asked_any (K : Int) (E : Option Addr) (cc B : Nat) (l : List UInt8) (w : World) (hr : Rd w B E 8 l) (hB : B ≤ w.heap.size) (hc : 8 ≤ cc) :
    Calls Try.prog 34 #[.agg #[.int .i64 K, .slice E 8 cc]] w fun e w' => e = .returned (.int .u64 (num l 8)) ∧ Below w.heap.size w w' := by
  obtain ⟨b, off, rfl, hb, hcell⟩ := hr.2 (by omega)
  obtain ⟨W1, hW1⟩ : ∃ W1, w.alloc (.cells #[.int .i64 K, .slice (some ⟨b, off, none⟩) 8 cc] 54) = W1 := ⟨_, rfl⟩
  have k1 : Blk W1 w.heap.size 54 [.int .i64 K, .slice (some ⟨b, off, none⟩) 8 cc] := by rw [← hW1]; exact blk_new w _ _
  have B1 : Below w.heap.size w W1 := by rw [← hW1]; exact (Below.refl _ _).alloc (Nat.le_refl _) _
  have q1 := k1.cell 1
  have HC := Lib.hid (show ∀ k, k < 8 → W1.cell? ⟨b, off + k, none⟩ = some (.int .u8 (byteAt l k)) from fun k hk => (B1.cell (show b < w.heap.size by omega)).trans (hcell k hk))
  have HW := Lib.hid hW1
  have HB := Lib.hid B1
  clear hcell hr k1 B1 hW1
  go_enter Try.func34, Try.ntmps34
  go_upto_region 1 with (fail)
  rw [HW.out]
  clear HW
  go_wp2
  go_loop [3, 10] (fun v i => ∃ k : Nat, k ≤ 8 ∧ i = .int .i64 k ∧ v = .int .u64 (num l k)) (fun _ i => 8 - (intOf i).toNat)
  case atStart => exact ⟨0, Nat.zero_le _, rfl, rfl⟩
  case round =>
    obtain ⟨k, hk, rfl, rfl⟩ := hrel
    by_cases hlt : k < 8
    · have hck := HC.out k hlt
      have g0 := num_lo l k
      have g1 := num_below l k hlt
      have g2 := byteAt_lo l k
      have g3 := byteAt_hi l k
      have EE := Lib.hid (or8 l k hlt)
      go_wp2
      go_round
      case rel => exact ⟨k + 1, by omega, by go_num, by rw [EE.out]⟩
      case measure => simp [intOf]; omega
    · have : k = 8 := by omega
      subst this
      go_wp2
      go_ret
      exact ⟨rfl, HB.out⟩
theorem inumber_any (K : Int) (E : Option Addr) (cc B : Nat) (l : List UInt8) (w : World) (hr : Rd w B E 8 l) (hB : B ≤ w.heap.size) :
    Calls Try.prog 36 #[.agg #[.int .i64 K, .slice E 8 cc]] w fun e w' => e = .returned (.int .u64 (num l 8)) ∧ Below w.heap.size w w' := by
  obtain ⟨b, off, rfl, hb, hcell⟩ := hr.2 (by omega)
  obtain ⟨W1, hW1⟩ : ∃ W1, w.alloc (.cells #[.int .i64 K, .slice (some ⟨b, off, none⟩) 8 cc] 54) = W1 := ⟨_, rfl⟩
  have k1 : Blk W1 w.heap.size 54 [.int .i64 K, .slice (some ⟨b, off, none⟩) 8 cc] := by rw [← hW1]; exact blk_new w _ _
  have B1 : Below w.heap.size w W1 := by rw [← hW1]; exact (Below.refl _ _).alloc (Nat.le_refl _) _
  have q1 := k1.cell 1
  have HC := Lib.hid (show ∀ k, k < 8 → W1.cell? ⟨b, off + k, none⟩ = some (.int .u8 (byteAt l k)) from fun k hk => (B1.cell (show b < w.heap.size by omega)).trans (hcell k hk))
  have HW := Lib.hid hW1
  have HB := Lib.hid B1
  clear hcell hr k1 B1 hW1
  go_enter Try.func36, Try.ntmps36
  go_upto_region 1 with (fail)
  rw [HW.out]
  clear HW
  go_wp2
  go_loop [3, 4] (fun v i => ∃ k : Nat, k ≤ 8 ∧ i = .int .i64 k ∧ v = .int .u64 (num l k)) (fun _ i => 8 - (intOf i).toNat)
  case atStart => exact ⟨0, Nat.zero_le _, rfl, rfl⟩
  case round =>
    obtain ⟨k, hk, rfl, rfl⟩ := hrel
    by_cases hlt : k < 8
    · have hck := HC.out k hlt
      have g0 := num_lo l k
      have g1 := num_below l k hlt
      have g2 := byteAt_lo l k
      have g3 := byteAt_hi l k
      have EE := Lib.hid (or8 l k hlt)
      go_wp2
      go_round
      case rel => exact ⟨k + 1, by omega, by go_num, by rw [EE.out]⟩
      case measure => simp [intOf]; omega
    · have : k = 8 := by omega
      subst this
      go_wp2
      go_ret
      exact ⟨rfl, HB.out⟩
end Go.Proofs.Ytciijnhagdfpiaa
