/-
  ip.written: the bytes of parts, one behind the other.
-/
import Derived.Test.YtjkdlmielckaaaaDoorIpSum
namespace Go.Proofs.YtjkdlmielckaaaaDoor
open Go.RowKit
set_option maxRecDepth 100000
set_option maxHeartbeats 2000000
set_option linter.unusedSimpArgs false
set_option linter.unusedVariables false

/-- the bytes of parts -/
def wrL (ps : List (Int × Nat)) : List UInt8 := ps.flatMap (fun p => putB p.1.toNat p.2)
theorem wrL_length_le (ps : List (Int × Nat)) (h : ∀ p ∈ ps, p.2 ≤ 8) : (wrL ps).length ≤ 8 * ps.length := by
  induction ps with
  | nil => simp [wrL]
  | cons p r ih =>
    have h1 := h p (by simp)
    have h2 := ih (fun q hq => h q (by simp [hq]))
    unfold wrL at h2 ⊢
    simp only [List.flatMap_cons, List.length_append, putB_length, List.length_cons]
    omega
theorem wrL_take (ps : List (Int × Nat)) (k : Nat) (h : k < ps.length) : wrL (ps.take (k + 1)) = wrL (ps.take k) ++ putB ps[k].1.toNat ps[k].2 := by
  unfold wrL
  rw [List.take_succ_eq_append_getElem h, List.flatMap_append]
  simp
/-- can a part be written? -/
def PartOk (p : Int × Nat) : Prop := 1 ≤ p.2 ∧ p.2 ≤ 8 ∧ 0 ≤ p.1 ∧ p.1 < 9223372036854775808 ∧ (p.1 / 2 ^ (8 * p.2) != 0) = false

theorem written_any (b n c : Nat) (ps : List (Int × Nat)) (w : World) (hn : ps.length = n) (hb : b < w.heap.size) (hm : n ≤ 1048576) (hok : ∀ p ∈ ps, PartOk p)
    (hc : ∀ j (h : j < ps.length), w.cell? ⟨b, j * 2, none⟩ = some (.int .i64 ps[j].1) ∧ w.cell? ⟨b, j * 2 + 1, none⟩ = some (.int .i64 (ps[j].2 : Int))) :
    Calls Tryd.prog 42 #[.slice (some ⟨b, 0, none⟩) n c] w fun e w' => ∃ v, e = .returned v ∧ Own w' w.heap.size v (wrL ps) ∧ Below w.heap.size w w' := by
  have HN := Lib.hid hn
  have HK := Lib.hid hok
  have HC := Lib.hid hc
  clear hn hok hc
  go_enter Tryd.func42, Tryd.ntmps42
  go_wp2
  go_loopw [3, 8] (fun v i wr => ∃ k : Nat, i = .int .i64 k ∧ k ≤ n ∧ Hid (Own wr w.heap.size v (wrL (ps.take k))) ∧ Hid (Below w.heap.size w wr)) (fun _ i _ => n - (intOf i).toNat)
  case atStart => exact ⟨0, rfl, by omega, Own.nil _ _, Below.refl _ _⟩
  case round =>
    rename_i wr
    obtain ⟨k, rfl, hk, ho, hB⟩ := hrel
    by_cases hkn : k < n
    · have hkp : k < ps.length := by have := HN.out; omega
      obtain ⟨h0, h1⟩ := HC.out k hkp
      have d0 : wr.cell? ⟨b, k * 2, none⟩ = some (.int .i64 ps[k].1) := (hB.out.cell (show b < w.heap.size from hb)).trans h0
      have d1 : wr.cell? ⟨b, k * 2 + 1, none⟩ = some (.int .i64 (ps[k].2 : Int)) := (hB.out.cell (show b < w.heap.size from hb)).trans h1
      obtain ⟨p1, p2, p3, p4, p5⟩ := HK.out ps[k] (List.getElem_mem hkp)
      have e := wrL_take ps k hkp
      obtain ⟨x, hx⟩ : ∃ x, ps[k].1 = x := ⟨_, rfl⟩
      obtain ⟨s, hs⟩ : ∃ s, ps[k].2 = s := ⟨_, rfl⟩
      rw [hx] at d0 p3 p4 p5 e
      rw [hs] at d1 p1 p2 p5 e
      have HL : Hid ((wrL (ps.take k)).length ≤ 8 * n) := Lib.hid (by
        have := wrL_length_le (ps.take k) (fun q hq => (HK.out q (List.mem_of_mem_take hq)).2.1)
        rw [List.length_take] at this
        omega)
      have HE := Lib.hid e
      obtain ⟨A, c0, rfl, hrd⟩ := own_later ho.out (Below.refl _ _)
      obtain ⟨len, hlen⟩ : ∃ len, (wrL (ps.take k)).length = len := ⟨_, rfl⟩
      rw [hlen] at hrd
      have HRD := Lib.hid hrd
      rw [hlen]
      have P : Hid (∀ W, Below wr.heap.size wr W → Calls Tryd.prog 50 #[.slice A len c0, .int .u64 x, .int .i64 (s : Int)] W fun e w' =>
          ∃ v2, e = .returned (.tuple #[v2, .int .i64 0]) ∧ Hid (Own w' w.heap.size v2 (wrL (ps.take (k + 1)))) ∧ Hid (Below w.heap.size w w')) := Lib.hid (fun W hW => by
        refine (put_ok A len c0 s x _ W ((HRD.out.below hW).wide hW.size) p1 p2 p3 (by omega) p5 (by have := HL.out; omega)).mono ?_
        rintro e w' ⟨rfl, hb2, hb3⟩
        have hsz : w.heap.size ≤ W.heap.size := Nat.le_trans hB.out.size hW.size
        have hl2 : (wrL (ps.take k) ++ putB x.toNat s).length = len + s := by rw [List.length_append, putB_length, hlen]
        have ow := own_of_blk (base := w.heap.size) hb2 hsz (by have := HL.out; omega)
        rw [hl2, ← HE.out] at ow
        exact ⟨_, rfl, ow, (hB.out.trans (hW.mono hB.out.size)).trans (hb3.mono hsz)⟩)
      clear hx hs e h0 h1 ho hrd hlen
      go_wp2_with (go_at_call 50; ((with_reducible refine (P.out _ ((Below.refl _ _).alloc (Nat.le_refl _) _)).mono ?_); rintro e w' ⟨v2, rfl, HO, HB2⟩))
      go_roundw
      case rel => exact ⟨k + 1, by go_num, by omega, HO, HB2⟩
      case measure => simp [intOf]; omega
    · have e : k = n := by omega
      subst e
      have h := ho.out
      rw [List.take_of_length_le (by have := HN.out; omega)] at h
      obtain ⟨A, c0, rfl, _⟩ := own_later h (Below.refl _ _)
      have HF := Lib.hid h
      clear h
      clear ho
      go_wp2
      go_ret
      exact ⟨_, rfl, HF.out, hB.out⟩
end Go.Proofs.YtjkdlmielckaaaaDoor
