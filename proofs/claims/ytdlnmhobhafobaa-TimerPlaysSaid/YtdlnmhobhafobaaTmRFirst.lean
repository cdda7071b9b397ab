/-
  The reference's queue: where the first timer stands.
-/
import Derived.Test.YtdlnmhobhafobaaTmRBase
import Derived.BigQuiet
namespace Go.Proofs.Ytdlnmhobhafobaa
open Go.RowKit Go.Shelf
set_option maxRecDepth 100000
set_option maxHeartbeats 2000000
set_option linter.unusedSimpArgs false
set_option linter.unusedVariables false

theorem below_drewM {B : Nat} {a b : World} (h : Below B a b) (n : Nat) : Below B a (b.drewN n) := ⟨h.os, h.tape, h.output, h.size, h.block⟩
/-- the deadline at a place -/
def dl (xs : List T2) (k : Nat) : Int := (xs.getD k (0, 0)).2
/-- where the first of the first k stands -/
def fiN (xs : List T2) : Nat → Int
  | 0 => -1
  | k + 1 => if fiN xs k < 0 then k else if dl xs k < dl xs (fiN xs k).toNat then k else fiN xs k
theorem fiN_in (xs : List T2) : ∀ k, 0 < k → ∃ j : Nat, fiN xs k = j ∧ j < k
  | 0, h => by omega
  | 1, _ => ⟨0, by simp [fiN], by omega⟩
  | k + 2, _ => by
    obtain ⟨j, h1, h2⟩ := fiN_in xs (k + 1) (by omega)
    rw [fiN, h1, if_neg (by omega)]
    split
    · exact ⟨k + 1, rfl, by omega⟩
    · exact ⟨j, rfl, by omega⟩
theorem dl_at {xs : List T2} {k : Nat} {x : T2} (h : xs[k]? = some x) : dl xs k = x.2 := by
  unfold dl
  rw [List.getD_eq_getElem?_getD, h]
  rfl
theorem rtmfirst_any (base g : Nat) (xs : List T2) (v : Value) (w : World) (h : Rq w base g xs v) (hm : xs.length ≤ 1152921504606846976) :
    Calls Try.prog 69 #[.pointer (some ⟨g, 0, none⟩)] w fun e w' => e = .returned (.int .i64 (fiN xs xs.length)) ∧ Below w.heap.size w w' := by
  have hgl := Blk.lt h.blk
  have hc0 := h.blk.cell 0
  obtain ⟨A, c, rfl, hcl⟩ := h.own.slice
  obtain ⟨n, hn⟩ : ∃ n, xs.length = n := ⟨_, rfl⟩
  rw [hn] at hc0 hm hcl ⊢
  have HQ := Lib.hid h
  rw [hn] at HQ
  have HL := Lib.hid hn
  clear h hn
  go_enter Try.func69, Try.ntmps69
  go_wp2
  go_loopw [3, 11] (fun kv i wr => ∃ k : Nat, k ≤ n ∧ i = .int .i64 k ∧ kv = .int .i64 (fiN xs k) ∧ Below w.heap.size w wr) (fun _ i _ => n - (intOf i).toNat)
  case atStart => exact ⟨0, Nat.zero_le _, rfl, rfl, Below.refl _ _⟩
  case round =>
    rename_i wr
    obtain ⟨k, hkn, rfl, rfl, hB⟩ := hrel
    by_cases hlt : k < n
    · have hl := HL.out
      obtain ⟨x, hx⟩ : ∃ x, xs[k]? = some x := ⟨xs[k]'(by omega), List.getElem?_eq_getElem _⟩
      obtain ⟨gr, rfl⟩ : ∃ gr, A = some ⟨gr, 0, none⟩ := by
        rcases HQ.out.own.form with ⟨_, e⟩ | ⟨g', cap, e, _⟩
        · rw [e] at hx; simp at hx
        · injection e with e
          exact ⟨g', e⟩
      have hgr := ((HQ.out.own.later hB).block gr rfl).2
      have hcr : wr.cell? ⟨g, 0, none⟩ = some (.slice (some ⟨gr, 0, none⟩) n c) := (HQ.out.later hB).blk.cell 0
      have hgw : g < wr.heap.size := Nat.lt_of_lt_of_le hgl hB.size
      obtain ⟨c0, c1⟩ := (HQ.out.own.later hB).cell k x hx
      have hdx := dl_at hx
      by_cases hz : k = 0
      · subst hz
        have HBe := Lib.hid hB
        have HX := Lib.hid hx
        have HF : Hid (fiN xs 1 = 0) := by show _ = _; simp [fiN]
        clear hB hx hl
        simp only [Nat.zero_mul, Nat.zero_add, fiN] at c0 c1 ⊢
        go_upto_region 5 with (fail)
        go_quiet (fail)
        go_wp2
        go_roundw
        case rel => exact ⟨1, by omega, by go_num, by rw [HF.out]; rfl, below_drewM (HBe.out.alloc HBe.out.size _) _⟩
        case measure => simp [intOf]; omega
      · obtain ⟨j, hj, hjk⟩ := fiN_in xs k (by omega)
        obtain ⟨y, hy⟩ : ∃ y, xs[j]? = some y := ⟨xs[j]'(by omega), List.getElem?_eq_getElem _⟩
        obtain ⟨d0, d1⟩ := (HQ.out.own.later hB).cell j y hy
        have hdy := dl_at hy
        have HF : Hid (fiN xs (k + 1) = if x.2 < y.2 then (k : Int) else j) := by
          show _ = _
          rw [fiN, hj, if_neg (by omega), hdx, Int.toNat_natCast, hdy]
        have HBe := Lib.hid hB
        rw [hj]
        have hjn : ¬ ((j : Int) < 0) := by omega
        have hjn2 : (j : Int) < (n : Int) := by omega
        clear hB hx hl hy hdx hdy hj
        by_cases hc : x.2 < y.2
        · have HF2 := Lib.hid (HF.out.trans (if_pos hc))
          go_upto_region 5 with (fail)
          go_quiet (fail)
          go_wp2
          go_roundw
          case rel => exact ⟨k + 1, by omega, by go_num, by rw [HF2.out], below_drewM (HBe.out.alloc HBe.out.size _) _⟩
          case measure => simp [intOf]; omega
        · have HF2 := Lib.hid (HF.out.trans (if_neg hc))
          go_upto_region 5 with (fail)
          go_quiet (fail)
          go_wp2
          go_roundw
          case rel => exact ⟨k + 1, by omega, by go_num, by rw [HF2.out], below_drewM (HBe.out.alloc HBe.out.size _) _⟩
          case measure => simp [intOf]; omega
    · have hkn' : k = n := by omega
      subst hkn'
      go_wp2
      go_ret
      exact ⟨rfl, hB⟩
end Go.Proofs.Ytdlnmhobhafobaa
