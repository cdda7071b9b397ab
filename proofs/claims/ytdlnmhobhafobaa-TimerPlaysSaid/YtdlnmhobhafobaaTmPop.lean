/-
  The methods Pop and Copy.
-/
import Derived.Test.YtdlnmhobhafobaaTmTold
namespace Go.Proofs.Ytdlnmhobhafobaa
open Go.RowKit Go.Shelf
set_option maxRecDepth 100000
set_option maxHeartbeats 2000000
set_option linter.unusedSimpArgs false
set_option linter.unusedVariables false

theorem tpop_none (base g : Nat) (xs : List T2) (v : Value) (now : Int) (w : World) (h : Qs w base g xs v) (hm : xs.length ≤ 64) (hc : cnt now xs = 0) :
    Calls Try.prog 62 #[.pointer (some ⟨g, 0, none⟩), .int .i64 now] w fun e w' => e = .returned (.tuple #[.int .i64 0, .int .i64 5]) ∧ Below w.heap.size w w' := by
  have CO : Hid (Calls Try.prog 95 #[.pointer (some ⟨g, 0, none⟩), .int .i64 now] w fun e w' => e = .returned (.int .i64 0) ∧ Below w.heap.size w w') := by
    refine (come_any base g xs v now w h (by omega)).mono ?_
    rintro e w' ⟨rfl, hB⟩
    rw [hc]
    exact ⟨rfl, hB⟩
  clear h hc
  go_enter Try.func62, Try.ntmps62
  go_wp2_with (go_at_call 95; refine CO.out.mono ?_; rintro e w1 ⟨rfl, hB1⟩; have HB1 := Lib.hid hB1; clear hB1)
  go_ret2
  exact ⟨rfl, HB1.out⟩
theorem tpop_some (base g : Nat) (x : T2) (xs : List T2) (v : Value) (now : Int) (w : World) (h : Qs w base g (x :: xs) v) (hm : xs.length < 64) (hx : x.2 ≤ now) :
    Calls Try.prog 62 #[.pointer (some ⟨g, 0, none⟩), .int .i64 now] w fun e w' => e = .returned (.tuple #[.int .i64 x.1, .int .i64 0]) ∧ ∃ v', Qs w' base g (without x (x :: xs)) v' ∧ TmF g v v' w w' := by
  have hgl := Blk.lt h.blk
  rcases h.own.form with ⟨_, e⟩ | ⟨gr, cap, hv, _, hgr, hlc, _⟩
  · cases e
  subst hv
  obtain ⟨n, hn⟩ : ∃ n, n = xs.length := ⟨_, rfl⟩
  obtain ⟨k, hk⟩ : ∃ k, k = cnt now (x :: xs) := ⟨_, rfl⟩
  have hk1 : k = cnt now xs + 1 := by rw [hk, cnt_cons_pos xs hx]
  have CO : Hid (Calls Try.prog 95 #[.pointer (some ⟨g, 0, none⟩), .int .i64 now] w fun e w' => e = .returned (.int .i64 k) ∧ Below w.heap.size w w' ∧ w'.cell? ⟨g, 0, none⟩ = some (.slice (some ⟨gr, 0, none⟩) (n + 1) cap) ∧ w'.cell? ⟨gr, 0, none⟩ = some (.int .i64 x.1) ∧ w'.cell? ⟨gr, 1, none⟩ = some (.int .i64 x.2)) := by
    refine (come_any base g _ _ now w h (by rw [List.length_cons]; omega)).mono ?_
    rintro e w' ⟨rfl, hB⟩
    obtain ⟨c0, c1⟩ := (h.later hB).own.cell 0 x rfl
    rw [Nat.zero_mul] at c0 c1
    rw [Nat.zero_add] at c1
    rw [hk, hn]
    exact ⟨rfl, hB, Blk.cell (show Blk w' g 92 _ from (h.later hB).blk) 0, c0, c1⟩
  have DR : Hid (∀ W b, Below w.heap.size w W → w.heap.size ≤ b → b < W.heap.size → Calls Try.prog 93 #[.pointer (some ⟨g, 0, none⟩), .agg #[.int .i64 x.1, .int .i64 x.2]] W fun e w' =>
      e = .returned (.tuple #[]) ∧ ∃ v', w'.heap[b]? = W.heap[b]? ∧ Hid (Qs w' base g (without x (x :: xs)) v' ∧ TmF g (.slice (some ⟨gr, 0, none⟩) (xs.length + 1) cap) v' w w')) := fun W b hB h1 h2 => by
    refine (drop_any base g _ _ x W (h.later hB) (by rw [List.length_cons]; omega)).mono ?_
    rintro e w' ⟨rfl, v', hq, hT⟩
    refine ⟨rfl, v', hT.block b h2 (by omega) (fun e => ?_), hq, ((TmF.refl g _ w).later hB).trans hT⟩
    have h3 : gr = b := by simpa [Value.ownBlock] using e
    omega
  rw [List.length_cons, ← hn]
  rw [← hn] at DR
  have n0 : ¬ ((k : Int) = 0) := by omega
  have n1 : (0 : Int) < (n : Int) + 1 := by omega
  clear h hk hk1 hlc hm hn
  go_enter Try.func62, Try.ntmps62
  go_wp2_with (first
    | (go_at_call 95; refine CO.out.mono ?_; rintro e w1 ⟨rfl, hB1, hc0, hc1, hc2⟩; have hg1 : g < w1.heap.size := Nat.lt_of_lt_of_le hgl hB1.size; have hg2 : gr < w1.heap.size := Nat.lt_of_lt_of_le hgr hB1.size; have HB1 := Lib.hid hB1; clear hB1)
    | (go_at_call 93; refine (DR.out _ w1.heap.size (HB1.out.alloc HB1.out.size _) HB1.out.size (by simp)).mono ?_; rintro e w2 ⟨rfl, v', hb2, hP⟩; have hx0 : w2.cell? ⟨w1.heap.size, 0, none⟩ = some (.int .i64 x.1) := Blk.cell (show Blk w2 w1.heap.size 95 [.int .i64 x.1, .int .i64 x.2] from hb2.trans (blk_new w1 _ [_, _])) 0; clear hb2))
  go_ret2
  exact ⟨rfl, v', hP.out⟩
end Go.Proofs.Ytdlnmhobhafobaa
