/-
  A queue of whole numbers: a slice of the call's own that is cut from the front and appended to.
-/
import Derived.Test.YtpkmddagcfjadaaDoorAuRun
namespace Go.Proofs.YtpkmddagcfjadaaDoor
open Go.RowKit
set_option maxRecDepth 100000
set_option maxHeartbeats 2000000
set_option linter.unusedSimpArgs false
set_option linter.unusedVariables false

def QI (w : World) (base : Nat) (v : Value) (l : List Int) : Prop := (v = .slice none 0 0 ∧ l = []) ∨ ∃ g off cap cs, v = .slice (some ⟨g, off, none⟩) l.length cap ∧ base ≤ g ∧ Blk w g 3 cs ∧ off + cap ≤ cs.length ∧ l.length ≤ cap ∧
  (∀ j, j < l.length → cs[off + j]? = some (.int .i64 (numAt l j)))
theorem QI.nil (w : World) (base : Nat) : QI w base (.slice none 0 0) [] := .inl ⟨rfl, rfl⟩
theorem QI.of_own {w : World} {base : Nat} {v : Value} {l : List Int} (h : OwnI w base v l) : QI w base v l := by
  rcases h.2 with ⟨e, h0⟩ | ⟨g, cap, cur, e, hb, hg, hc, hm, hs, ht⟩
  · exact .inl ⟨e, List.eq_nil_of_length_eq_zero h0⟩
  · refine .inr ⟨g, 0, cap, cur.toList, e, hb, by unfold Blk; rw [hg], by simp; omega, hc, fun j hj => ?_⟩
    rw [Nat.zero_add]
    have := congrArg (·[j]?) ht
    simp only [List.getElem?_take_of_lt (show j < l.length * 1 by omega), List.getElem?_map, numAt_some hj] at this
    exact this
theorem QI.block {w : World} {base : Nat} {v : Value} {l : List Int} (h : QI w base v l) : ∀ k, v.ownBlock = some k → base ≤ k ∧ k < w.heap.size := by
  intro k hk
  rcases h with ⟨rfl, _⟩ | ⟨g, off, cap, cs, rfl, hb, hB, _⟩
  · simp [Value.ownBlock] at hk
  · simp [Value.ownBlock] at hk
    subst hk
    exact ⟨hb, hB.lt⟩
theorem QI.grown {w w' : World} {base : Nat} {v : Value} {l : List Int} {row : Option Nat} (h : QI w base v l) (hg : w.grownBy w' row) (hne : v.ownBlock = none ∨ v.ownBlock ≠ row) : QI w' base v l := by
  rcases h with h | ⟨g, off, cap, cs, rfl, hb, hB, hr⟩
  · exact .inl h
  · refine .inr ⟨g, off, cap, cs, rfl, hb, Blk.grown hB hg (fun e => ?_), hr⟩
    rcases hne with x | x
    · simp [Value.ownBlock] at x
    · exact x (by rw [e]; rfl)
theorem QI.far {w : World} {base g : Nat} {v : Value} {l : List Int} (h : QI w base v l) (hg : g < base) : v.ownBlock = none ∨ v.ownBlock ≠ some g := by
  rcases e : v.ownBlock with _ | k
  · exact .inl rfl
  · have := h.block k e
    exact .inr (fun e => by injection e; omega)
theorem QI.later {w w' : World} {base : Nat} {v : Value} {l : List Int} (h : QI w base v l) (hB : Below w.heap.size w w') : QI w' base v l := h.grown (row := none) (grown_of_below hB) (Classical.em _)
theorem QI.form {w : World} {base : Nat} {v : Value} {l : List Int} (h : QI w base v l) : ∃ A m c, v = .slice A m c ∧ m = l.length := by
  rcases h with ⟨rfl, rfl⟩ | ⟨g, off, cap, cs, rfl, _⟩
  · exact ⟨_, _, _, rfl, rfl⟩
  · exact ⟨_, _, _, rfl, rfl⟩
/-- the head of a queue, and what is left behind it -/
theorem QI.head {w : World} {base : Nat} {v : Value} {x : Int} {l : List Int} (h : QI w base v (x :: l)) : ∃ g off cap, v = .slice (some ⟨g, off, none⟩) (l.length + 1) cap ∧ w.cell? ⟨g, off, none⟩ = some (.int .i64 x) ∧ l.length + 1 ≤ cap ∧
    (cap ≠ 1 → QI w base (.slice (some ⟨g, off + 1, none⟩) l.length (cap - 1)) l) ∧ (cap = 1 → QI w base (.slice (some ⟨g, off, none⟩) l.length 0) l) := by
  rcases h with ⟨_, e⟩ | ⟨g, off, cap, cs, rfl, hb, hB, h1, h2, h3⟩
  · cases e
  · refine ⟨g, off, cap, rfl, ?_, h2, fun hc => .inr ⟨g, off + 1, cap - 1, cs, rfl, hb, hB, ?_, ?_, fun j hj => ?_⟩, fun hc => .inr ⟨g, off, 0, cs, rfl, hb, hB, ?_, ?_, fun j hj => ?_⟩⟩
    · exact (hB.cell off).trans (h3 0 (by simp))
    · rw [List.length_cons] at h2
      omega
    · rw [List.length_cons] at h2
      omega
    · have := h3 (j + 1) (by rw [List.length_cons]; omega)
      rw [show off + 1 + j = off + (j + 1) by omega, this]
      rfl
    · omega
    · rw [List.length_cons] at h2
      omega
    · rw [List.length_cons] at h2
      omega
theorem run_append_room_off {P : Program} (w : World) (t ty e : TypeId) (i : TypeInfo) (ht : P.underlying t = some (.slice e)) (hi : P.info? e = some i) (his : i.size = 1)
    (g off sLen sCap : Nat) (cur : Array Value) (hg : w.heap[g]? = some (.cells cur e (0, 0)))
    (a : Addr) (m c : Nat) (news : List Value) (hl : news.length = m) (hnews : ∀ j u, news[j]? = some u → w.cell? (a.add j) = some u) (h1 : ∀ u ∈ news, u.oneCell' = true)
    (hroom : sLen + m ≤ sCap) (hfit : off + sLen + news.length ≤ cur.size) :
    (Builtin.append_ #[t, t] ty #[.slice (some ⟨g, off, none⟩) sLen sCap, .slice (some a) m c]).run P w =
      .ok (.slice (some ⟨g, off, none⟩) (sLen + m) sCap) (w.setRow g (cur.toList.take (off + sLen) ++ news ++ cur.toList.drop (off + sLen + news.length)).toArray) := by
  have hf := run_firstCells_some (P := P) w i.size m a m c news (by rw [his]; omega) hnews
  have hst := run_storeCells_at P g (off + sLen) e news 0 cur w hg (by simpa using hfit) h1
  simp only [Nat.add_zero] at hst
  have hadd : (⟨g, off, none⟩ : Addr).add (sLen * i.size) = ⟨g, off + sLen, none⟩ := by
    rw [his, Nat.mul_one]
    unfold Addr.add
    split
    · rename_i h
      rw [h]
      rfl
    · rfl
  simp [Builtin.append_, run_underlying ht, sizeOf, typeInfo, hi, Builtin.lenOf, hroom, hf, hadd, hst]
end Go.Proofs.YtpkmddagcfjadaaDoor
