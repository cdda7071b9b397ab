/-
  PapPackets: what is written reads as it was; the memory of the walk.
-/
import Derived.Test.YtglboagjmbjehaaPaKept
namespace Go.Proofs.Ytglboagjmbjehaa
open Go.RowKit Go.Shelf
set_option maxRecDepth 100000
set_option maxHeartbeats 4000000
set_option linter.unusedSimpArgs false
set_option linter.unusedVariables false

theorem stOf_list (a : ByteArray) : stOf a.data.toList = a := by
  apply WideShapes.bytes_inj
  simp [stOf]
theorem tk_pt (a : ByteArray) (r : List UInt8) (ha : a.size ≤ 255) : tk (ptL a ++ r) = some (a, r) := by
  have hs : (UInt8.ofNat a.size).toNat = a.size := by simp [UInt8.toNat_ofNat']; omega
  have hl : a.data.toList.length = a.size := rfl
  show (if (a.data.toList ++ r).length < (UInt8.ofNat a.size).toNat then none else some (stOf ((a.data.toList ++ r).take (UInt8.ofNat a.size).toNat), (a.data.toList ++ r).drop (UInt8.ofNat a.size).toNat)) = _
  rw [hs, if_neg (by rw [List.length_append]; omega), ← hl, List.take_left, List.drop_left, stOf_list]
theorem req_back {id : Int} {a b : ByteArray} (h : reqE id a b = 0) : rqE 1 id (jnL [a, b]) = 0 ∧ rqS 1 id (jnL [a, b]) 0 = a ∧ rqS 1 id (jnL [a, b]) 1 = b := by
  unfold reqE at h
  cases hi : idB id
  · rw [hi] at h; simp at h
  · rw [hi, if_neg (by simp)] at h
    by_cases hs : 255 < a.size ∨ 255 < b.size
    · rw [if_pos hs] at h; cases h
    · have hj : jnL [a, b] = ptL a ++ (ptL b ++ []) := by simp [jnL]
      have pe : prs 2 (jnL [a, b]) = ([a, b], []) := by
        rw [hj, prs_some (tk_pt a _ (by omega)), prs_some (tk_pt b _ (by omega))]
        rfl
      have hz : rqE 1 id (jnL [a, b]) = 0 := by
        rw [rqE_good hi rfl]
        unfold parE
        rw [pe]
        rfl
      refine ⟨hz, ?_, ?_⟩
      · unfold rqS; rw [if_pos hz, pe]; rfl
      · unfold rqS; rw [if_pos hz, pe]; rfl
theorem ans_back {id : Int} {a : ByteArray} (ok : Bool) (h : ansE id a = 0) : raE (if ok then 2 else 3) id (jnL [a]) = 0 ∧ raO (if ok then 2 else 3) id (jnL [a]) = ok ∧ raS (if ok then 2 else 3) id (jnL [a]) = a := by
  unfold ansE at h
  cases hi : idB id
  · rw [hi] at h; simp at h
  · rw [hi, if_neg (by simp)] at h
    by_cases hs : 255 < a.size
    · rw [if_pos hs] at h; cases h
    · rw [if_neg hs] at h
      cases hsh : shB a
      · rw [hsh] at h; simp at h
      · have hj : jnL [a] = ptL a ++ [] := by simp [jnL]
        have ht : tk (jnL [a]) = some (a, []) := by rw [hj]; exact tk_pt a [] (by omega)
        have hz : raE (if ok then 2 else 3) id (jnL [a]) = 0 := by
          rw [raE_good hi (by cases ok <;> simp), sdE_sh ht, hsh]
          rfl
        refine ⟨hz, ?_, ?_⟩
        · unfold raO
          rw [hz]
          cases ok <;> rfl
        · unfold raS
          rw [if_pos hz, sd_some ht]
/-- what lies in memory: packets in blocks, bytes that are read -/
structure PS (w W : World) (L : List (Nat × List Value)) (M : List (Option Addr × Nat × List UInt8)) : Prop where
  bel : Below w.heap.size w W
  blk : ∀ x ∈ L, Blk W x.1 38 x.2
  rd : ∀ x ∈ M, Rd W W.heap.size x.1 x.2.1 x.2.2
theorem PS.step {w W W' : World} {L : List (Nat × List Value)} {M : List (Option Addr × Nat × List UInt8)} (h : PS w W L M) (b : Below W.heap.size W W') : PS w W' L M :=
  ⟨h.bel.trans (b.mono h.bel.size), fun x hx => (b.block _ (Blk.lt (h.blk x hx))).trans (h.blk x hx), fun x hx => ((h.rd x hx).below b).wide b.size⟩
theorem PS.al {w W : World} {L : List (Nat × List Value)} {M : List (Option Addr × Nat × List UInt8)} (h : PS w W L M) (cs : List Value) : PS w (W.alloc (.cells cs.toArray 38)) ((W.heap.size, cs) :: L) M := by
  have h2 := h.step ((Below.refl W.heap.size W).alloc (Nat.le_refl _) (.cells cs.toArray 38))
  refine ⟨h2.bel, fun x hx => ?_, h2.rd⟩
  rcases List.mem_cons.1 hx with rfl | hx
  · exact heap_alloc_new W _
  · exact h2.blk x hx
theorem PS.read {w W : World} {L : List (Nat × List Value)} {M : List (Option Addr × Nat × List UInt8)} (h : PS w W L M) {A : Option Addr} {n : Nat} {l : List UInt8} (hr : Rd W W.heap.size A n l) : PS w W L ((A, n, l) :: M) :=
  ⟨h.bel, h.blk, fun x hx => by rcases List.mem_cons.1 hx with rfl | hx; exact hr; exact h.rd x hx⟩
theorem LentAt.step {W W' : World} {base n g cap : Nat} {l : List UInt8} (h : LentAt W base l n g cap) (b : Below W.heap.size W W') : LentAt W' base l n g cap := by
  refine ⟨?_, h.2⟩
  have hl : (Value.slice (some ⟨g, 0, none⟩) (n + 1) cap).ownBlock ≠ some W.heap.size := by
    rcases h.1.form with ⟨e, _⟩ | ⟨g', cap', e, h2, h3, _⟩
    · cases e
    · injection e with e
      injection e with e
      injection e with e
      intro e2
      simp [Value.ownBlock] at e2
      omega
  have h4 := h.1.grown (below_only (g := W.heap.size) b) (.inr hl)
  exact h4
theorem LentAt.cap {W : World} {base n g cap : Nat} {l : List UInt8} (h : LentAt W base l n g cap) : n ≤ cap := Nat.le_of_succ_le h.2
theorem LentAt.read {W : World} {base n g cap : Nat} {l : List UInt8} (h : LentAt W base l n g cap) (hl : l.length = n) : Rd W W.heap.size (some ⟨g, 0, none⟩) n l := by
  have hrd := h.1.rd (by simp [hl]) n (by omega)
  rwa [List.take_append_of_le_length (by omega), List.take_of_length_le (by omega)] at hrd
end Go.Proofs.Ytglboagjmbjehaa
