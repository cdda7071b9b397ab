/-
  A stream of some bytes: what each call makes of it.
-/
import Derived.Test.YtnlhjlmjbmaipaaDoorMdWriteL
import Derived.Test.YtnlhjlmjbmaipaaDoorMdCopy
import Derived.Test.YtnlhjlmjbmaipaaDoorMdColl
import Derived.Test.YtnlhjlmjbmaipaaDoorMdRBlocks
namespace Go.Proofs.YtnlhjlmjbmaipaaDoor
open Go.RowKit
set_option maxRecDepth 100000
set_option maxHeartbeats 1000000
set_option linter.unusedSimpArgs false
set_option linter.unusedVariables false

/-- the digest of bytes -/
def digW (l : List UInt8) : W4 := mdOver (mdPad l) ((mdPad l).length / 64)
theorem Stm.later {w W : World} {base g : Nat} {l : List UInt8} {v : Value} (h : Stm w base g l v) (hB : Below w.heap.size w W) : Stm W base g l v := by
  obtain ⟨rest, h1, h2⟩ := h
  exact ⟨rest, h1.later hB, h2⟩
theorem Stm.lt {w : World} {base g : Nat} {l : List UInt8} {v : Value} (h : Stm w base g l v) : g < w.heap.size := by
  obtain ⟨rest, h1, h2⟩ := h
  exact Blk.lt h1.blk
theorem Stm.ne {w : World} {base g : Nat} {l : List UInt8} {v : Value} (h : Stm w base g l v) : v.ownBlock ≠ some g := by
  obtain ⟨rest, h1, h2⟩ := h
  exact h1.ne
theorem Stm.ownB {w : World} {base g : Nat} {l : List UInt8} {v : Value} (h : Stm w base g l v) : ∀ k, v.ownBlock = some k → base ≤ k ∧ k < w.heap.size := by
  obtain ⟨rest, h1, h2⟩ := h
  exact h1.ownB
theorem Stm.frm {w W : World} {base g h : Nat} {l : List UInt8} {v v' u : Value} (hs : Stm w base h l u) (f : Frm g v v' w W) (hg : h ≠ g) (hv : v.ownBlock ≠ some h) (hu : u.ownBlock ≠ some g) (huv : ∀ k, u.ownBlock = some k → v.ownBlock ≠ some k) : Stm W base h l u := by
  obtain ⟨rest, h1, h2⟩ := hs
  refine ⟨rest, ⟨(f.block h (Blk.lt h1.blk) hg hv).trans h1.blk, h1.len, ?_, h1.ne, h1.ok⟩, h2⟩
  refine ⟨h1.own.1, ?_⟩
  rcases h1.own.2 with h0 | ⟨g', cap, cur, e, hb, hg', hr⟩
  · exact .inl h0
  · have e2 : u.ownBlock = some g' := by rw [e]; rfl
    exact .inr ⟨g', cap, cur, e, hb, (f.block g' (Array.getElem?_eq_some_iff.1 hg').1 (fun e' => hu (by rw [e2, e'])) (huv g' e2)).trans hg', hr⟩
theorem new_stm (w : World) : Calls Tryd.prog 5 #[] w fun e w' => e = .returned (.pointer (some ⟨w.heap.size, 0, none⟩)) ∧ Stm w' w.heap.size w.heap.size [] (.slice none 0 0) ∧ Below w.heap.size w w' := by
  refine (new_any w).mono ?_
  rintro e w' ⟨rfl, rfl⟩
  exact ⟨rfl, ⟨_, new_st w w.heap.size, rfl⟩, (Below.refl _ _).alloc (Nat.le_refl _) _⟩
theorem write_stm (base g nn c B : Nat) (l m : List UInt8) (v : Value) (A : Option Addr) (w : World) (h : Stm w base g l v) (hr : Rd w B A nn m) (hB : B ≤ w.heap.size) (hc : nn ≤ c) (hnil : A = none → c = 0) (hg : ∀ x o, A = some ⟨x, o, none⟩ → 0 < nn → x ≠ g ∧ v.ownBlock ≠ some x)
    (hm : l.length + nn ≤ 140737488351000) (hb : base ≤ w.heap.size) (hbg : base ≤ g) (hK : TabK w) (hS : TabS w) (hk0 : 0 < base) (hs0 : 1 < base) :
    Calls Tryd.prog 8 #[.pointer (some ⟨g, 0, none⟩), .slice A nn c] w fun e w' => e = .returned (.int .i64 0) ∧ ∃ v', Stm w' base g (l ++ m) v' ∧ Frm g v v' w w' := by
  by_cases hlt : l.length % 64 + nn < 64
  · exact write_short base g nn c B l m v A w h hr (fun x o e h0 => (hg x o e h0).1) (by omega) hlt
  · exact write_long base g nn c B l m v A w h hr hB hc hnil hg hm (by omega) hb hbg hK hS hk0 hs0
theorem ssum_stm (base g : Nat) (l : List UInt8) (v : Value) (w : World) (h : Stm w base g l v) (hm : l.length ≤ 140737488351000) (hK : TabK w) (hS : TabS w) :
    Calls Tryd.prog 11 #[.pointer (some ⟨g, 0, none⟩)] w fun e w' => e = .returned (.agg (partB (digW l) 16).toArray) ∧ Below w.heap.size w w' := by
  obtain ⟨rest, h1, h2⟩ := h
  have hs := ssum_any base g l.length (wordsAll l) rest v w h1 (by rw [wordsAll_length]; omega) (by omega) hK hS
  have e : mdEnd (lastW (wordsAll l)) (rest.take (l.length % 64)) l.length = digW l := by
    unfold digW
    rw [mdOver_end, lastW_all, h2]
    rfl
  rw [e] at hs
  exact hs
theorem slen_stm (base g : Nat) (l : List UInt8) (v : Value) (w : World) (h : Stm w base g l v) : Calls Tryd.prog 10 #[.pointer (some ⟨g, 0, none⟩)] w fun e w' => e = .returned (.int .i64 l.length) ∧ w = w' := by
  obtain ⟨rest, h1, h2⟩ := h
  exact slen_any g l.length w h1.size
theorem blocks_stm (base g k : Nat) (l : List UInt8) (v : Value) (w : World) (h : Stm w base g l v) (hk : 1 ≤ k) (hkm : k ≤ 140737488355000) (hm : l.length ≤ 140737488351000) :
    Calls Tryd.prog 15 #[.pointer (some ⟨g, 0, none⟩), .int .i64 k] w fun e w' => ∃ A n c, e = .returned (.slice A n c) ∧ OwnD w' w.heap.size (.slice A n c) ((wordsAll l).take k) ∧ n = ((wordsAll l).take k).length ∧ Below w.heap.size w w' := by
  obtain ⟨rest, h1, h2⟩ := h
  refine (lawblocks_any base g l.length k (wordsAll l) rest v w h1 hk hkm (by rw [wordsAll_length]; omega)).mono ?_
  rintro e w' ⟨d, rfl, hd, hB⟩
  rcases hd.form with ⟨e, e2⟩ | ⟨g', cap, e, _⟩
  · subst e
    exact ⟨_, _, _, rfl, hd, by rw [e2]; rfl, hB⟩
  · subst e
    exact ⟨_, _, _, rfl, hd, rfl, hB⟩
theorem rblocks_sl (A : Option Addr) (N c B : Nat) (l : List UInt8) (w : World) (hr : Rd w B A N l) (hB : B ≤ w.heap.size) (hc : N ≤ c) (hnil : A = none → c = 0) (hm : N ≤ 140737488351000) :
    Calls Tryd.prog 13 #[.slice A N c] w fun e w' => ∃ A n c, e = .returned (.slice A n c) ∧ OwnD w' w.heap.size (.slice A n c) (wordsAll l) ∧ n = (wordsAll l).length ∧ n ≤ c ∧ Below w.heap.size w w' := by
  refine (rblocks_any A N c B l w hr hB hc hnil hm).mono ?_
  rintro e w' ⟨d, rfl, hd, hB⟩
  rcases hd.form with ⟨e, e2⟩ | ⟨g', cap, e, _, _, h3, _⟩
  · subst e
    exact ⟨_, _, _, rfl, hd, by rw [e2]; rfl, Nat.le_refl _, hB⟩
  · subst e
    exact ⟨_, _, _, rfl, hd, rfl, h3, hB⟩
/-- bytes of the call's own, as a slice -/
theorem own_slice {w : World} {base : Nat} {v : Value} {l : List UInt8} (h : Own w base v l) : ∃ A c, v = .slice A l.length c ∧ Rd w w.heap.size A l.length l ∧ l.length ≤ c ∧ (A = none → c = 0) := by
  rcases h.form with ⟨rfl, rfl⟩ | ⟨g, cap, rfl, _, _, hc⟩
  · exact ⟨none, 0, rfl, Rd.nil, Nat.le_refl _, fun _ => rfl⟩
  · have h2 := h.rd rfl l.length (Nat.le_refl _)
    rw [List.take_of_length_le (Nat.le_refl _)] at h2
    exact ⟨some ⟨g, 0, none⟩, cap, rfl, h2, hc, fun h => nomatch h⟩
end Go.Proofs.YtnlhjlmjbmaipaaDoor
