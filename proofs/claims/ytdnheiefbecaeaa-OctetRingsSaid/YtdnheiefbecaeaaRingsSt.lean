/-
  A ring and the document's, side by side.
-/
import Derived.Test.YtdnheiefbecaeaaRefRing2
import Derived.Test.YtdnheiefbecaeaaKept
namespace Go.Proofs.Ytdnheiefbecaeaa
open Go.RowKit
set_option maxRecDepth 100000
set_option maxHeartbeats 2000000
set_option linter.unusedSimpArgs false
set_option linter.unusedVariables false

/-- where the two rings lie: g over c; gs -/
structure Spots (w : World) (g c gs room : Nat) : Prop where
  g0 : w.heap.size ≤ g
  c0 : w.heap.size ≤ c
  s0 : w.heap.size ≤ gs
  gs1 : gs ≠ g
  gs2 : gs ≠ c
  most : room ≤ 65536
def RingOk (W : World) (g c room : Nat) (q : List UInt8) : Prop := ∃ f h cs, RingAt W g c room f h cs ∧ ringOf cs f h = q
/-- the document's ring, its bytes in no block of the other one's, nor in one that av names -/
def RefOk (W : World) (g c gs room : Nat) (av : Nat → Prop) (q : List UInt8) : Prop := ∃ b, RefRing W gs b room q ∧ b ≠ g ∧ b ≠ c ∧ b < W.heap.size ∧ ¬ av b
theorem RingOk.len {W : World} {g c room : Nat} {q : List UInt8} (h : RingOk W g c room q) : q.length ≤ room := by
  obtain ⟨f, hh, cs, r, rfl⟩ := h
  rw [ringOf_length]
  exact r.held
theorem RingOk.lt {W : World} {g c room : Nat} {q : List UInt8} (h : RingOk W g c room q) : g < W.heap.size ∧ c < W.heap.size := by
  obtain ⟨f, hh, cs, r, rfl⟩ := h
  exact ⟨r.ring.lt, r.cells.lt⟩
theorem RingOk.kept {W W' : World} {g c room : Nat} {q : List UInt8} {row : Option Nat} (h : RingOk W g c room q) (hG : W.grownBy W' row) (h1 : some g ≠ row) (h2 : some c ≠ row) : RingOk W' g c room q := by
  obtain ⟨f, hh, cs, r, e⟩ := h
  exact ⟨f, hh, cs, r.kept hG h1 h2, e⟩
theorem RefOk.kept {W W' : World} {g c gs room : Nat} {av : Nat → Prop} {q : List UInt8} {row : Option Nat} (h : RefOk W g c gs room av q) (hG : W.grownBy W' row) (h1 : some gs ≠ row) (h2 : ∀ j, row = some j → j = g ∨ j = c ∨ av j ∨ W.heap.size ≤ j) : RefOk W' g c gs room av q := by
  obtain ⟨b, r, b1, b2, b3, b4⟩ := h
  refine ⟨b, r.kept hG h1 ?_, b1, b2, Nat.lt_of_lt_of_le b3 hG.size, b4⟩
  intro e
  rcases h2 b e.symm with e2 | e2 | e2 | e2
  · exact b1 e2
  · exact b2 e2
  · exact b4 e2
  · omega
theorem RefOk.fresh {W : World} {g c gs room : Nat} {av av' : Nat → Prop} {q : List UInt8} (h : RefOk W g c gs room av q) (ha : ∀ j, av' j → W.heap.size ≤ j ∨ j = g) : RefOk W g c gs room av' q := by
  obtain ⟨b, r, b1, b2, b3, b4⟩ := h
  refine ⟨b, r, b1, b2, b3, fun hb => ?_⟩
  rcases ha b hb with h | h
  · omega
  · exact b1 h
theorem RefOk.lt {W : World} {g c gs room : Nat} {av : Nat → Prop} {q : List UInt8} (h : RefOk W g c gs room av q) : gs < W.heap.size := by
  obtain ⟨b, r, _⟩ := h
  exact r.lt

/-- both rings, and what stays as it was -/
structure Two (w W : World) (g c gs room : Nat) (av : Nat → Prop) (q1 q2 : List UInt8) : Prop where
  ring : RingOk W g c room q1
  ref : RefOk W g c gs room av q2
  below : Below w.heap.size w W
theorem Two.kept {w W W' : World} {g c gs room : Nat} {av : Nat → Prop} {q1 q2 : List UInt8} {row : Option Nat} (h : Two w W g c gs room av q1 q2) (hG : W.grownBy W' row) (hr : ∀ j, row = some j → (av j ∧ j ≠ g ∧ j ≠ c ∧ j ≠ gs ∧ w.heap.size ≤ j) ∨ W.heap.size ≤ j) : Two w W' g c gs room av q1 q2 := by
  have hl := h.ring.lt
  have hs := h.ref.lt
  have hz := h.below.size
  refine ⟨h.ring.kept hG ?_ ?_, h.ref.kept hG ?_ ?_, h.below.grown hG hz ?_⟩
  · intro e
    rcases hr g e.symm with ⟨_, h1, _⟩ | h1
    · exact h1 rfl
    · omega
  · intro e
    rcases hr c e.symm with ⟨_, _, h1, _⟩ | h1
    · exact h1 rfl
    · omega
  · intro e
    rcases hr gs e.symm with ⟨_, _, _, h1, _⟩ | h1
    · exact h1 rfl
    · omega
  · intro j hj
    rcases hr j hj with ⟨h1, _⟩ | h1
    · exact .inr (.inr (.inl h1))
    · exact .inr (.inr (.inr h1))
  · intro j hj
    rcases hr j hj with ⟨_, _, _, _, h1⟩ | h1
    · exact h1
    · omega
theorem Two.on {w W W' : World} {g c gs room : Nat} {av : Nat → Prop} {q1 q2 : List UInt8} (h : Two w W g c gs room av q1 q2) (hB : Below W.heap.size W W') : Two w W' g c gs room av q1 q2 := h.kept (only_of_below hB none) (fun j hj => by cases hj)
theorem Two.fresh {w W : World} {g c gs room : Nat} {av av' : Nat → Prop} {q1 q2 : List UInt8} (h : Two w W g c gs room av q1 q2) (ha : ∀ j, av' j → W.heap.size ≤ j ∨ j = g) : Two w W g c gs room av' q1 q2 := ⟨h.ring, h.ref.fresh ha, h.below⟩

theorem two_write {w W : World} {g c gs room : Nat} {av : Nat → Prop} {q q2 : List UInt8} (sp : Spots w g c gs room) (h : Two w W g c gs room av q q2) (A : Option Addr) (n cap B : Nat) (l : List UInt8) (hkeep : ∀ m, W.grownBy m (some c) → Rd m B A n l) (hn : n ≤ cap) (hcap : cap ≤ 9223372036854775807) (hnil : A = none → cap = 0)
    (k : Nat) (hk : (k = n ∧ n ≤ room - q.length) ∨ (k = room - q.length ∧ room - q.length < n)) :
    Calls Try.prog 7 #[.pointer (some ⟨g, 0, none⟩), .slice A n cap] W fun e W' => e = .returned (.int .i64 (k : Int)) ∧ Two w W' g c gs room av (q ++ l.take k) q2 ∧ ∃ m, W.grownBy m (some c) ∧ m.grownBy W' (some g) := by
  obtain ⟨⟨f, hh, cs, r, e⟩, hr, hB⟩ := h
  have hlen : q.length = hh := by rw [← e, ringOf_length]
  refine (ringwrite_any g c room f hh cs A n cap B l W r hkeep hn hcap hnil k (by rw [← hlen]; exact hk)).mono ?_
  rintro e2 W' ⟨rfl, ⟨cs', r', e'⟩, m, g1, g2⟩
  have hz := hB.size
  refine ⟨rfl, ⟨⟨f, hh + k, cs', r', by rw [e', e]⟩, ?_, ?_⟩, m, g1, g2⟩
  · exact (hr.kept g1 (by simpa using sp.gs2) (fun j hj => by injection hj with hj; exact .inr (.inl hj.symm))).kept g2 (by simpa using sp.gs1) (fun j hj => by injection hj with hj; exact .inl hj.symm)
  · exact (hB.grown g1 hz (fun j hj => by injection hj with hj; have := sp.c0; omega)).grown g2 (Nat.le_trans hz g1.size) (fun j hj => by injection hj with hj; have := sp.g0; omega)
theorem two_refwrite {w W : World} {g c gs room : Nat} {av : Nat → Prop} {q1 q : List UInt8} (sp : Spots w g c gs room) (h : Two w W g c gs room av q1 q) (hav : ∀ j, av j → j < W.heap.size) (A : Option Addr) (n cap B : Nat) (l : List UInt8) (hr : Rd W B A n l) (hB : B ≤ W.heap.size) (hn : n ≤ cap) (hcap : cap ≤ 9223372036854775807) (hnil : A = none → cap = 0)
    (k : Nat) (hk : (k = n ∧ n ≤ room - q.length) ∨ (k = room - q.length ∧ room - q.length < n)) :
    Calls Try.prog 8 #[.pointer (some ⟨gs, 0, none⟩), .slice A n cap] W fun e W' => e = .returned (.int .i64 (k : Int)) ∧ Two w W' g c gs room av q1 (q ++ l.take k) ∧ W.grownBy W' (some gs) := by
  obtain ⟨hR, ⟨b, r, b1, b2, b3, b4⟩, hb⟩ := h
  refine (refwrite_any gs b room q A n cap B l W r hr hB hn hcap hnil k hk).mono ?_
  rintro e W' ⟨rfl, ⟨b', hb', r'⟩, hG⟩
  have hl := hR.lt
  refine ⟨rfl, ⟨hR.kept hG (by simpa using fun e => sp.gs1 e.symm) (by simpa using fun e => sp.gs2 e.symm), ⟨b', r', ?_⟩, hb.grown hG hb.size (fun j hj => by injection hj with hj; have := sp.s0; omega)⟩, hG⟩
  rcases hb' with rfl | ⟨h1, h2⟩
  · exact ⟨b1, b2, Nat.lt_of_lt_of_le b3 hG.size, b4⟩
  · exact ⟨by omega, by omega, h2, fun h => by have := hav _ h; omega⟩
theorem two_read {w W : World} {g c gs room : Nat} {av : Nat → Prop} {q q2 : List UInt8} (sp : Spots w g c gs room) (h : Two w W g c gs room av q q2) (n : Int) :
    Calls Try.prog 11 #[.pointer (some ⟨g, 0, none⟩), .int .i64 n] W fun e W' => ∃ v, e = .returned v ∧ Own W' W.heap.size v (q.take (reach q.length n)) ∧ Two w W' g c gs room av (q.drop (reach q.length n)) q2 ∧ W.grownBy W' (some g) := by
  obtain ⟨⟨f, hh, cs, r, e⟩, hr, hB⟩ := h
  have hlen : q.length = hh := by rw [← e, ringOf_length]
  have hre : reach hh n ≤ hh := by unfold reach; omega
  refine (ringread_any g c room f hh n cs W r).mono ?_
  rintro e2 W' ⟨b, rfl, ho, r', hG⟩
  refine ⟨_, rfl, ?_, ⟨⟨_, _, cs, r', ?_⟩, hr.kept hG (by simpa using sp.gs1) (fun j hj => by injection hj with hj; exact .inl hj.symm), hB.grown hG hB.size (fun j hj => by injection hj with hj; have := sp.g0; omega)⟩, hG⟩
  · rw [hlen, ← e, ringOf_take _ _ _ _ hre]
    exact ho
  · rw [hlen, ← e, ringOf_drop _ _ _ _ hre (by rw [r.len]; exact r.held) (by rw [r.len]; exact r.first), r.len]
theorem two_peek {w W : World} {g c gs room : Nat} {av : Nat → Prop} {q q2 : List UInt8} (h : Two w W g c gs room av q q2) (n : Int) :
    Calls Try.prog 15 #[.pointer (some ⟨g, 0, none⟩), .int .i64 n] W fun e W' => ∃ v, e = .returned v ∧ Own W' W.heap.size v (q.take (reach q.length n)) ∧ Two w W' g c gs room av q q2 ∧ Below W.heap.size W W' := by
  have h2 := h
  obtain ⟨⟨f, hh, cs, r, e⟩, hr, hB⟩ := h
  have hlen : q.length = hh := by rw [← e, ringOf_length]
  have hre : reach hh n ≤ hh := by unfold reach; omega
  refine (ringpeek_any g c room f hh n cs W r).mono ?_
  rintro e2 W' ⟨b, rfl, ho, hB'⟩
  refine ⟨_, rfl, ?_, h2.on hB', hB'⟩
  rw [hlen, ← e, ringOf_take _ _ _ _ hre]
  exact ho
theorem two_drop {w W : World} {g c gs room : Nat} {av : Nat → Prop} {q q2 : List UInt8} (sp : Spots w g c gs room) (h : Two w W g c gs room av q q2) (n : Int) :
    Calls Try.prog 16 #[.pointer (some ⟨g, 0, none⟩), .int .i64 n] W fun e W' => e = .returned (.int .i64 ((reach q.length n : Nat) : Int)) ∧ Two w W' g c gs room av (q.drop (reach q.length n)) q2 ∧ W.grownBy W' (some g) := by
  obtain ⟨⟨f, hh, cs, r, e⟩, hr, hB⟩ := h
  have hlen : q.length = hh := by rw [← e, ringOf_length]
  have hre : reach hh n ≤ hh := by unfold reach; omega
  refine (ringdrop_any g c room f hh n cs W r).mono ?_
  rintro e2 W' ⟨rfl, r', hG⟩
  refine ⟨by rw [hlen], ⟨⟨_, _, cs, r', ?_⟩, hr.kept hG (by simpa using sp.gs1) (fun j hj => by injection hj with hj; exact .inl hj.symm), hB.grown hG hB.size (fun j hj => by injection hj with hj; have := sp.g0; omega)⟩, hG⟩
  rw [hlen, ← e, ringOf_drop _ _ _ _ hre (by rw [r.len]; exact r.held) (by rw [r.len]; exact r.first), r.len]
theorem two_refpeek {w W : World} {g c gs room : Nat} {av : Nat → Prop} {q1 q : List UInt8} (h : Two w W g c gs room av q1 q) (n : Int) :
    Calls Try.prog 13 #[.pointer (some ⟨gs, 0, none⟩), .int .i64 n] W fun e W' => ∃ v, e = .returned v ∧ Own W' W.heap.size v (q.take (reach q.length n)) ∧ Two w W' g c gs room av q1 q ∧ Below W.heap.size W W' := by
  have h2 := h
  obtain ⟨hR, ⟨b, r, b1, b2, b3, b4⟩, hb⟩ := h
  refine (refpeek_any gs b room n q W r).mono ?_
  rintro e W' ⟨v, rfl, ho, hB⟩
  exact ⟨v, rfl, ho, h2.on hB, hB⟩
theorem two_refdrop {w W : World} {g c gs room : Nat} {av : Nat → Prop} {q1 q : List UInt8} (sp : Spots w g c gs room) (h : Two w W g c gs room av q1 q) (n : Int) :
    Calls Try.prog 14 #[.pointer (some ⟨gs, 0, none⟩), .int .i64 n] W fun e W' => e = .returned (.int .i64 ((reach q.length n : Nat) : Int)) ∧ Two w W' g c gs room av q1 (q.drop (reach q.length n)) ∧ W.grownBy W' (some gs) := by
  obtain ⟨hR, ⟨b, r, b1, b2, b3, b4⟩, hb⟩ := h
  refine (refdrop_any gs b room n q W r).mono ?_
  rintro e W' ⟨rfl, r', hG⟩
  exact ⟨rfl, ⟨hR.kept hG (by simpa using fun e => sp.gs1 e.symm) (by simpa using fun e => sp.gs2 e.symm), ⟨b, r', b1, b2, Nat.lt_of_lt_of_le b3 hG.size, b4⟩, hb.grown hG hb.size (fun j hj => by injection hj with hj; have := sp.s0; omega)⟩, hG⟩
end Go.Proofs.Ytdnheiefbecaeaa
