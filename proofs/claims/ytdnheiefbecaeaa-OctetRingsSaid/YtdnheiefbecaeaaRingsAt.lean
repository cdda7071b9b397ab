/-
  What holds in a round of OctetRings.
-/
import Derived.Test.YtdnheiefbecaeaaRingsSt
namespace Go.Proofs.Ytdnheiefbecaeaa
open Go.RowKit
set_option maxRecDepth 100000
set_option maxHeartbeats 2000000
set_option linter.unusedSimpArgs false
set_option linter.unusedVariables false

theorem own_front {w : World} {base g n cap : Nat} {l : List UInt8} (h : Own w base (.slice (some ⟨g, 0, none⟩) n cap) l) (hn : n = l.length) (k : Nat) (hk : k ≤ n) :
    Own w base (.slice (some ⟨g, 0, none⟩) k cap) (l.take k) := by
  subst hn
  rcases h.2 with ⟨e, _⟩ | ⟨g', cap', cur, e, hb, hh, hc, hm, hs, ht⟩
  · cases e
  · injection e with e1 e2 e3
    injection e1 with e1
    injection e1 with e1
    subst e1 e3
    have hlen : (l.take k).length = k := by rw [List.length_take]; omega
    refine ⟨by simp, .inr ⟨g, cap, cur, by rw [hlen], hb, hh, by omega, hm, hs, ?_⟩⟩
    rw [hlen, Nat.mul_one, List.map_take, ← ht, List.take_take]
    congr 1
    omega
theorem own_cap {w : World} {base g n cap : Nat} {l : List UInt8} (h : Own w base (.slice (some ⟨g, 0, none⟩) n cap) l) : cap ≤ 9223372036854775807 := by
  rcases h.2 with ⟨e3, _⟩ | ⟨g2, cap2, cur, e3, _, _, _, hm3, _⟩
  · cases e3
  · injection e3 with _ _ e4
    unfold maxLen at hm3
    omega

/-- a lent copy beside both rings -/
structure At0 (w W : World) (g c gs room gd capd o8 lo : Nat) (E : Option Addr) (n cap : Nat) (l q1 q2 : List UInt8) : Prop where
  two : Two w W g c gs room (fun j => j = gd) q1 q2
  own : Own W lo (.slice (some ⟨gd, 0, none⟩) (n + 1) capd) (l ++ [77])
  op : W.cell? ⟨o8, 2, none⟩ = some (.slice E n cap)
/-- what never changes beside it -/
structure Fix (w : World) (g c gs room gd o8 : Nat) (E : Option Addr) (n cap : Nat) (l : List UInt8) : Prop where
  sp : Spots w g c gs room
  d1 : gd ≠ g
  d2 : gd ≠ c
  d3 : gd ≠ gs
  d4 : w.heap.size ≤ gd
  o1 : o8 ≠ g
  o2 : o8 ≠ c
  o3 : o8 ≠ gs
  o4 : o8 ≠ gd
  src : Rd w w.heap.size E n l
  len : l.length = n
  c1 : n ≤ cap
  c2 : cap ≤ 140737488351232
  nil : E = none → cap = 0
theorem At0.drew {w W : World} {g c gs room gd capd o8 lo : Nat} {E : Option Addr} {n cap : Nat} {l q1 q2 : List UInt8} (h : At0 w W g c gs room gd capd o8 lo E n cap l q1 q2) (k : Nat) : At0 w (W.drewN k) g c gs room gd capd o8 lo E n cap l q1 q2 :=
  ⟨h.two.on (below_drewN (Below.refl _ _) k), h.own, h.op⟩
theorem cell_kept {W W' : World} {o i : Nat} {v : Value} {row : Option Nat} (h : W.cell? ⟨o, i, none⟩ = some v) (hG : W.grownBy W' row) (hr : some o ≠ row) : W'.cell? ⟨o, i, none⟩ = some v :=
  (World.cell?_of_block (a := ⟨o, i, none⟩) (hG.block o (World.block_lt_of_cell? _ _ h) hr)).trans h
theorem at0_write {w W : World} {g c gs room gd capd o8 lo : Nat} {E : Option Addr} {n cap : Nat} {l q q2 : List UInt8} (F : Fix w g c gs room gd o8 E n cap l) (h : At0 w W g c gs room gd capd o8 lo E n cap l q q2)
    (k : Nat) (hk : (k = n ∧ n ≤ room - q.length) ∨ (k = room - q.length ∧ room - q.length < n)) :
    Calls Try.prog 7 #[.pointer (some ⟨g, 0, none⟩), .slice (some ⟨gd, 0, none⟩) n capd] W fun e W' => e = .returned (.int .i64 (k : Int)) ∧ At0 w W' g c gs room gd capd o8 lo E n cap l (q ++ l.take k) q2 := by
  have hl := F.len
  have hlen : n + 1 = (l ++ [77]).length := by simp [hl]
  have hcapd : n + 1 ≤ capd := by
    rcases h.own.form with ⟨e, _⟩ | ⟨g', cap', e, _, _, hh⟩
    · cases e
    · injection e with _ _ e3
      omega
  refine (two_write F.sp h.two (some ⟨gd, 0, none⟩) n capd (gd + 1) l (fun m hG => ?_) (by omega) (own_cap h.own) (fun e => by cases e) k hk).mono ?_
  · have ho := h.own.grown hG (.inr (by simpa [Value.ownBlock] using F.d2))
    have hr := ho.rd hlen n (by omega)
    rw [List.take_append_of_le_length (by omega), List.take_of_length_le (by omega)] at hr
    refine ⟨hr.1, fun h0 => ?_⟩
    obtain ⟨b, off, e, _, hc⟩ := hr.2 h0
    injection e with e
    injection e with e1 e2
    exact ⟨b, off, by rw [e1, e2], by omega, hc⟩
  · rintro e W' ⟨rfl, hT, m, g1, g2⟩
    exact ⟨rfl, hT, (h.own.grown g1 (.inr (by simpa [Value.ownBlock] using F.d2))).grown g2 (.inr (by simpa [Value.ownBlock] using F.d1)), cell_kept (cell_kept h.op g1 (by simpa using F.o2)) g2 (by simpa using F.o1)⟩
theorem at0_refwrite {w W : World} {g c gs room gd capd o8 lo : Nat} {E : Option Addr} {n cap : Nat} {l q1 q : List UInt8} (F : Fix w g c gs room gd o8 E n cap l) (h : At0 w W g c gs room gd capd o8 lo E n cap l q1 q)
    (k : Nat) (hk : (k = n ∧ n ≤ room - q.length) ∨ (k = room - q.length ∧ room - q.length < n)) :
    Calls Try.prog 8 #[.pointer (some ⟨gs, 0, none⟩), .slice E n cap] W fun e W' => e = .returned (.int .i64 (k : Int)) ∧ At0 w W' g c gs room gd capd o8 lo E n cap l q1 (q ++ l.take k) := by
  refine (two_refwrite F.sp h.two (fun j hj => by have h1 := (h.own.block gd rfl).2; have h2 : j = gd := hj; omega) E n cap w.heap.size l (F.src.below h.two.below) h.two.below.size F.c1 (by have := F.c2; omega) F.nil k hk).mono ?_
  rintro e W' ⟨rfl, hT, hG⟩
  exact ⟨rfl, hT, h.own.grown hG (.inr (by simpa [Value.ownBlock] using F.d3)), cell_kept h.op hG (by simpa using F.o3)⟩
theorem at0_kept {w W : World} {g c gs room gd capd o8 lo : Nat} {E : Option Addr} {n cap : Nat} {l q1 q2 : List UInt8} (F : Fix w g c gs room gd o8 E n cap l) (h : At0 w W g c gs room gd capd o8 lo E n cap l q1 q2) :
    Calls Try.prog 9 #[.slice (some ⟨gd, 0, none⟩) n capd, .slice E n cap] W fun e W' => e = .returned (.bool true) ∧ At0 w W' g c gs room gd capd o8 lo E n cap l q1 q2 := by
  refine (kept_any E gd n cap capd lo w.heap.size l W h.own (F.src.below h.two.below) (by have := F.c1; have := F.c2; omega)).mono ?_
  rintro e W' ⟨rfl, k, rfl⟩
  exact ⟨rfl, h.drew k⟩
theorem at0_spoil {w W : World} {g c gs room gd capd o8 lo : Nat} {E : Option Addr} {n cap : Nat} {l q1 q2 : List UInt8} (F : Fix w g c gs room gd o8 E n cap l) (h : At0 w W g c gs room gd capd o8 lo E n cap l q1 q2) (hlo : lo ≤ W.heap.size) :
    Calls Try.prog 10 #[.slice (some ⟨gd, 0, none⟩) n capd] W fun e W' => e = .returned (.tuple #[]) ∧ Two w W' g c gs room (fun _ => False) q1 q2 := by
  have hl := F.len
  have ho := own_front h.own (by simp [hl]) n (by omega)
  rw [List.take_append_of_le_length (by omega), List.take_of_length_le (by omega)] at ho
  refine (spoil_row gd n capd lo l W hl.symm ho hlo (h.own.block gd rfl).2 (by have := F.c1; have := F.c2; omega)).mono ?_
  rintro e W' ⟨rfl, hG⟩
  exact ⟨rfl, (h.two.kept hG (fun j hj => by injection hj with hj; subst hj; exact .inl ⟨rfl, F.d1, F.d2, F.d3, F.d4⟩)).fresh (fun j hj => hj.elim)⟩
theorem two_len {w W : World} {g c gs room : Nat} {av : Nat → Prop} {q q2 : List UInt8} (h : Two w W g c gs room av q q2) :
    Calls Try.prog 17 #[.pointer (some ⟨g, 0, none⟩)] W fun e W' => e = .returned (.int .i64 (q.length : Int)) ∧ W = W' := by
  obtain ⟨⟨f, hh, cs, r, rfl⟩, _, _⟩ := h
  rw [ringOf_length]
  exact ringlen_any g c room f hh cs W r
theorem two_room {w W : World} {g c gs room : Nat} {av : Nat → Prop} {q q2 : List UInt8} (h : Two w W g c gs room av q q2) :
    Calls Try.prog 18 #[.pointer (some ⟨g, 0, none⟩)] W fun e W' => e = .returned (.int .i64 ((room - q.length : Nat) : Int)) ∧ ∃ k, W' = W.drewN k := by
  obtain ⟨⟨f, hh, cs, r, rfl⟩, _, _⟩ := h
  rw [ringOf_length]
  exact ringroom_any g c room f hh cs W r
theorem two_cell {w W : World} {g c gs room : Nat} {av : Nat → Prop} {q1 q : List UInt8} (h : Two w W g c gs room av q1 q) : ∃ D dc, W.cell? ⟨gs, 1, none⟩ = some (.slice D q.length dc) := by
  obtain ⟨_, ⟨b, r, _⟩, _⟩ := h
  obtain ⟨D, dc, hb, _⟩ := r.ring
  exact ⟨D, dc, Blk.cell hb 1⟩
theorem two_len_q {w W : World} {g c gs room : Nat} {av : Nat → Prop} {q q2 : List UInt8} (h : Two w W g c gs room av q q2) (a : Nat) :
    Calls Try.prog 17 #[.pointer (some ⟨g, 0, none⟩)] (W.drewN a) fun e W' => e = .returned (.int .i64 (q.length : Int)) ∧ ∃ m, W' = W.drewN m :=
  (two_len (W := W.drewN a) (h.on (below_drewN (Below.refl _ _) a))).mono fun _ _ h => ⟨h.1, a, h.2.symm⟩
theorem two_room_q {w W : World} {g c gs room : Nat} {av : Nat → Prop} {q q2 : List UInt8} (h : Two w W g c gs room av q q2) (a : Nat) :
    Calls Try.prog 18 #[.pointer (some ⟨g, 0, none⟩)] (W.drewN a) fun e W' => e = .returned (.int .i64 ((room - q.length : Nat) : Int)) ∧ ∃ m, W' = W.drewN m :=
  (two_room (W := W.drewN a) (h.on (below_drewN (Below.refl _ _) a))).mono fun _ _ h => ⟨h.1, by
    obtain ⟨k, hk⟩ := h.2
    exact ⟨a + k, hk.trans (by show World.drewN _ _ = _; unfold World.drewN; simp [Nat.add_assoc])⟩⟩
theorem Two.drewN {w W : World} {g c gs room : Nat} {av : Nat → Prop} {q1 q2 : List UInt8} (h : Two w W g c gs room av q1 q2) (k : Nat) : Two w (W.drewN k) g c gs room av q1 q2 := h.on (below_drewN (Below.refl _ _) k)
end Go.Proofs.Ytdnheiefbecaeaa
