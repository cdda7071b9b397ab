/-
  pap.Request, pap.Answer.
-/
import Derived.Test.YtglboagjmbjehaaPaMake
namespace Go.Proofs.Ytglboagjmbjehaa
open Go.RowKit
set_option maxRecDepth 100000
set_option maxHeartbeats 4000000
set_option linter.unusedSimpArgs false
set_option linter.unusedVariables false

def idB (id : Int) : Bool := decide (0 ≤ id) && decide (id ≤ 255)
theorem idRight_any (id : Int) (w : World) : Calls Try.prog 48 #[.int .i64 id] w fun e w' => e = .returned (.bool (idB id)) ∧ w = w' := by
  by_cases h1 : 0 ≤ id
  · by_cases h2 : id ≤ 255
    all_goals
      have e : Hid (idB id = decide (id ≤ 255)) := by show _ = _; simp [idB, h1]
      rw [e.out]
      go_enter Try.func48, Try.ntmps48
      go_wp2
      go_ret
      first | exact ⟨rfl, rfl⟩ | exact ⟨by simp [h2], rfl⟩ | exact ⟨trivial, rfl⟩
  · have e : Hid (idB id = false) := by show _ = _; simp [idB, h1]
    rw [e.out]
    go_enter Try.func48, Try.ntmps48
    go_wp2
    go_ret
    exact ⟨rfl, rfl⟩
theorem gset' (w : World) (g i : Nat) (u : Value) : w.grownBy (w.setCell ⟨g, i, none⟩ u) (some g) :=
  ⟨rfl, rfl, rfl, by simp [World.setCell], fun k _ hne => Below.heap_setCell w ⟨g, i, none⟩ u k (fun e => hne (by rw [e]))⟩
theorem gtrans' {a b c : World} {g : Nat} (h : a.grownBy b (some g)) (k : b.grownBy c (some g)) : a.grownBy c (some g) :=
  ⟨k.os.trans h.os, k.tape.trans h.tape, k.output.trans h.output, Nat.le_trans h.size k.size, fun i hi hne => (k.block i (Nat.lt_of_lt_of_le hi h.size) hne).trans (h.block i hi hne)⟩
theorem gset3 (w : World) (g : Nat) (a b c : Value) : w.grownBy (((w.setCell ⟨g, 0, none⟩ a).setCell ⟨g, 1, none⟩ b).setCell ⟨g, 2, none⟩ c) (some g) :=
  gtrans' (gtrans' (gset' _ _ _ _) (gset' _ _ _ _)) (gset' _ _ _ _)
theorem blk3 {W : World} {g t : Nat} {a b c x y z : Value} (h : Blk W g t [a, b, c]) : Blk (((W.setCell ⟨g, 0, none⟩ x).setCell ⟨g, 1, none⟩ y).setCell ⟨g, 2, none⟩ z) g t [x, y, z] := ((h.set_ 0 x).set_ 1 y).set_ 2 z
/-- a packet of the call's own -/
def PktR (w : World) (code id : Int) (l : List UInt8) (err : Int) (e : Ending) (w' : World) : Prop :=
  Below w.heap.size w w' ∧ ∃ D k d, e = .returned (.tuple #[.agg #[.int .i64 code, .int .i64 id, .slice D k d], .int .i64 err]) ∧ Own w' w.heap.size (.slice D k d) l
theorem request_yes (id : Int) (a b : ByteArray) (w : World) (h0 : 0 ≤ id) (h1 : id ≤ 255) (ha : a.size ≤ 255) (hb : b.size ≤ 255) :
    Calls Try.prog 35 #[.int .i64 id, .string a, .string b] w (PktR w 1 id (jnL [a, b]) 0) := by
  have hid : idB id = true := by simp [idB, h0, h1]
  obtain ⟨V1, hV1⟩ : ∃ V, w.alloc (.cells #[.int .i64 0, .int .i64 0, .slice none 0 0] 38) = V := ⟨_, rfl⟩
  have hB1 : Below w.heap.size w V1 := by rw [← hV1]; exact (Below.refl _ _).alloc (Nat.le_refl _) _
  have hn1 : Blk V1 w.heap.size 38 [.int .i64 0, .int .i64 0, .slice none 0 0] := by rw [← hV1]; exact heap_alloc_new w _
  have z1 : V1.heap.size = w.heap.size + 1 := by rw [← hV1]; simp
  obtain ⟨V2, hV2⟩ : ∃ V, V1.alloc (.cells #[.string a, .string b] 9) = V := ⟨_, rfl⟩
  have hB2 : Below V1.heap.size V1 V2 := by rw [← hV2]; exact (Below.refl _ _).alloc (Nat.le_refl _) _
  have hn2 : Blk V2 V1.heap.size 9 [.string a, .string b] := by rw [← hV2]; exact heap_alloc_new V1 _
  have hsr : StrRd V2 V2.heap.size (some ⟨w.heap.size + 1, 0, none⟩) 2 [a, b] := by
    refine ⟨rfl, fun _ => ⟨w.heap.size + 1, 0, rfl, by have := Blk.lt hn2; omega, fun i s hs => ?_⟩⟩
    rw [z1] at hn2
    match i, hs with
    | 0, hs => rw [show s = a from by simpa using hs.symm]; exact hn2.cell 0
    | 1, hs => rw [show s = b from by simpa using hs.symm]; exact hn2.cell 1
    | i + 2, hs => simp at hs
  have J := joined_any (some ⟨w.heap.size + 1, 0, none⟩) 2 2 V2.heap.size [a, b] V2 hsr (Nat.le_refl _) (by intro s hs; simp at hs; rcases hs with rfl | rfl <;> assumption) (by omega)
  have C : Hid (Calls Try.prog 49 #[.slice (some ⟨w.heap.size + 1, 0, none⟩) 2 2] V2 fun e w3 => ∃ D k d, e = .returned (.slice D k d) ∧ w.heap.size < w3.heap.size ∧ Blk w3 w.heap.size 38 [.int .i64 0, .int .i64 0, .slice none 0 0] ∧
      ∀ W', w3.grownBy W' (some w.heap.size) → PktR w 1 id (jnL [a, b]) 0 (.returned (.tuple #[.agg #[.int .i64 1, .int .i64 id, .slice D k d], .int .i64 0])) W') := by
    refine J.mono ?_
    rintro e w3 ⟨D, k, d, rfl, ho, hb3⟩
    have z2 := hB2.size
    have z3 := hb3.size
    refine ⟨D, k, d, rfl, by omega, (hb3.block _ (by omega)).trans ((hB2.block _ (by omega)).trans hn1), fun W' g => ⟨((hB1.trans (hB2.mono (by omega))).trans (hb3.mono (by omega))).grown g (by omega) (fun q e => by cases e; exact Nat.le_refl _), D, k, d, rfl, ?_⟩⟩
    have hne : (Value.slice D k d).ownBlock = none ∨ (Value.slice D k d).ownBlock ≠ some w.heap.size := by
      rcases ho.form with ⟨e, _⟩ | ⟨g', cap, e, h2, _⟩
      · rw [e]; exact .inl rfl
      · rw [e]; refine .inr fun e2 => ?_
        simp [Value.ownBlock] at e2; omega
    have h4 := ho.grown g hne
    refine ⟨h4.1, ?_⟩
    rcases h4.2 with h | ⟨g', cap, cur, e1, e2, e3⟩
    · exact .inl h
    · exact .inr ⟨g', cap, cur, e1, by omega, e3⟩
  have HV1 := Lib.hid hV1
  have HV2 := Lib.hid hV2
  have s1 : ¬ (255 : Int) < (a.size : Int) := by omega
  have s2 : ¬ (255 : Int) < (b.size : Int) := by omega
  have ID := Lib.hid (fun W => idRight_any id W)
  rw [hid] at ID
  clear J hsr hn1 hn2 hB1 hB2 hV1 hV2 hid
  go_enter Try.func35, Try.ntmps35
  go_wp2_with (first
    | (rw [HV1.out])
    | (rw [HV2.out])
    | (go_at_call 48; ((with_reducible refine (ID.out _).mono ?_); rintro e w' ⟨rfl, rfl⟩))
    | (go_at_call 49; ((with_reducible refine C.out.mono ?_); rintro e w3 ⟨D, k, d, rfl, z3, b2, c9⟩; have r0 := b2.cell 0; have r1 := b2.cell 1; have r2 := b2.cell 2; have g0 := b2.frozen 0; have g1 := b2.frozen 1; have g2 := b2.frozen 2; have C9 := Lib.hid c9; have B2 := Lib.hid b2; clear c9 b2)))
  have hb4 := blk3 (x := .int .i64 1) (y := .int .i64 id) (z := .slice D k d) B2.out
  have y0 := hb4.cell 0
  have y1 := hb4.cell 1
  have y2 := hb4.cell 2
  exact bodyPost_ret (v := .tuple #[.agg #[.int .i64 1, .int .i64 id, .slice D k d], .int .i64 0]) (by simp [results, Try.results35, go_sem, y0, y1, y2]) rfl (C9.out _ (gset3 _ _ _ _ _))
end Go.Proofs.Ytglboagjmbjehaa
