/-
  What is held is short; what is counted.
  tetherlaw03.known is true.
-/
import Derived.Test.YtmdlpbgelgeiaaaDoorHdIt
import Derived.Test.YtmdlpbgelgeiaaaDoorHdFeedW
namespace Go.Proofs.YtmdlpbgelgeiaaaDoor
open Go.RowKit
set_option maxRecDepth 100000
set_option maxHeartbeats 2000000
set_option linter.unusedSimpArgs false
set_option linter.unusedVariables false

theorem stp1_held (a : Int) (M : Nat) (p q : Bool) (s : LSt) (c : UInt8) (h : s.held.length ≤ M + 1) : (stp1 a M p q s c).held.length ≤ M + 1 := by
  unfold stp1
  split
  · exact h
  · split
    · have e : (endS M p q s).held = [] := by
        unfold endS
        split
        · rfl
        · split
          · rfl
          · split
            · rfl
            · split
              · rfl
              · unfold jdS
                split
                · rfl
                · split <;> rfl
      rw [e]; simp
    · unfold tkS
      split
      · exact h
      · exact addL_le M _ _ h
theorem pI_len (l : List UInt8) : (pI l).length ≤ l.length := by
  unfold pI sL
  rw [List.length_drop]
  split
  · rw [List.length_drop]; omega
  · omega
theorem frs_bytes (a : Int) (M : Nat) (p q : Bool) : ∀ (l : List UInt8) (s : LSt), s.held.length ≤ M + 1 → ∀ o ∈ frs a M p q s l, o.2.length ≤ M + 1
  | [], s, _, o, ho => by simp [frs] at ho
  | c :: l, s, h, o, ho => by
    have ho' : o ∈ out1 a M p q s c ++ frs a M p q (stp1 a M p q s c) l := ho
    rcases List.mem_append.1 ho' with h1 | h1
    · unfold out1 at h1
      split at h1
      · simp at h1
        subst h1
        have := pI_len (s.held.take (s.held.length - 2))
        rw [List.length_take] at this
        show (frI s.held).length ≤ _
        unfold frI
        omega
      · simp at h1
    · exact frs_bytes a M p q l _ (stp1_held a M p q s c h) o h1
def cntV (s : LSt) : Value := .agg #[.int .i64 s.fr, .int .i64 s.ru, .int .i64 s.gi, .int .i64 s.su, .int .i64 s.ab, .int .i64 s.wr]
theorem ucounts_any (b : Nat) (a : Int) (M : Nat) (p q : Bool) (hv : Value) (s : LSt) (w : World) (h : LnAt w b a M p q hv s) : Calls Tryd.prog 31 #[.pointer (some ⟨b, 0, none⟩)] w fun e w' => e = .returned (cntV s) ∧ Below w.heap.size w w' := by
  have c2 : w.cell? ⟨b, 262, none⟩ = some (.int .i64 s.fr) := h.cell 6
  have c3 : w.cell? ⟨b, 263, none⟩ = some (.int .i64 s.ru) := h.cell 7
  have c4 : w.cell? ⟨b, 264, none⟩ = some (.int .i64 s.gi) := h.cell 8
  have c5 : w.cell? ⟨b, 265, none⟩ = some (.int .i64 s.su) := h.cell 9
  have c6 : w.cell? ⟨b, 266, none⟩ = some (.int .i64 s.ab) := h.cell 10
  have c7 : w.cell? ⟨b, 267, none⟩ = some (.int .i64 s.wr) := h.cell 11
  have hb := Blk.lt h.blk
  clear h
  go_enter Tryd.func31, Tryd.ntmps31
  go_wp2
  exact bodyPost_ret (v := cntV s) (by simp [results, Tryd.results31, go_sem, cntV]) rfl ⟨rfl, (Below.refl _ _).alloc (Nat.le_refl _) _⟩

theorem counts_yes (x0 x1 x2 x3 x4 x5 : Int) (w : World) : Calls Tryd.prog 30 #[.agg #[.int .i64 x0, .int .i64 x1, .int .i64 x2, .int .i64 x3, .int .i64 x4, .int .i64 x5], .agg #[.int .i64 x0, .int .i64 x1, .int .i64 x2, .int .i64 x3, .int .i64 x4, .int .i64 x5]] w fun e w' => e = .returned (.bool true) ∧ Below w.heap.size w w' := by
  have hz : ∀ z : Int, (z == z) = true := fun z => by simp
  have hd : ∀ z : Int, decide (z = z) = true := fun z => by simp
  go_enter Tryd.func30, Tryd.ntmps30
  go_wp2
  go_ret
  exact ⟨rfl, ((Below.refl _ _).alloc (Nat.le_refl _) _).alloc (by simp) _⟩

end Go.Proofs.YtmdlpbgelgeiaaaDoor
namespace Go.Proofs.YtmdlpbgelgeiaaaDoor
open Go.RowKit
set_option maxRecDepth 100000
set_option maxHeartbeats 2000000
set_option linter.unusedSimpArgs false
set_option linter.unusedVariables false

def knB : List UInt8 := [0x7e, 0xff, 0x7d, 0x23, 0xc0, 0x21, 0x7d, 0x21, 0x7d, 0x21, 0x7d, 0x20, 0x7d, 0x24, 0xd1, 0xb5, 0x7e]
theorem knB_enc : encL 49185 0 false false [1, 1, 0, 4] = knB := by decide +kernel
theorem knB_frs : frs 0 1506 true true st0 knB = [(49185, [1, 1, 0, 4])] := by decide +kernel
theorem knB_hex : hexS knB = [55, 101, 102, 102, 55, 100, 50, 51, 99, 48, 50, 49, 55, 100, 50, 49, 55, 100, 50, 49, 55, 100, 50, 48, 55, 100, 50, 52, 100, 49, 98, 53, 55, 101] := by decide +kernel
theorem kn_bodyE : bodyE 49185 4 0 = 0 := by decide +kernel
theorem kn_new : newB 1500 0 = true := by decide +kernel
theorem fl_one {W : World} {base : Nat} {v : Value} {P : Int} {I : List UInt8} {L : Nat → Prop} (h : FL W base v [(P, I)] L) (hm : I.length ≤ 140737488351232) :
    ∃ g c E k d, v = .slice (some ⟨g, 0, none⟩) 1 c ∧ g < W.heap.size ∧ W.cell? ⟨g, 0, none⟩ = some (.int .i64 P) ∧ W.cell? ⟨g, 1, none⟩ = some (.slice E k d) ∧ k = I.length ∧ 1 ≤ c := by
  obtain ⟨A, c, hv, hrd, _, hc⟩ := h.own.rd (by intro o ho; simp at ho; subst ho; exact hm)
  obtain ⟨g, off, e, hlt, hcell⟩ := hrd.2 (by simp)
  obtain ⟨h1, E, k, d, h2, h3, _⟩ := hcell 0 (by simp)
  have hoff : off = 0 := by
    obtain ⟨cs, y1, _⟩ := h.own
    rcases y1.2 with ⟨e2, _⟩ | ⟨g2, cap, cur, e2, _⟩
    · rw [hv, e] at e2; cases e2
    · rw [hv, e] at e2
      injection e2 with e3
      injection e3 with e3
      injection e3
  subst hoff
  exact ⟨g, c, E, k, d, by rw [hv, e]; rfl, hlt, h1, h2, h3.1.symm, by simpa using hc⟩
/-- what lay ahead of a line is as it was -/
theorem Trn.toBelow {b : Nat} {h1 h2 : Value} {A B : World} (h : Trn b h1 h2 A B) (n : Nat) (hn : n ≤ A.heap.size) (hb : n ≤ b) (ho : ∀ g, h1.ownBlock = some g → n ≤ g) : Below n A B :=
  ⟨h.os, h.tape, h.output, h.size, fun i hi => h.block i (by omega) (by omega) (fun e => by have := ho i e; omega)⟩
theorem tab_lt {w : World} (h : Tab16 w) : 0 < w.heap.size := World.block_lt_of_cell? _ _ (h 0 (by omega))
theorem known_any (w : World) (hT : Tab16 w) : Calls Tryd.prog 21 #[] w fun e w' => e = .returned (.bool true) ∧ Below w.heap.size w w' := by
  obtain ⟨W1, hW1⟩ : ∃ W1, w.alloc (.cells #[.int .u8 1, .int .u8 1, .int .u8 0, .int .u8 4] 5) = W1 := ⟨_, rfl⟩
  have s1 : W1.heap.size = w.heap.size + 1 := by rw [← hW1]; simp
  have b1 : Below w.heap.size w W1 := by rw [← hW1]; exact (Below.refl _ _).alloc (Nat.le_refl _) _
  have r1 : Rd W1 W1.heap.size (some ⟨w.heap.size, 0, none⟩) 4 [1, 1, 0, 4] := by
    rw [s1, ← hW1]; exact rd_built w [1, 1, 0, 4] (0, 0)
  have EC : Hid (Calls Tryd.prog 11 #[.agg #[.int .i64 49185, .slice (some ⟨w.heap.size, 0, none⟩) 4 4], .agg #[.int .i64 0, .bool false, .bool false]] W1 fun e w2 => ∃ A n c, e = .returned (.tuple #[.slice A n c, .int .i64 0]) ∧
      Hid (Calls Tryd.prog 25 #[.int .i64 1500, .int .i64 0, .bool true, .bool true] w2 fun e w3 => ∃ b, e = .returned (.pointer (some ⟨b, 0, none⟩)) ∧
        Hid (Calls Tryd.prog 28 #[.pointer (some ⟨b, 0, none⟩), .slice A n c] w3 fun e w4 => ∃ g c4, e = .returned (.slice (some ⟨g, 0, none⟩) 1 c4) ∧
          Hid (Calls Tryd.prog 42 #[.slice A n c] w4 fun e w5 => e = .returned (.string ⟨(hexS knB).toArray⟩) ∧ ∃ E d, w5.cell? ⟨g, 0, none⟩ = some (.int .i64 49185) ∧ w5.cell? ⟨g, 1, none⟩ = some (.slice E 4 d) ∧ 1 ≤ c4 ∧ Hid (Below w.heap.size w w5))))) := by
    refine (encode_ok 49185 (some ⟨w.heap.size, 0, none⟩) 4 4 W1.heap.size [1, 1, 0, 4] 0 false false W1 r1 (Nat.le_refl _) (by simp) (Nat.le_refl _) kn_bodyE (hT.kept b1)).mono ?_
    rintro e w2 ⟨v, rfl, ho2, hb2⟩
    rw [knB_enc] at ho2
    obtain ⟨A, n, c, rfl, hn, hc, hnil⟩ : ∃ A n c, v = .slice A n c ∧ n = 17 ∧ n ≤ c ∧ (A = none → c = 0) := by
      rcases ho2.form with ⟨e, e2⟩ | ⟨g, cap, e, _, _, hc⟩
      · cases e2
      · exact ⟨_, _, _, e, rfl, hc, by simp⟩
    have sz2 := hb2.size
    have B2 : Below w.heap.size w w2 := b1.trans (hb2.mono (by omega))
    refine ⟨A, n, c, rfl, ?_⟩
    refine (new_yes 1500 0 true true w2 kn_new).mono ?_
    rintro e w3 ⟨b, M, rfl, hb3, hM, hM2, hL3, hB3⟩
    obtain rfl : M = 1506 := by omega
    refine ⟨b, rfl, ?_⟩
    have sz3 := hB3.size
    have B3 : Below w.heap.size w w3 := B2.trans (hB3.mono (by omega))
    have ho3 := ho2.later hB3
    have hblk : ∀ g o s, A = some ⟨g, o, s⟩ → g < w2.heap.size := fun g o s e => by
      subst e
      exact (ho2.block g rfl).2
    have hrd3 : Rd w3 w3.heap.size A n knB := by
      have := ho3.rdAllF
      exact this
    have T3 := hT.kept B3
    have h0 := tab_lt hT
    refine (feed_any b 0 1506 true true (by omega) st0 (.slice none 0 0) A n c knB w3 hL3 hrd3 hc (by omega) T3 (by omega) (fun _ g o s e => ⟨by have := hblk g o s e; omega, by simp [Value.ownBlock]⟩)).mono ?_
    rintro e w4 ⟨v4, hv4, L, rfl, hf4, _, _, ht4⟩
    rw [knB_frs] at hf4
    obtain ⟨g, c4, E, k, d, rfl, hg, q0, q1, hk, hc4⟩ := fl_one hf4 (by simp)
    have hk4 : k = 4 := hk
    subst hk4
    refine ⟨g, c4, rfl, ?_⟩
    have B4 : Below w.heap.size w w4 := B3.trans (ht4.toBelow w.heap.size (by omega) (by omega) (fun g e => by cases e))
    have hrd4 : Rd w4 w4.heap.size A n knB := by
      refine ⟨hrd3.1, fun h0 => ?_⟩
      obtain ⟨g', o', e', hlt, hcell⟩ := hrd3.2 h0
      have hlt2 := hblk g' o' none e'
      exact ⟨g', o', e', by have := ht4.size; omega, fun j hj => (World.cell?_of_block (a := ⟨g', o' + j, none⟩) (ht4.block g' (by omega) (by omega) (by simp [Value.ownBlock]))).trans (hcell j hj)⟩
    refine (rhex_any A n c knB w4 hrd4 hc (by omega)).mono ?_
    rintro e w5 ⟨rfl, hb5⟩
    exact ⟨rfl, E, d, (hb5.cell (p := ⟨g, 0, none⟩) hg).trans q0, (hb5.cell (p := ⟨g, 1, none⟩) hg).trans q1, hc4, B4.trans (hb5.mono (by have := ht4.size; omega))⟩
  rw [knB_hex] at EC
  have HW1 := Lib.hid hW1
  clear hW1 s1 b1 r1 hT
  go_enter Tryd.func21, Tryd.ntmps21
  go_wp2_with (first
    | (rw [HW1.out])
    | (go_at_call 11; refine EC.out.mono ?_; rintro e w2 ⟨A, n, c, rfl, NC⟩)
    | (go_at_call 25; refine NC.out.mono ?_; rintro e w3 ⟨b, rfl, FC⟩)
    | (go_at_call 28; refine FC.out.mono ?_; rintro e w4 ⟨g, c4, rfl, HC⟩)
    | (go_at_call 42; refine HC.out.mono ?_; rintro e w5 ⟨rfl, E, d, q0, q1, hc4, HB⟩))
  go_ret
  exact ⟨rfl, HB.out⟩
end Go.Proofs.YtmdlpbgelgeiaaaDoor
