/-
  tetherlaw03.HdlcParses.
-/
import Derived.Test.YtmdlpbgelgeiaaaDoorHdRParse
import Derived.Test.YtmdlpbgelgeiaaaDoorHdSameF
import Derived.Test.YtmdlpbgelgeiaaaDoorHdKnown
import Derived.Test.YtmdlpbgelgeiaaaDoorLent
import Derived.Test.YtmdlpbgelgeiaaaDoorKept
import Derived.Test.YtmdlpbgelgeiaaaDoorSpoilB
namespace Go.Proofs.YtmdlpbgelgeiaaaDoor
open Go.RowKit
set_option maxRecDepth 100000
set_option maxHeartbeats 2000000
set_option linter.unusedSimpArgs false
set_option linter.unusedVariables false

theorem frm_one {W : World} {B g : Nat} {P : Int} {E : Option Addr} {k c : Nat} {l : List UInt8} (h : Blk W g 24 [.int .i64 P, .slice E k c]) (hg : g < B) (hr : Rd W B E k l) (hE : E = none → c = 0) (hkc : k ≤ c) (hk : k ≤ 140737488351232) : FrmRd W B (some ⟨g, 0, none⟩) 1 [(P, l)] := by
  refine ⟨rfl, fun _ => ⟨g, 0, rfl, hg, fun i hi => ?_⟩⟩
  have : i = 0 := by simp at hi; omega
  subst this
  exact ⟨h.cell 0, E, k, c, h.cell 1, hr, hE, hkc, hk⟩
/-- what Parse answers, as one frame -/
def prP (l : List UInt8) (pfc acfc : Bool) : Int := if pE l pfc acfc = 0 then pP l else 0
def prL (l : List UInt8) (pfc acfc : Bool) : List UInt8 := if pE l pfc acfc = 0 then pI l else []
theorem prL_len (l : List UInt8) (pfc acfc : Bool) : (prL l pfc acfc).length ≤ l.length := by
  unfold prL
  split
  · unfold pI sL
    rw [List.length_drop]
    split
    · rw [List.length_drop]; omega
    · omega
  · simp
theorem PrsR.form {w W : World} {v : Value} {l : List UInt8} {pfc acfc : Bool} (h : PrsR w W v l pfc acfc) : ∃ A m c, v = .agg #[.int .i64 (prP l pfc acfc), .slice A m c] ∧ Own W w.heap.size (.slice A m c) (prL l pfc acfc) := by
  unfold PrsR at h
  unfold prP prL
  by_cases he : pE l pfc acfc = 0
  · rw [if_pos he] at h
    rw [if_pos he, if_pos he]
    obtain ⟨A, m, c, e, _, o⟩ := h
    exact ⟨A, m, c, e, o⟩
  · rw [if_neg he] at h
    rw [if_neg he, if_neg he]
    exact ⟨none, 0, 0, h, Own.nil _ _⟩
/-- the law's calls, one behind the other -/
def PaC (w : World) (A : Option Addr) (n c : Nat) (l : List UInt8) (pfc acfc : Bool) (P E : Int) : Prop :=
  Calls Tryd.prog 10 #[.slice A n c] w fun e w1 => ∃ g cap, e = .returned (.slice (some ⟨g, 0, none⟩) n cap) ∧
    Hid (Calls Tryd.prog 22 #[.slice (some ⟨g, 0, none⟩) n cap, .bool pfc, .bool acfc] w1 fun e w2 => ∃ A2 m2 c2, e = .returned (.tuple #[.agg #[.int .i64 P, .slice A2 m2 c2], .int .i64 E]) ∧
      ∃ w3, Hid (w2.alloc (.cells #[.int .i64 P, .slice A2 m2 c2] 24) = w3) ∧
      Hid (Calls Tryd.prog 23 #[.slice A n c, .bool pfc, .bool acfc] w3 fun e w4 => ∃ A4 m4 c4, e = .returned (.tuple #[.agg #[.int .i64 P, .slice A4 m4 c4], .int .i64 E]) ∧
        ∃ w5, Hid (w4.alloc (.cells #[.int .i64 P, .slice A4 m4 c4] 24) = w5) ∧ (w5.cell? ⟨w2.heap.size, 0, none⟩ = some (.int .i64 P) ∧ w5.cell? ⟨w2.heap.size, 1, none⟩ = some (.slice A2 m2 c2) ∧ w5.cell? ⟨w4.heap.size, 0, none⟩ = some (.int .i64 P) ∧ w5.cell? ⟨w4.heap.size, 1, none⟩ = some (.slice A4 m4 c4)) ∧
        ∃ w6, Hid (w5.alloc (.cells #[.int .i64 P, .slice A2 m2 c2] 24) = w6) ∧ (w6.cell? ⟨w4.heap.size, 0, none⟩ = some (.int .i64 P) ∧ w6.cell? ⟨w4.heap.size, 1, none⟩ = some (.slice A4 m4 c4)) ∧
        ∃ w7, Hid (w6.alloc (.cells #[.int .i64 P, .slice A4 m4 c4] 24) = w7) ∧
        Hid (Calls Tryd.prog 24 #[.slice (some ⟨w5.heap.size, 0, none⟩) 1 1, .slice (some ⟨w6.heap.size, 0, none⟩) 1 1] w7 fun e w8 => e = .returned (.bool true) ∧ w8.cell? ⟨w2.heap.size, 1, none⟩ = some (.slice A2 m2 c2) ∧
          Hid (Calls Tryd.prog 19 #[.slice A2 m2 c2] w8 fun e w9 => e = .returned (.tuple #[]) ∧
            Hid (Calls Tryd.prog 20 #[.slice (some ⟨g, 0, none⟩) n cap, .slice A n c] w9 fun e w10 => e = .returned (.bool true) ∧
              Hid (Calls Tryd.prog 21 #[] w10 fun e w11 => e = .returned (.bool true) ∧ Hid (Below w.heap.size w w11)))))))
theorem pa_c (w : World) (A : Option Addr) (n c : Nat) (l : List UInt8) (pfc acfc : Bool) (hr : Rd w w.heap.size A n l) (hA : A = none → c = 0) (hnc : n ≤ c) (hn : n ≤ 140737488351232) (hT : Tab16 w) : PaC w A n c l pfc acfc (prP l pfc acfc) (pE l pfc acfc) := by
  have hl := hr.1
  have hpl := prL_len l pfc acfc
  unfold PaC
  refine (lent_any A n c l w hr hA hn).mono ?_
  rintro e w1 ⟨g, cap, rfl, o1, b1⟩
  have hlen : n + 1 = (l ++ [77]).length := by simp [hl]
  have hcap : n + 1 ≤ cap := by
    rcases o1.form with ⟨e, _⟩ | ⟨g', cap', e, _, _, h⟩
    · cases e
    · injection e with e1 e2 e3
      omega
  have rg := o1.rd hlen n (by omega)
  rw [List.take_append_of_le_length (by omega), List.take_of_length_le (by omega)] at rg
  have hgb := o1.block g rfl
  refine ⟨g, cap, rfl, Lib.hid ?_⟩
  refine (parse_any (some ⟨g, 0, none⟩) n cap w1.heap.size l pfc acfc w1 rg (Nat.le_refl _) (by omega) (fun e => by cases e) (by omega)).mono ?_
  rintro e w2 ⟨v2, rfl, p2, b2⟩
  obtain ⟨A2, m2, c2, rfl, o2⟩ := p2.form
  have t1 := b1.size
  have t2 := b2.size
  have C2 := b1.trans (b2.mono t1)
  obtain ⟨w3, hw3⟩ : ∃ V, w2.alloc (.cells #[.int .i64 (prP l pfc acfc), .slice A2 m2 c2] 24) = V := ⟨_, rfl⟩
  have k3 : Blk w3 w2.heap.size 24 [.int .i64 (prP l pfc acfc), .slice A2 m2 c2] := by rw [← hw3]; exact blk_new w2 _ _
  have b3 : Below w2.heap.size w2 w3 := by rw [← hw3]; exact (Below.refl _ _).alloc (Nat.le_refl _) _
  have t3 : w3.heap.size = w2.heap.size + 1 := by rw [← hw3]; simp
  refine ⟨A2, m2, c2, rfl, w3, Lib.hid hw3, Lib.hid ?_⟩
  have C3 := C2.trans (b3.mono (by omega))
  refine (rparse_any A n c w.heap.size l pfc acfc w3 (hr.below C3) C3.size hnc hA (by omega)).mono ?_
  rintro e w4 ⟨v4, rfl, p4, b4⟩
  obtain ⟨A4, m4, c4, rfl, o4⟩ := p4.form
  have t4 := b4.size
  have C4 := C3.trans (b4.mono (by omega))
  obtain ⟨w5, hw5⟩ : ∃ V, w4.alloc (.cells #[.int .i64 (prP l pfc acfc), .slice A4 m4 c4] 24) = V := ⟨_, rfl⟩
  have k5 : Blk w5 w4.heap.size 24 [.int .i64 (prP l pfc acfc), .slice A4 m4 c4] := by rw [← hw5]; exact blk_new w4 _ _
  have b5 : Below w4.heap.size w4 w5 := by rw [← hw5]; exact (Below.refl _ _).alloc (Nat.le_refl _) _
  have t5 : w5.heap.size = w4.heap.size + 1 := by rw [← hw5]; simp
  have b35 : Below w3.heap.size w3 w5 := b4.trans (b5.mono (by omega))
  have k35 : Blk w5 w2.heap.size 24 [.int .i64 (prP l pfc acfc), .slice A2 m2 c2] := (b35.block _ (by omega)).trans k3
  refine ⟨A4, m4, c4, rfl, w5, Lib.hid hw5, ⟨k35.cell 0, k35.cell 1, k5.cell 0, k5.cell 1⟩, ?_⟩
  obtain ⟨w6, hw6⟩ : ∃ V, w5.alloc (.cells #[.int .i64 (prP l pfc acfc), .slice A2 m2 c2] 24) = V := ⟨_, rfl⟩
  have k6 : Blk w6 w5.heap.size 24 [.int .i64 (prP l pfc acfc), .slice A2 m2 c2] := by rw [← hw6]; exact blk_new w5 _ _
  have b6 : Below w5.heap.size w5 w6 := by rw [← hw6]; exact (Below.refl _ _).alloc (Nat.le_refl _) _
  have t6 : w6.heap.size = w5.heap.size + 1 := by rw [← hw6]; simp
  have k56 : Blk w6 w4.heap.size 24 [.int .i64 (prP l pfc acfc), .slice A4 m4 c4] := (b6.block _ (by omega)).trans k5
  refine ⟨w6, Lib.hid hw6, ⟨k56.cell 0, k56.cell 1⟩, ?_⟩
  obtain ⟨w7, hw7⟩ : ∃ V, w6.alloc (.cells #[.int .i64 (prP l pfc acfc), .slice A4 m4 c4] 24) = V := ⟨_, rfl⟩
  have k7 : Blk w7 w6.heap.size 24 [.int .i64 (prP l pfc acfc), .slice A4 m4 c4] := by rw [← hw7]; exact blk_new w6 _ _
  have b7 : Below w6.heap.size w6 w7 := by rw [← hw7]; exact (Below.refl _ _).alloc (Nat.le_refl _) _
  have t7 : w7.heap.size = w6.heap.size + 1 := by rw [← hw7]; simp
  refine ⟨w7, Lib.hid hw7, Lib.hid ?_⟩
  have b57 : Below w5.heap.size w5 w7 := b6.trans (b7.mono (by omega))
  have b47 : Below w4.heap.size w4 w7 := b5.trans (b57.mono (by omega))
  have b37 : Below w3.heap.size w3 w7 := b4.trans (b47.mono (by omega))
  have b27 : Below w2.heap.size w2 w7 := b3.trans (b37.mono (by omega))
  have b17 : Below w1.heap.size w1 w7 := b2.trans (b27.mono (by omega))
  have C7 := b1.trans (b17.mono (by omega))
  have o27 := o2.later b27
  have o47 := o4.later b47
  have k67 : Blk w7 w5.heap.size 24 [.int .i64 (prP l pfc acfc), .slice A2 m2 c2] := (b7.block _ (by omega)).trans k6
  have k37 : Blk w7 w2.heap.size 24 [.int .i64 (prP l pfc acfc), .slice A2 m2 c2] := (b57.block _ (by omega)).trans k35
  obtain ⟨f1, f2, f3⟩ := o27.lenF
  obtain ⟨f4, f5, f6⟩ := o47.lenF
  have R2 := frm_one k67 (by omega) o27.rdAllF f2 f3 (by omega)
  have R4 := frm_one k7 (by omega) o47.rdAllF f5 f6 (by omega)
  refine (sameframes_any _ _ 1 1 1 1 w7.heap.size _ _ w7 R2 R4 (by omega) (by omega)).mono ?_
  rintro e w8 ⟨rfl, q, rfl⟩
  refine ⟨by rw [decide_eq_true rfl], k37.cell 1, Lib.hid ?_⟩
  refine (spoil_own _ w1.heap.size _ (w7.drewN q) (o27.drewN q) (by show _ ≤ w7.heap.size; omega) (by omega)).mono ?_
  rintro e w9 ⟨rfl, g9⟩
  refine ⟨rfl, Lib.hid ?_⟩
  have h9 : ∀ p, (Value.slice A2 m2 c2).ownBlock = some p → w1.heap.size ≤ p := fun p hp => (o27.block p hp).1
  have g9' : w7.grownBy w9 (Value.slice A2 m2 c2).ownBlock := ⟨g9.os, g9.tape, g9.output, g9.size, g9.block⟩
  have C9 : Below w.heap.size w w9 := C7.grown g9' (by omega) (fun p hp => by have := h9 p hp; omega)
  have o9 := (o1.later b17).grown g9' (by
    rcases hv : (Value.slice A2 m2 c2).ownBlock with _ | p
    · exact .inr (by simp [Value.ownBlock])
    · refine .inr (fun e => ?_)
      simp only [Value.ownBlock, Option.some.injEq] at e
      have := h9 p hv
      omega)
  refine (kept_any A g n c cap w.heap.size w.heap.size l w9 o9 (hr.below C9) hn).mono ?_
  rintro e w10 ⟨rfl, q2, rfl⟩
  refine ⟨rfl, Lib.hid ?_⟩
  have C10 : Below w.heap.size w (w9.drewN q2) := below_drewN C9 q2
  refine (known_any (w9.drewN q2) (hT.kept C10)).mono ?_
  rintro e w11 ⟨rfl, b11⟩
  exact ⟨rfl, Lib.hid (C10.trans (b11.mono C10.size))⟩
theorem parses_walk (A : Option Addr) (n c : Nat) (l : List UInt8) (pfc acfc : Bool) (w : World) (hr : Rd w w.heap.size A n l) (hA : A = none → c = 0) (hnc : n ≤ c) (hn : n ≤ 140737488351232) (hT : Tab16 w) :
    Calls Tryd.prog 4 #[.slice A n c, .bool pfc, .bool acfc] w fun e w' => e = .returned (.bool true) ∧ Below w.heap.size w w' := by
  have LC := Lib.hid (pa_c w A n c l pfc acfc hr hA hnc hn hT)
  obtain ⟨P, hP⟩ : ∃ P, P = prP l pfc acfc := ⟨_, rfl⟩
  obtain ⟨E, hE⟩ : ∃ E, E = pE l pfc acfc := ⟨_, rfl⟩
  rw [← hP, ← hE] at LC
  have hne : (E != E) = false := by simp
  unfold PaC at LC
  clear hr hA hnc hn hT hP hE
  go_enter Tryd.func4, Tryd.ntmps4
  go_wp2_with (first
    | (go_at_call 10; refine LC.out.mono ?_; rintro e w1 ⟨g, cap, rfl, PC⟩)
    | (go_at_call 22; refine PC.out.mono ?_; rintro e w2 ⟨A2, m2, c2, rfl, w3, H3, RC⟩)
    | (rw [H3.out])
    | (go_at_call 23; refine RC.out.mono ?_; rintro e w4 ⟨A4, m4, c4, rfl, w5, H5, ⟨x0, x1, y0, y1⟩, w6, H6, ⟨z0, z1⟩, w7, H7, SC⟩)
    | (rw [H5.out])
    | (rw [H6.out])
    | (rw [H7.out])
    | (go_at_call 24; refine SC.out.mono ?_; rintro e w8 ⟨rfl, u1, PO⟩)
    | (go_at_call 19; refine PO.out.mono ?_; rintro e w9 ⟨rfl, KC⟩)
    | (go_at_call 20; refine KC.out.mono ?_; rintro e w10 ⟨rfl, NC⟩)
    | (go_at_call 21; refine NC.out.mono ?_; rintro e w11 ⟨rfl, HB⟩))
  go_ret
  exact ⟨rfl, HB.out⟩
end Go.Proofs.YtmdlpbgelgeiaaaDoor
