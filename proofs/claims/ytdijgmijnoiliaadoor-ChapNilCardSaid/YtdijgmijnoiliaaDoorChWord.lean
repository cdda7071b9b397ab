/-
  chap: among, what it finds; secret.Find; (finder).word.
-/
import Derived.Test.YtdijgmijnoiliaaDoorChMake
import Derived.Test.YtdijgmijnoiliaaDoorSeTab
import Derived.Deep.QuietTactic
import Derived.BigQuiet
namespace Go.Proofs.YtdijgmijnoiliaaDoor
open Go.RowKit Go.Shelf
set_option maxRecDepth 100000
set_option maxHeartbeats 1000000
set_option linter.unusedSimpArgs false
set_option linter.unusedVariables false

theorem sfind_any (A : Option Addr) (n c B : Nat) (ss : List Sec) (cl sv : ByteArray) (w : World) (h : SecRd w B A n ss) (hB : B ≤ w.heap.size) (hcl : cl.size ≤ maxLen) (hsv : sv.size ≤ maxLen) :
    Calls Tryd.prog 49 #[.slice A n c, .string cl, .string sv] w (BestR w ss (bst ss cl sv)) := by
  obtain ⟨V, hV⟩ : ∃ V, w.alloc (.cells #[.string ⟨#[]⟩, .string ⟨#[]⟩, .string ⟨#[]⟩, .slice none 0 0] 44) = V := ⟨_, rfl⟩
  have hBV : Below w.heap.size w V := by rw [← hV]; exact (Below.refl _ _).alloc (Nat.le_refl _) _
  have hnew : Blk V w.heap.size 44 [.string ⟨#[]⟩, .string ⟨#[]⟩, .string ⟨#[]⟩, .slice none 0 0] := by rw [← hV]; exact heap_alloc_new w _
  obtain ⟨o, ho⟩ : ∃ o, bst ss cl sv = o := ⟨_, rfl⟩
  have C : Hid (Calls Tryd.prog 57 #[.slice A n c] V fun e w2 => ∃ mb, e = .returned (.map (some mb)) ∧ Calls Tryd.prog 63 #[.slice A n c, .map (some mb), .string cl, .string sv] w2 fun e w3 => ∃ a1 a2 a3 a4 b, e = .returned (.tuple #[.agg #[a1, a2, a3, a4], .bool b]) ∧ w.heap.size < w3.heap.size ∧ Blk w3 w.heap.size 44 [.string ⟨#[]⟩, .string ⟨#[]⟩, .string ⟨#[]⟩, .slice none 0 0] ∧ (∃ s1 s2 s3 E m k, a1 = .string s1 ∧ a2 = .string s2 ∧ a3 = .string s3 ∧ a4 = .slice E m k) ∧
      ∀ W', w3.grownBy W' (some w.heap.size) → BestR w ss o (.returned (.tuple #[.agg #[a1, a2, a3, a4], .bool b])) W') := by
    refine (firsts_any A n c B ss V (h.below hBV hB) (Nat.le_trans hB hBV.size)).mono ?_
    rintro e w2 ⟨rfl, hM, b2⟩
    refine ⟨_, rfl, ?_⟩
    have z1 := hBV.size
    have z2 := b2.size
    have BE := best_any A n c B V.heap.size n ss cl sv w2 ((h.below hBV hB).below b2 (Nat.le_trans hB z1)) hM (by omega) hcl hsv
    rw [ho] at BE
    refine BE.mono ?_
    rintro e w3 ⟨b3, hr⟩
    have z3 := b3.size
    have B3 : Below w.heap.size w w3 := (hBV.trans (b2.mono z1)).trans (b3.mono (by omega))
    have hl := Blk.lt hnew
    have hb3 : Blk w3 w.heap.size 44 _ := (b3.block _ (by omega)).trans ((b2.block _ hl).trans hnew)
    have fin : ∀ W', w3.grownBy W' (some w.heap.size) → Below w.heap.size w W' := fun W' g => B3.grown g B3.size (fun q e => by cases e; exact Nat.le_refl _)
    cases o with
    | none =>
      have he : e = .returned (.tuple #[.agg #[.string ⟨#[]⟩, .string ⟨#[]⟩, .string ⟨#[]⟩, .slice none 0 0], .bool false]) := hr
      exact ⟨_, _, _, _, _, he, by omega, hb3, ⟨_, _, _, _, _, _, rfl, rfl, rfl, rfl⟩, fun W' g => ⟨fin W' g, rfl⟩⟩
    | some i =>
      obtain ⟨x, E, m, k, hx, he, ha, hE⟩ := hr
      refine ⟨_, _, _, _, _, he, by omega, hb3, ⟨_, _, _, _, _, _, rfl, rfl, rfl, rfl⟩, fun W' g => ⟨fin W' g, x, E, m, k, hx, rfl, ?_, fun b o s e => ⟨by have := (hE b o s e).1; omega, by have := (hE b o s e).2; have := g.size; omega⟩⟩⟩
      exact (ha.keep (fun b o e => g.block b (hE b o none e).2 (by have := (hE b o none e).1; intro e2; injection e2 with e2; omega))).wide g.size
  have HV := Lib.hid hV
  rw [ho]
  clear h ho hV hBV hcl hsv hnew
  go_enter Tryd.func49, Tryd.ntmps49
  go_wp2_with (first
    | (rw [HV.out])
    | (go_at_call 57; ((with_reducible refine C.out.mono ?_); rintro e w2 ⟨mb, rfl, n1⟩; have C1 := Lib.hid n1; clear n1 C))
    | (go_at_call 63; ((with_reducible refine C1.out.mono ?_); rintro e w3 ⟨a1, a2, a3, a4, b, rfl, z3, b2, ⟨s1, s2, s3, E, m, k, rfl, rfl, rfl, rfl⟩, c9⟩; have r0 := b2.cell 0; have r1 := b2.cell 1; have r2 := b2.cell 2; have r3 := b2.cell 3; have g0 := b2.frozen 0; have g1 := b2.frozen 1; have g2 := b2.frozen 2; have g3 := b2.frozen 3; have C9 := Lib.hid c9; have B2 := Lib.hid b2; clear c9 b2)))
  have hb4 := blk4 (x := .string s1) (y := .string s2) (z := .string s3) (v := .slice E m k) B2.out
  have y0 := hb4.cell 0
  have y1 := hb4.cell 1
  have y2 := hb4.cell 2
  have y3 := hb4.cell 3
  exact bodyPost_ret (v := .tuple #[.agg #[.string s1, .string s2, .string s3, .slice E m k], .bool b]) (by simp [results, Tryd.results49, go_sem, y0, y1, y2, y3]) rfl (C9.out _ (gset4 _ _ _ _ _ _))
theorem among_any (A : Option Addr) (n c : Nat) (w : World) : Calls Tryd.prog 38 #[.slice A n c] w fun e w' => e = .returned (.func (.func 48) #[] #[.pointer (some ⟨w.heap.size, 0, none⟩)]) ∧ w' = w.alloc (.cells #[.slice A n c] 37) := by
  go_enter Tryd.func38, Tryd.ntmps38
  go_wp2
  go_ret
  exact ⟨rfl, rfl⟩
theorem among1_any (b : Nat) (A : Option Addr) (n c B : Nat) (ss : List Sec) (cl sv : ByteArray) (w : World) (hb : Blk w b 37 [.slice A n c]) (h : SecRd w B A n ss) (hB : B ≤ w.heap.size) (hcl : cl.size ≤ maxLen) (hsv : sv.size ≤ maxLen) :
    Calls Tryd.prog 48 #[.string cl, .string sv, .pointer (some ⟨b, 0, none⟩)] w (BestR w ss (bst ss cl sv)) := by
  obtain ⟨V, hV⟩ : ∃ V, w.alloc (.cells #[.string ⟨#[]⟩, .string ⟨#[]⟩, .string ⟨#[]⟩, .slice none 0 0] 44) = V := ⟨_, rfl⟩
  have hBV : Below w.heap.size w V := by rw [← hV]; exact (Below.refl _ _).alloc (Nat.le_refl _) _
  have hnew : Blk V w.heap.size 44 [.string ⟨#[]⟩, .string ⟨#[]⟩, .string ⟨#[]⟩, .slice none 0 0] := by rw [← hV]; exact heap_alloc_new w _
  have hbV := past_same hb hBV
  have c0 := hbV.cell 0
  obtain ⟨o, ho⟩ : ∃ o, bst ss cl sv = o := ⟨_, rfl⟩
  have C : Hid (Calls Tryd.prog 49 #[.slice A n c, .string cl, .string sv] V fun e w3 => ∃ a1 a2 a3 a4 b, e = .returned (.tuple #[.agg #[a1, a2, a3, a4], .bool b]) ∧ w.heap.size < w3.heap.size ∧ Blk w3 w.heap.size 44 [.string ⟨#[]⟩, .string ⟨#[]⟩, .string ⟨#[]⟩, .slice none 0 0] ∧ (∃ s1 s2 s3 E m k, a1 = .string s1 ∧ a2 = .string s2 ∧ a3 = .string s3 ∧ a4 = .slice E m k) ∧
      ∀ W', w3.grownBy W' (some w.heap.size) → BestR w ss o (.returned (.tuple #[.agg #[a1, a2, a3, a4], .bool b])) W') := by
    have F := sfind_any A n c B ss cl sv V (h.below hBV hB) (Nat.le_trans hB hBV.size) hcl hsv
    rw [ho] at F
    refine F.mono ?_
    rintro e w3 ⟨b3, hr⟩
    have z1 := hBV.size
    have z3 := b3.size
    have B3 : Below w.heap.size w w3 := hBV.trans (b3.mono z1)
    have hb3 : Blk w3 w.heap.size 44 _ := past_same hnew b3
    have hl := Blk.lt hnew
    have fin : ∀ W', w3.grownBy W' (some w.heap.size) → Below w.heap.size w W' := fun W' g => B3.grown g B3.size (fun q e => by cases e; exact Nat.le_refl _)
    cases o with
    | none =>
      have he : e = .returned (.tuple #[.agg #[.string ⟨#[]⟩, .string ⟨#[]⟩, .string ⟨#[]⟩, .slice none 0 0], .bool false]) := hr
      exact ⟨_, _, _, _, _, he, by omega, hb3, ⟨_, _, _, _, _, _, rfl, rfl, rfl, rfl⟩, fun W' g => ⟨fin W' g, rfl⟩⟩
    | some i =>
      obtain ⟨x, E, m, k, hx, he, ha, hE⟩ := hr
      refine ⟨_, _, _, _, _, he, by omega, hb3, ⟨_, _, _, _, _, _, rfl, rfl, rfl, rfl⟩, fun W' g => ⟨fin W' g, x, E, m, k, hx, rfl, ?_, fun b o s e => ⟨by have := (hE b o s e).1; omega, by have := (hE b o s e).2; have := g.size; omega⟩⟩⟩
      exact (ha.keep (fun b o e => g.block b (hE b o none e).2 (by have := (hE b o none e).1; intro e2; injection e2 with e2; omega))).wide g.size
  have HV := Lib.hid hV
  rw [ho]
  clear h ho hV hBV hcl hsv hnew hb hbV
  go_enter Tryd.func48, Tryd.ntmps48
  go_wp2_with (first
    | (rw [HV.out])
    | (go_at_call 49; ((with_reducible refine C.out.mono ?_); rintro e w3 ⟨a1, a2, a3, a4, b, rfl, z3, b2, ⟨s1, s2, s3, E, m, k, rfl, rfl, rfl, rfl⟩, c9⟩; have r0 := b2.cell 0; have r1 := b2.cell 1; have r2 := b2.cell 2; have r3 := b2.cell 3; have g0 := b2.frozen 0; have g1 := b2.frozen 1; have g2 := b2.frozen 2; have g3 := b2.frozen 3; have C9 := Lib.hid c9; have B2 := Lib.hid b2; clear c9 b2)))
  have hb4 := blk4 (x := .string s1) (y := .string s2) (z := .string s3) (v := .slice E m k) B2.out
  have y0 := hb4.cell 0
  have y1 := hb4.cell 1
  have y2 := hb4.cell 2
  have y3 := hb4.cell 3
  exact bodyPost_ret (v := .tuple #[.agg #[.string s1, .string s2, .string s3, .slice E m k], .bool b]) (by simp [results, Tryd.results48, go_sem, y0, y1, y2, y3]) rfl (C9.out _ (gset4 _ _ _ _ _ _))
/-- the word of the best line; is there one? -/
def wdS (ss : List Sec) (o : Option Nat) : ByteArray := match o.bind fun i => ss[i]? with | none => ⟨#[]⟩ | some x => x.wd
def wdB (ss : List Sec) (o : Option Nat) : Bool := decide (0 < (wdS ss o).size)
def WordR (w : World) (ss : List Sec) (o : Option Nat) (e : Ending) (w' : World) : Prop := e = .returned (.tuple #[.string (wdS ss o), .bool (wdB ss o)]) ∧ Below w.heap.size w w'
/-- what a finder's word is, whatever finds: what is called answers as Find does -/
theorem bestR_box {w w1 : World} {ss : List Sec} {o : Option Nat} {e : Ending} (h : BestR w ss o e w1) : ∃ s1 s2 E m k b, e = .returned (.tuple #[.agg #[.string s1, .string s2, .string (wdS ss o), .slice E m k], .bool b]) ∧ Below w.heap.size w w1 ∧ (b = false → wdB ss o = false) ∧ (b = true → wdB ss o = !(wdS ss o).toList.isEmpty) := by
  obtain ⟨h1, h2⟩ := h
  cases o with
  | none => exact ⟨_, _, _, _, _, _, h2, h1, fun _ => rfl, fun e => by cases e⟩
  | some i =>
    obtain ⟨x, E, m, k, hx, rfl, _⟩ := h2
    have e : wdS ss (some i) = x.wd := by unfold wdS; simp [hx]
    refine ⟨x.cl, x.sv, E, m, k, true, by rw [e], h1, (fun e => by cases e), fun _ => ?_⟩
    unfold wdB
    rw [e]
    by_cases h0 : x.wd.size = 0
    · rw [str_nil h0]; simp [h0]
    · rw [str_ne (by omega)]; simp; omega
theorem word_cl (b : Nat) (A : Option Addr) (n c B : Nat) (ss : List Sec) (cl sv : ByteArray) (w : World) (hb : Blk w b 37 [.slice A n c]) (h : SecRd w B A n ss) (hB : B ≤ w.heap.size) (hcl : cl.size ≤ maxLen) (hsv : sv.size ≤ maxLen) :
    Calls Tryd.prog 60 #[.func (.func 48) #[] #[.pointer (some ⟨b, 0, none⟩)], .string cl, .string sv] w (WordR w ss (bst ss cl sv)) := by
  obtain ⟨o, ho⟩ : ∃ o, bst ss cl sv = o := ⟨_, rfl⟩
  have C : Hid (Calls Tryd.prog 48 #[.string cl, .string sv, .pointer (some ⟨b, 0, none⟩)] w fun e w1 => ∃ s1 s2 E m k b, e = .returned (.tuple #[.agg #[.string s1, .string s2, .string (wdS ss o), .slice E m k], .bool b]) ∧ Below w.heap.size w w1 ∧ (b = false → wdB ss o = false) ∧ (b = true → wdB ss o = !(wdS ss o).toList.isEmpty)) := by
    have F := among1_any b A n c B ss cl sv w hb h hB hcl hsv
    rw [ho] at F
    exact F.mono fun e w1 hh => bestR_box hh
  rw [ho]
  obtain ⟨s, hs⟩ : ∃ s, wdS ss o = s := ⟨_, rfl⟩
  obtain ⟨q, hq⟩ : ∃ q, wdB ss o = q := ⟨_, rfl⟩
  rw [hs, hq] at C
  have FN : Hid (∀ W, Below w.heap.size w W → WordR w ss o (.returned (.tuple #[.string s, .bool q])) W) := fun W hW => ⟨by rw [hs, hq], hW⟩
  clear ho hb h hB hcl hsv hs hq
  go_enter Tryd.func60, Tryd.ntmps60
  go_upto_region 2 with (go_at_call 48; ((with_reducible refine C.out.mono ?_); rintro e w1 ⟨s1, s2, E, m, k, b, rfl, b1, q1, q2⟩; have B1 := Lib.hid b1; have Q1 := Lib.hid q1; have Q2 := Lib.hid q2; clear b1 q1 q2 C))
  cases b
  · have e := Lib.hid (Q1.out rfl)
    clear Q1 Q2
    go_quiet (fail)
    go_wp2
    rw [e.out] at FN
    refine bodyPost_ret (v := .tuple #[.string s, .bool false]) (by simp [results, Tryd.results60, go_sem]) rfl (FN.out _ ?_)
    exact below_drewN (B1.out.alloc B1.out.size _) _
  · have e := Lib.hid (Q2.out rfl)
    clear Q1 Q2
    go_quiet (fail)
    go_wp2
    rw [e.out] at FN
    refine bodyPost_ret (v := .tuple #[.string s, .bool (!s.toList.isEmpty)]) (by simp [results, Tryd.results60, go_sem]) rfl (FN.out _ ?_)
    exact below_drewN (B1.out.alloc B1.out.size _) _
end Go.Proofs.YtdijgmijnoiliaaDoor
