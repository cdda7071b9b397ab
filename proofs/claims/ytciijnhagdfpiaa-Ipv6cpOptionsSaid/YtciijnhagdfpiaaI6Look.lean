/-
  ipv6cp: how an end looks at options: right, wrong, refused, taken.
-/
import Derived.Test.YtciijnhagdfpiaaI6Num
import Derived.Test.YtciijnhagdfpiaaOpOwnR
namespace Go.Proofs.Ytciijnhagdfpiaa
open Go.RowKit
set_option maxRecDepth 100000
set_option maxHeartbeats 4000000
set_option linter.unusedSimpArgs false
set_option linter.unusedVariables false

theorem gb_trans {w V W : World} {r : Option Nat} (h1 : w.grownBy V r) (h2 : V.grownBy W r) : w.grownBy W r :=
  ⟨h2.os.trans h1.os, h2.tape.trans h1.tape, h2.output.trans h1.output, Nat.le_trans h1.size h2.size, fun i hi hne => (h2.block i (Nat.lt_of_lt_of_le hi h1.size) hne).trans (h1.block i hi hne)⟩
/-- has an option an identifier? -/
def rgt (o : Opt) : Bool := o.1 == 1 && o.2.length == 8
def lookC (mine : Int) (met : Bool) : List Value := [.int .u64 mine, .bool met]
def rfB (mine : Int) (met : Bool) (o : Opt) : Bool := (met || !rgt o) || (mine == 0 && num o.2 8 == 0)
def tkB (mine : Int) (o : Opt) : Bool := num o.2 8 == 0 || num o.2 8 == mine
theorem right_yes {K : Int} {l : List UInt8} (h : rgt (K, l) = true) : K = 1 ∧ l.length = 8 := by
  unfold rgt at h
  simpa using h
theorem right6_any (K : Int) (E : Option Addr) (kk cc : Nat) (l : List UInt8) (w : World) (hl : l.length = kk) :
    Calls Try.prog 44 #[.agg #[.int .i64 K, .slice E kk cc]] w fun e w' => e = .returned (.bool (rgt (K, l))) ∧ Below w.heap.size w w' := by
  have HB := Lib.hid (show Below w.heap.size w (w.alloc (.cells #[.int .i64 K, .slice E kk cc] 54)) from (Below.refl _ _).alloc (Nat.le_refl _) _)
  obtain ⟨R, hR⟩ : ∃ R, rgt (K, l) = R := ⟨_, rfl⟩
  rw [hR]
  unfold rgt at hR
  simp only [hl] at hR
  by_cases h1 : K = 1
  · have e1 : (K == 1) = true := by simpa using h1
    by_cases h8 : kk = 8
    · have e2 : (((kk : Nat) : Int) == 8) = true := by simp; omega
      have hR' : R = true := by rw [← hR, e1]; simp [h8]
      subst hR'
      clear hR hl h1 h8
      go_enter Try.func44, Try.ntmps44
      go_wp2
      go_ret
      exact ⟨rfl, HB.out⟩
    · have e2 : (((kk : Nat) : Int) == 8) = false := by simp; omega
      have hR' : R = false := by rw [← hR, e1]; simp [h8]
      subst hR'
      clear hR hl h1 h8
      go_enter Try.func44, Try.ntmps44
      go_wp2
      go_ret
      exact ⟨rfl, HB.out⟩
  · have e1 : (K == 1) = false := by simpa using h1
    have hR' : R = false := by rw [← hR, e1]; rfl
    subst hR'
    clear hR hl h1
    go_enter Try.func44, Try.ntmps44
    go_wp2
    go_ret
    exact ⟨rfl, HB.out⟩
/-- looking at an option: is it wrong? From then on the type is met, if it is its. -/
theorem wrong6_any (z : Nat) (mine : Int) (met : Bool) (K : Int) (E : Option Addr) (kk cc : Nat) (l : List UInt8) (w : World) (hz : Blk w z 58 (lookC mine met)) (hl : l.length = kk) :
    Calls Try.prog 33 #[.pointer (some ⟨z, 0, none⟩), .agg #[.int .i64 K, .slice E kk cc]] w fun e w' => e = .returned (.bool (met || !rgt (K, l))) ∧ Blk w' z 58 (lookC mine (met || K == 1)) ∧ w.grownBy w' (some z) := by
  obtain ⟨W1, hW1⟩ : ∃ W1, w.alloc (.cells #[.int .i64 K, .slice E kk cc] 54) = W1 := ⟨_, rfl⟩
  have B1 : Below w.heap.size w W1 := by rw [← hW1]; exact (Below.refl _ _).alloc (Nat.le_refl _) _
  have s1 : W1.heap.size = w.heap.size + 1 := by rw [← hW1]; simp
  have k1 : Blk W1 w.heap.size 54 [.int .i64 K, .slice E kk cc] := by rw [← hW1]; exact blk_new w _ _
  have kz := (B1.block _ hz.lt).trans hz
  have hlt := hz.lt
  have q0 := k1.cell 0
  have z1 : W1.cell? ⟨z, 1, none⟩ = some (.bool met) := Blk.cell kz 1
  have zf : W1.frozen? ⟨z, 1, none⟩ = false := Blk.frozen kz 1
  have F := fun b => right6_any K E kk cc l (W1.setCell ⟨z, 1, none⟩ (.bool b)) hl
  have g1 : W1.grownBy (W1.setCell ⟨z, 1, none⟩ (.bool (met || K == 1))) (some z) := only_set (p := ⟨z, 1, none⟩) _
  have kz2 : Blk (W1.setCell ⟨z, 1, none⟩ (.bool (met || K == 1))) z 58 (lookC mine (met || K == 1)) := Blk.set_ kz 1 _
  have gw : w.grownBy (W1.setCell ⟨z, 1, none⟩ (.bool (met || K == 1))) (some z) := by
    have g0 := only_of_below B1 (some z)
    exact gb_trans g0 g1
  have k2 : Blk (W1.setCell ⟨z, 1, none⟩ (.bool (met || K == 1))) w.heap.size 54 [.int .i64 K, .slice E kk cc] := (g1.block _ k1.lt (fun e => by injection e; omega)).trans k1
  have p0 := k2.cell 0
  have p1 := k2.cell 1
  have HE := Lib.hid (And.intro kz2 gw)
  have HW := Lib.hid hW1
  clear hW1 B1 k1 kz hz kz2 gw g1 k2
  rcases met with _ | _
  · have HC := Lib.hid (F (K == 1))
    simp only [Bool.false_or] at HE p0 p1 ⊢
    clear F
    obtain ⟨b, hb⟩ : ∃ b, (K == 1) = b := ⟨_, rfl⟩
    rw [hb] at HE HC p0 p1 ⊢
    go_enter Try.func33, Try.ntmps33
    go_upto_region 1 with (fail)
    rw [HW.out]
    clear HW
    go_wp2_with (go_at_call 44; (with_reducible refine HC.out.mono ?_); rintro e w2 ⟨rfl, h2⟩; have H2 := Lib.hid h2; clear h2)
    go_ret
    exact ⟨rfl, (H2.out.block _ (Blk.lt HE.out.1)).trans HE.out.1, gb_trans HE.out.2 (only_of_below H2.out (some z))⟩
  · simp only [Bool.true_or] at HE p0 p1 ⊢
    clear F
    go_enter Try.func33, Try.ntmps33
    go_upto_region 1 with (fail)
    rw [HW.out]
    clear HW
    go_wp2
    go_ret
    exact ⟨rfl, HE.out⟩
/-- is an option refused? -/
theorem refused6_any (z : Nat) (mine : Int) (met : Bool) (K : Int) (E : Option Addr) (kk cc B : Nat) (l : List UInt8) (w : World) (hz : Blk w z 58 (lookC mine met)) (hr : Rd w B E kk l) (hB : B ≤ w.heap.size) (hBz : B ≤ z) (hc : kk ≤ cc) :
    Calls Try.prog 38 #[.pointer (some ⟨z, 0, none⟩), .agg #[.int .i64 K, .slice E kk cc]] w fun e w' => e = .returned (.bool (rfB mine met (K, l))) ∧ Blk w' z 58 (lookC mine (met || K == 1)) ∧ w.grownBy w' (some z) := by
  have hl := hr.1
  obtain ⟨W1, hW1⟩ : ∃ W1, w.alloc (.cells #[.int .i64 K, .slice E kk cc] 54) = W1 := ⟨_, rfl⟩
  have B1 : Below w.heap.size w W1 := by rw [← hW1]; exact (Below.refl _ _).alloc (Nat.le_refl _) _
  have s1 : W1.heap.size = w.heap.size + 1 := by rw [← hW1]; simp
  have k1 : Blk W1 w.heap.size 54 [.int .i64 K, .slice E kk cc] := by rw [← hW1]; exact blk_new w _ _
  have kz := (B1.block _ hz.lt).trans hz
  have hlt := hz.lt
  have q0 := k1.cell 0
  have q1 := k1.cell 1
  have WR := Lib.hid (wrong6_any z mine met K E kk cc l W1 kz hl)
  have HW := Lib.hid hW1
  have hr1 := Lib.hid (hr.below (B1.mono hB))
  have HB1 := Lib.hid B1
  have HK := Lib.hid k1
  clear hW1 B1 k1 kz hz hr
  by_cases hbad : (met || !rgt (K, l)) = true
  · have hv : rfB mine met (K, l) = true := by unfold rfB; rw [hbad]; rfl
    rw [hv]
    rw [hbad] at WR
    go_enter Try.func38, Try.ntmps38
    go_upto_region 1 with (fail)
    rw [HW.out]
    clear HW
    go_wp2_with (go_at_call 33; (with_reducible refine WR.out.mono ?_); rintro e w2 ⟨rfl, h2⟩; have H2 := Lib.hid h2; clear h2)
    go_ret
    exact ⟨rfl, H2.out.1, gb_trans (only_of_below HB1.out _) H2.out.2⟩
  · have hbad' : (met || !rgt (K, l)) = false := Bool.eq_false_iff.2 hbad
    have hrg : rgt (K, l) = true := by cases met <;> simp at hbad' ⊢; exact hbad'
    obtain ⟨hK1, h8⟩ := right_yes hrg
    obtain rfl : kk = 8 := by omega
    rw [hbad'] at WR
    have WS := Lib.hid (show Calls Try.prog 33 #[.pointer (some ⟨z, 0, none⟩), .agg #[.int .i64 K, .slice E 8 cc]] W1 fun e w2 => e = .returned (.bool false) ∧ (w2.cell? ⟨z, 0, none⟩ = some (.int .u64 mine) ∧ w2.cell? ⟨w.heap.size, 0, none⟩ = some (.int .i64 K) ∧ w2.cell? ⟨w.heap.size, 1, none⟩ = some (.slice E 8 cc)) ∧ Hid (Blk w2 z 58 (lookC mine (met || K == 1)) ∧ w.grownBy w2 (some z)) ∧ Hid (Calls Try.prog 34 #[.agg #[.int .i64 K, .slice E 8 cc]] w2 fun e w3 => e = .returned (.int .u64 (num l 8)) ∧ Below w2.heap.size w2 w3) from by
      refine WR.out.mono ?_
      rintro e w2 ⟨rfl, h2, g2⟩
      have k2 := (g2.block _ (Blk.lt HK.out) (fun e => by injection e; omega)).trans HK.out
      exact ⟨rfl, ⟨Blk.cell h2 0, Blk.cell k2 0, Blk.cell k2 1⟩, Lib.hid ⟨h2, gb_trans (only_of_below HB1.out _) g2⟩, Lib.hid (asked_any K E cc B l w2 (hr1.out.grown g2 (by omega) (fun g e => by injection e; omega)) (by have := g2.size; omega) hc)⟩)
    clear WR hK1 h8 hrg
    by_cases hm : mine = 0
    · have e1 : (mine == 0) = true := by simpa using hm
      have hv : rfB mine met (K, l) = (num l 8 == 0) := by unfold rfB; rw [hbad', e1]; rfl
      rw [hv]
      clear hm hbad hbad' hv
      go_enter Try.func38, Try.ntmps38
      go_upto_region 1 with (fail)
      rw [HW.out]
      clear HW
      go_wp2_with (first
        | (go_at_call 33; (with_reducible refine WS.out.mono ?_); rintro e w2 ⟨rfl, ⟨x0, x1, x2⟩, H2, HA⟩)
        | (go_at_call 34; (with_reducible refine HA.out.mono ?_); rintro e w3 ⟨rfl, h3⟩; have H3 := Lib.hid h3; clear h3))
      go_ret
      exact ⟨rfl, (H3.out.block _ (Blk.lt H2.out.1)).trans H2.out.1, gb_trans H2.out.2 (only_of_below H3.out _)⟩
    · have e1 : (mine == 0) = false := by simpa using hm
      have hv : rfB mine met (K, l) = false := by unfold rfB; rw [hbad', e1]; rfl
      rw [hv]
      clear hm hbad hbad' hv
      go_enter Try.func38, Try.ntmps38
      go_upto_region 1 with (fail)
      rw [HW.out]
      clear HW
      go_wp2_with (first
        | (go_at_call 33; (with_reducible refine WS.out.mono ?_); rintro e w2 ⟨rfl, ⟨x0, x1, x2⟩, H2, HA⟩))
      go_ret
      exact ⟨rfl, H2.out⟩
/-- is another identifier to be given to who asks by a right option? -/
theorem taken6_any (z : Nat) (mine : Int) (met : Bool) (K : Int) (E : Option Addr) (cc B : Nat) (l : List UInt8) (w : World) (hz : Blk w z 58 (lookC mine met)) (hr : Rd w B E 8 l) (hB : B ≤ w.heap.size) (hc : 8 ≤ cc) :
    Calls Try.prog 39 #[.pointer (some ⟨z, 0, none⟩), .agg #[.int .i64 K, .slice E 8 cc]] w fun e w' => e = .returned (.bool (tkB mine (K, l))) ∧ Below w.heap.size w w' := by
  obtain ⟨W1, hW1⟩ : ∃ W1, w.alloc (.cells #[.int .i64 K, .slice E 8 cc] 54) = W1 := ⟨_, rfl⟩
  have B1 : Below w.heap.size w W1 := by rw [← hW1]; exact (Below.refl _ _).alloc (Nat.le_refl _) _
  have s1 : W1.heap.size = w.heap.size + 1 := by rw [← hW1]; simp
  have k1 : Blk W1 w.heap.size 54 [.int .i64 K, .slice E 8 cc] := by rw [← hW1]; exact blk_new w _ _
  have kz := (B1.block _ hz.lt).trans hz
  have q0 := k1.cell 0
  have q1 := k1.cell 1
  have AS := Lib.hid (show Calls Try.prog 34 #[.agg #[.int .i64 K, .slice E 8 cc]] W1 fun e w3 => e = .returned (.int .u64 (num l 8)) ∧ w3.cell? ⟨z, 0, none⟩ = some (.int .u64 mine) ∧ Below w.heap.size w w3 from by
    refine (asked_any K E cc B l W1 (hr.below (B1.mono hB)) (by omega) hc).mono ?_
    rintro e w3 ⟨rfl, h3⟩
    exact ⟨rfl, Blk.cell ((h3.block _ (Blk.lt kz)).trans kz) 0, B1.trans (h3.mono (by omega))⟩)
  have HW := Lib.hid hW1
  clear hW1 B1 k1 kz hz hr
  obtain ⟨x, hx⟩ : ∃ x, num l 8 = x := ⟨_, rfl⟩
  have hv : tkB mine (K, l) = (x == 0 || x == mine) := by unfold tkB; rw [← hx]
  rw [hv]
  rw [hx] at AS
  clear hv hx
  by_cases h0 : x = 0
  · have e0 : (x == 0) = true := by simpa using h0
    rw [e0]
    go_enter Try.func39, Try.ntmps39
    go_upto_region 1 with (fail)
    rw [HW.out]
    clear HW
    go_wp2_with (go_at_call 34; (with_reducible refine AS.out.mono ?_); rintro e w3 ⟨rfl, x0, h3⟩; have H3 := Lib.hid h3; clear h3)
    go_ret
    exact ⟨rfl, H3.out⟩
  · have e0 : (x == 0) = false := by simpa using h0
    rw [e0, Bool.false_or]
    go_enter Try.func39, Try.ntmps39
    go_upto_region 1 with (fail)
    rw [HW.out]
    clear HW
    go_wp2_with (go_at_call 34; (with_reducible refine AS.out.mono ?_); rintro e w3 ⟨rfl, x0, h3⟩; have H3 := Lib.hid h3; clear h3)
    go_ret
    exact ⟨rfl, H3.out⟩
end Go.Proofs.Ytciijnhagdfpiaa
