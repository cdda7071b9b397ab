/-
  tetherlaw22.awake: chapter 22's first example.
-/
import Derived.Test.YtlpboleclehilaaDoorCcJudge
import Derived.Test.YtlpboleclehilaaDoorCcBytes
namespace Go.Proofs.YtlpboleclehilaaDoor
open Go.RowKit
set_option maxRecDepth 100000
set_option maxHeartbeats 4000000
set_option linter.unusedSimpArgs false
set_option linter.unusedVariables false

def confA : Array Value := #[.string ⟨#[]⟩, .string ⟨#[]⟩, .int .i64 0, .slice none 0 0, .int .i64 0, .int .i64 0, .bool false, .bool false, .bool false, .int .i64 0, .int .i64 0, .int .i64 0, .int .i64 0, .bool false, .bool false, .int .u64 0, .int .i64 12, .int .i64 0, .int .i64 0, .int .i64 0, .int .i64 0, .int .i64 5, .int .i64 0, .int .i64 0, .int .i64 0, .int .i64 0, .int .i64 0, .int .i64 0, .bool false, .bool false, .int .i64 0, .string ⟨#[]⟩, .string ⟨#[]⟩]
theorem jdC_known : jdC 5 12 0 [(26, [120, 0])] 0 = (3, [(26, [72, 0])]) := by decide
theorem opt_known : optsC 15 12 = [(26, [120, 0]), (21, [44])] := by decide
/-- where a told option's bytes stand, and what they are as a string -/
def OptStr (w : World) (A : Option Addr) (i : Nat) (s : ByteArray) : Prop := ∃ b off E k c, A = some ⟨b, off, none⟩ ∧ w.cell? ⟨b, off + i * 2 + 1, none⟩ = some (.slice E k c) ∧ (convert 51 9 (.slice E k c)).run Tryd.prog w = .ok (.string s) w
theorem opt_str {w : World} {B : Nat} {A : Option Addr} {n : Nat} {s : List Opt} (h : OptRd w B A n s) (i : Nat) (hi : i < s.length) (l : List UInt8) (hl : s[i].2 = l) : OptStr w A i (strOf l) := by
  obtain ⟨b, off, e, _, hc⟩ := h.2 (by have := h.1; omega)
  obtain ⟨_, E, k, c, h1, h2, _⟩ := hc i hi
  rw [hl] at h2
  exact ⟨b, off, E, k, c, e, h1, conv_run h2 c⟩
def AwC (w : World) : Prop :=
  Calls Tryd.prog 20 #[.agg #[.int .i64 15, .int .i64 12]] w fun e w1 => ∃ A c1, e = .returned (.slice A 2 c1) ∧ 2 ≤ c1 ∧
    Hid (Calls Tryd.prog 7 #[.agg confA, .slice (some ⟨w1.heap.size + 1, 0, none⟩) 1 1, .int .i64 0] ((w1.alloc (.cells #[.int .u8 120, .int .u8 0] 5)).alloc (.cells #[.int .i64 26, .slice (some ⟨w1.heap.size, 0, none⟩) 2 2] 61)) fun e w2 => ∃ A2 c2, e = .returned (.tuple #[.int .i64 3, .slice A2 1 c2]) ∧ 1 ≤ c2 ∧
      Hid (Calls Tryd.prog 21 #[.agg #[.int .i64 33, .slice (some ⟨w2.heap.size, 0, none⟩) 1 1]] (w2.alloc (.cells #[.int .u8 69] 5)) fun e w3 => ∃ A3 n3 c3, e = .returned (.tuple #[.slice A3 n3 c3, .int .i64 0]) ∧
        Hid (OptStr w3 A 0 ⟨#[120, 0]⟩ ∧ OptStr w3 A 1 ⟨#[44]⟩ ∧ OptStr w3 A2 0 ⟨#[72, 0]⟩ ∧ (convert 51 9 (.slice A3 n3 c3)).run Tryd.prog w3 = .ok (.string ⟨#[33, 69]⟩) w3) ∧ Hid (Below w.heap.size w w3)))
theorem aw_c (w : World) (hT : TabM w) : AwC w := by
  unfold AwC
  refine (options_ccp 15 12 w hT).mono ?_
  rintro e w1 ⟨A, n, c1, rfl, ho1, b1⟩
  rw [opt_known] at ho1
  obtain ⟨A', c', e1, hrd1, hA1, hc1⟩ := ho1.rd (by intro o ho; simp at ho; rcases ho with rfl | rfl <;> simp)
  injection e1 with e1 e2 e3
  subst e1 e2 e3
  have s1 := b1.size
  refine ⟨A, c1, rfl, hc1, Lib.hid ?_⟩
  obtain ⟨V, hV⟩ : ∃ V, (w1.alloc (.cells #[.int .u8 120, .int .u8 0] 5)).alloc (.cells #[.int .i64 26, .slice (some ⟨w1.heap.size, 0, none⟩) 2 2] 61) = V := ⟨_, rfl⟩
  have bV : Below w1.heap.size w1 V := by rw [← hV]; exact ((Below.refl _ _).alloc (Nat.le_refl _) _).alloc (by simp) _
  have kV0 : Blk V w1.heap.size 5 [.int .u8 120, .int .u8 0] := by rw [← hV]; exact (Below.heap_alloc _ _ _ (by simp)).trans (blk_new w1 _ _)
  have kV1 : Blk V (w1.heap.size + 1) 61 [.int .i64 26, .slice (some ⟨w1.heap.size, 0, none⟩) 2 2] := by
    rw [← hV]
    have h := blk_new (w1.alloc (.cells #[.int .u8 120, .int .u8 0] 5)) 61 [.int .i64 26, .slice (some ⟨w1.heap.size, 0, none⟩) 2 2]
    rw [World.size_alloc] at h
    exact h
  have sV : V.heap.size = w1.heap.size + 2 := by rw [← hV]; simp
  rw [hV]
  have hrdV : OptRd V V.heap.size (some ⟨w1.heap.size + 1, 0, none⟩) 1 [(26, [120, 0])] := by
    refine ⟨rfl, fun _ => ⟨w1.heap.size + 1, 0, rfl, by omega, fun i hi => ?_⟩⟩
    have : i = 0 := by simp at hi; omega
    subst this
    refine ⟨kV1.cell 0, some ⟨w1.heap.size, 0, none⟩, 2, 2, kV1.cell 1, ⟨rfl, fun _ => ⟨w1.heap.size, 0, rfl, by omega, fun j hj => ?_⟩⟩, fun e => (by cases e), Nat.le_refl _, by omega⟩
    match j, hj with
    | 0, _ => exact kV0.cell 0
    | 1, _ => exact kV0.cell 1
  refine (judge_ccp confA 12 0 5 _ 1 1 V.heap.size [(26, [120, 0])] 0 V ⟨rfl, rfl, rfl, rfl⟩ hrdV (Nat.le_refl _) (by omega)).mono ?_
  rintro e w2 ⟨A2, m2, c2, k2, L2, rfl, hj, hm, ho2, b2⟩
  rw [jdC_known] at hj
  injection hj with hk hL
  subst hk hL hm
  obtain ⟨A', c', e1, hrd2, hA2, hc2⟩ := ho2.rd (by intro o ho; simp at ho; subst ho; simp)
  injection e1 with e1 e2 e3
  subst e1 e3
  refine ⟨A2, c2, rfl, hc2, Lib.hid ?_⟩
  have s2 := b2.size
  obtain ⟨U, hU⟩ : ∃ U, w2.alloc (.cells #[.int .u8 69] 5) = U := ⟨_, rfl⟩
  have bU : Below w2.heap.size w2 U := by rw [← hU]; exact (Below.refl _ _).alloc (Nat.le_refl _) _
  have kU : Blk U w2.heap.size 5 [.int .u8 69] := by rw [← hU]; exact blk_new w2 _ _
  rw [hU]
  have hrU : Rd U U.heap.size (some ⟨w2.heap.size, 0, none⟩) 1 [69] := ⟨rfl, fun _ => ⟨w2.heap.size, 0, rfl, Blk.lt kU, fun j hj => by
    have : j = 0 := by omega
    subst this
    exact kU.cell 0⟩⟩
  have sU := bU.size
  refine (bytes_any 33 _ 1 1 U.heap.size [69] U hrU (Nat.le_refl _) (fun e => by cases e) (Nat.le_refl _) (by omega)).mono ?_
  rintro e w3 ⟨A3, n3, c3, rfl, hr3, _, _, b3⟩
  have be : btE 33 ([69] : List UInt8).length = 0 := by decide
  have bl : btL 33 [69] = [33, 69] := by decide
  rw [be]
  rw [bl] at hr3
  have b13 : Below w1.heap.size w1 w3 := (bV.trans (b2.mono (by omega))).trans ((bU.mono (by omega)).trans (b3.mono (by omega)))
  have b23 : Below w2.heap.size w2 w3 := bU.trans (b3.mono sU)
  refine ⟨A3, n3, c3, rfl, Lib.hid ⟨opt_str (hrd1.below b13 (Nat.le_refl _)) 0 (by simp) [120, 0] rfl, opt_str (hrd1.below b13 (Nat.le_refl _)) 1 (by simp) [44] rfl, opt_str (hrd2.below b23 (Nat.le_refl _)) 0 (by simp) [72, 0] rfl, conv_run hr3 c3⟩, Lib.hid (b1.trans (b13.mono s1))⟩
theorem awake_ccp (w : World) (hT : TabM w) : Calls Tryd.prog 17 #[] w fun e w' => e = .returned (.bool true) ∧ Below w.heap.size w w' := by
  have N := Lib.hid (aw_c w hT)
  unfold AwC confA at N
  go_enter Tryd.func17, Tryd.ntmps17
  go_wp2_with (first
    | (go_at_call 20; ((with_reducible refine N.out.mono ?_); rintro e w1 ⟨A, c1, rfl, hc1, N1⟩))
    | (go_at_call 7; ((with_reducible refine N1.out.mono ?_); rintro e w2 ⟨A2, c2, rfl, hc2, N2⟩))
    | (go_at_call 21; ((with_reducible refine N2.out.mono ?_); rintro e w3 ⟨A3, n3, c3, rfl, NS, NB⟩; obtain ⟨⟨b, off, E, k, q, rfl, y0, y1⟩, ⟨b', off', E', k', q', e2, y2, y3⟩, ⟨b4, off4, E4, k4, q4, rfl, y4, y5⟩, y6⟩ := NS.out; injection e2 with e2; injection e2 with e3 e4; subst e3 e4)))
  go_ret
  exact ⟨rfl, NB.out⟩
end Go.Proofs.YtlpboleclehilaaDoor
