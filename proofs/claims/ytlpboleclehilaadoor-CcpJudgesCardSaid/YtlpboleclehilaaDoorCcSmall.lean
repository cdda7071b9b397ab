/-
  ccp: can, field, take, option, size; protoRight, headSize.
-/
import Derived.Test.YtlpboleclehilaaDoorCcMath
import Derived.Test.YtlpboleclehilaaDoorCcByt
import Derived.Test.YtlpboleclehilaaDoorOpOwnR
import Derived.Laws.Bits64
import Derived.BigQuiet
import Derived.Deep.QuietTactic
import Derived.Deep.RegionLaw
import Derived.LoopTactic
namespace Go.Proofs.YtlpboleclehilaaDoor
open Go.RowKit
set_option maxRecDepth 100000
set_option maxHeartbeats 1000000
set_option linter.unusedSimpArgs false
set_option linter.unusedVariables false

theorem can_any (K b : Int) (w : World) : Calls Tryd.prog 41 #[.int .i64 K, .int .i64 b] w fun e w' => e = .returned (.bool (canB K b)) ∧ w = w' := by
  by_cases h26 : K = 26
  · subst h26
    have hv : Hid (canB 26 b = (decide (8 ≤ b) && decide (b ≤ 15))) := by show _ = _; unfold canB; simp
    by_cases h8 : 8 ≤ b
    · have e1 : decide (8 ≤ b) = true := decide_eq_true h8
      have HV : Hid (canB 26 b = decide (b ≤ 15)) := by show _ = _; rw [hv.out, e1, Bool.true_and]
      go_enter Tryd.func41, Tryd.ntmps41
      go_wp2
      go_ret
      exact ⟨by rw [HV.out]; rfl, rfl⟩
    · have e1 : decide (8 ≤ b) = false := decide_eq_false h8
      have HV : Hid (canB 26 b = false) := by show _ = _; rw [hv.out, e1, Bool.false_and]
      go_enter Tryd.func41, Tryd.ntmps41
      go_wp2
      go_ret
      exact ⟨by rw [HV.out]; rfl, rfl⟩
  · have e0 : (K == 26) = false := by simpa using h26
    by_cases h21 : K = 21
    · subst h21
      have hv : Hid (canB 21 b = (decide (9 ≤ b) && decide (b ≤ 15))) := by show _ = _; unfold canB; simp
      clear e0 h26
      by_cases h8 : 9 ≤ b
      · have e1 : decide (9 ≤ b) = true := decide_eq_true h8
        have HV : Hid (canB 21 b = decide (b ≤ 15)) := by show _ = _; rw [hv.out, e1, Bool.true_and]
        go_enter Tryd.func41, Tryd.ntmps41
        go_wp2
        go_ret
        exact ⟨by rw [HV.out]; rfl, rfl⟩
      · have e1 : decide (9 ≤ b) = false := decide_eq_false h8
        have HV : Hid (canB 21 b = false) := by show _ = _; rw [hv.out, e1, Bool.false_and]
        go_enter Tryd.func41, Tryd.ntmps41
        go_wp2
        go_ret
        exact ⟨by rw [HV.out]; rfl, rfl⟩
    · have e1 : (K == 21) = false := by simpa using h21
      have HV : Hid (canB K b = false) := by show _ = _; unfold canB; rw [e0, e1]; rfl
      clear h26 h21
      go_enter Tryd.func41, Tryd.ntmps41
      go_wp2
      go_ret
      exact ⟨by rw [HV.out]; rfl, rfl⟩
def fldV (z : Nat) (K : Int) : Value := .pointer (if K = 26 then some ⟨z, 0, none⟩ else if K = 21 then some ⟨z, 1, none⟩ else none)
theorem field_any (z : Nat) (K : Int) (w : World) : Calls Tryd.prog 36 #[.pointer (some ⟨z, 0, none⟩), .int .i64 K] w fun e w' => e = .returned (fldV z K) ∧ w = w' := by
  by_cases h26 : K = 26
  · subst h26
    have HV : Hid (fldV z 26 = .pointer (some ⟨z, 0, none⟩)) := rfl
    go_enter Tryd.func36, Tryd.ntmps36
    go_wp2
    go_ret
    exact ⟨by rw [HV.out]; rfl, rfl⟩
  · have e0 : (K == 26) = false := by simpa using h26
    by_cases h21 : K = 21
    · subst h21
      have HV : Hid (fldV z 21 = .pointer (some ⟨z, 1, none⟩)) := rfl
      clear e0 h26
      go_enter Tryd.func36, Tryd.ntmps36
      go_wp2
      go_ret
      exact ⟨by rw [HV.out]; rfl, rfl⟩
    · have e1 : (K == 21) = false := by simpa using h21
      have HV : Hid (fldV z K = .pointer none) := by show _ = _; unfold fldV; rw [if_neg h26, if_neg h21]
      clear h26 h21
      go_enter Tryd.func36, Tryd.ntmps36
      go_wp2
      go_ret
      exact ⟨by rw [HV.out]; rfl, rfl⟩
theorem wraps_i62 (n : Int) (h0 : 0 ≤ n) (h1 : n < 2 ^ 62) : IntKind.i64.wrap n = n := by rw [IntKind.wrap_i64]; omega
theorem and_nat62 (a b : Nat) (ha : a < 2 ^ 62) (hb : b < 2 ^ 62) : bits .and .i64 (a : Int) (b : Int) = ((a &&& b : Nat) : Int) := (bits_nat .i64 62 (by decide) wraps_i62 a b ha hb).1
theorem or_low8 (x y : Int) (h0 : 0 ≤ x) (h1 : x < 65536) (h2 : 0 ≤ y) (h3 : y < 256) : bits .or .i64 (x * 256) y = x * 256 + y :=
  bits_join .i64 62 (by decide) wraps_i62 8 (x * 256) y (by omega) (by omega) (by omega) h2 (by omega) (by omega)
theorem protoRight_any (n : Int) (w : World) : Calls Tryd.prog 42 #[.int .i64 n] w fun e w' => e = .returned (.bool (prB n)) ∧ w = w' := by
  by_cases h0 : 0 < n
  · by_cases h1 : n ≤ 65535
    · obtain ⟨m, rfl⟩ := Int.eq_ofNat_of_zero_le (show 0 ≤ n by omega)
      have HV : Hid (prB m = (((m &&& 257 : Nat) : Int) == 1)) := by
        show _ = _
        unfold prB
        rw [decide_eq_true h0, decide_eq_true h1, and_257, Bool.true_and, Bool.true_and]
        rw [Bool.eq_iff_iff]
        simp only [Bool.and_eq_true, beq_iff_eq]
        omega
      have ea : bits .and .i64 (m : Int) 257 = ((m &&& 257 : Nat) : Int) := and_nat62 m 257 (by omega) (by decide)
      go_enter Tryd.func42, Tryd.ntmps42
      go_wp2
      go_ret
      exact ⟨by rw [HV.out]; rfl, rfl⟩
    · have HV : Hid (prB n = false) := by show _ = _; unfold prB; rw [decide_eq_false h1]; simp
      go_enter Tryd.func42, Tryd.ntmps42
      go_wp2
      go_ret
      exact ⟨by rw [HV.out]; rfl, rfl⟩
  · have HV : Hid (prB n = false) := by show _ = _; unfold prB; rw [decide_eq_false h0]; simp
    go_enter Tryd.func42, Tryd.ntmps42
    go_wp2
    go_ret
    exact ⟨by rw [HV.out]; rfl, rfl⟩
theorem own_new {w : World} {base g : Nat} {l : List UInt8} (h : Blk w g 5 (l.map cellOf)) (hb : base ≤ g) (hm : l.length ≤ 140737488355328) :
    Own w base (.slice (some ⟨g, 0, none⟩) l.length l.length) l := by
  refine ⟨by simp, .inr ⟨g, l.length, _, rfl, hb, h, Nat.le_refl _, by unfold maxLen; omega, by simp, by rw [Nat.mul_one]; exact List.take_of_length_le (by simp)⟩⟩
theorem cell_df (b : Int) : cellOf (dfB b) = .int .u8 ((16 * (b - 8) + 8) % 256) := by
  unfold cellOf dfB
  congr 1
  have : ((16 * (b - 8) + 8) % 256).toNat < 256 := by omega
  simp [UInt8.toNat_ofNat', Nat.mod_eq_of_lt this]
  omega
theorem cell_bs (b : Int) : cellOf (bsB b) = .int .u8 ((32 + b) % 256) := by
  unfold cellOf bsB
  congr 1
  have : ((32 + b) % 256).toNat < 256 := by omega
  simp [UInt8.toNat_ofNat', Nat.mod_eq_of_lt this]
  omega
def OpR (w : World) (K b : Int) (e : Ending) (w' : World) : Prop := ∃ g, e = .returned (.agg #[.int .i64 K, .slice (some ⟨g, 0, none⟩) (szK K) (szK K)]) ∧ Own w' w.heap.size (.slice (some ⟨g, 0, none⟩) (szK K) (szK K)) (dat K b) ∧ Below w.heap.size w w'
theorem wrap_bs (b : Int) : wrap64 (32 + b) % 256 = (32 + b) % 256 := by unfold wrap64; omega
theorem wrap_df (b : Int) : wrap64 (wrap64 (16 * wrap64 (b - 8)) + 8) % 256 = (16 * (b - 8) + 8) % 256 := by unfold wrap64; omega
theorem option_any (K b : Int) (w : World) : Calls Tryd.prog 29 #[.int .i64 K, .int .i64 b] w fun e w' => OpR w K b e w' := by
  by_cases h26 : K = 26
  · subst h26
    have hb := wrap_bs b
    have hd := wrap_df b
    have HW : Hid (OpR w 26 b (.returned (.agg #[.int .i64 26, .slice (some ⟨w.heap.size + 1 + 1, 0, none⟩) 2 2])) (((w.alloc (.cells #[.int .i64 26, .slice (some ⟨w.heap.size + 1 + 1, 0, none⟩) 2 2] 61)).alloc (.cells #[.int .u8 ((32 + b) % 256)] 5)).alloc (.cells #[.int .u8 ((16 * (b - 8) + 8) % 256), .int .u8 0] 5))) := by
      have B3 : Below w.heap.size w (((w.alloc (.cells #[.int .i64 26, .slice (some ⟨w.heap.size + 1 + 1, 0, none⟩) 2 2] 61)).alloc (.cells #[.int .u8 ((32 + b) % 256)] 5)).alloc (.cells #[.int .u8 ((16 * (b - 8) + 8) % 256), .int .u8 0] 5)) := (((Below.refl _ _).alloc (Nat.le_refl _) _).alloc (by simp) _).alloc (by simp; omega) _
      have k := blk_new ((w.alloc (.cells #[.int .i64 26, .slice (some ⟨w.heap.size + 1 + 1, 0, none⟩) 2 2] 61)).alloc (.cells #[.int .u8 ((32 + b) % 256)] 5)) 5 ((dat 26 b).map cellOf)
      have e : (dat 26 b).map cellOf = [.int .u8 ((16 * (b - 8) + 8) % 256), .int .u8 0] := by
        show [cellOf (dfB b), cellOf 0] = _
        rw [cell_df]
        rfl
      have ho := own_new (base := w.heap.size) k (by simp; omega) (by rw [dat_len]; unfold szK; split <;> omega)
      rw [e] at ho
      rw [dat_len] at ho
      simp only [World.size_alloc] at ho
      exact ⟨w.heap.size + 1 + 1, rfl, ho, B3⟩
    have kk : Blk (((w.alloc (.cells #[.int .i64 26, .slice (some ⟨w.heap.size + 1 + 1, 0, none⟩) 2 2] 61)).alloc (.cells #[.int .u8 ((32 + b) % 256)] 5)).alloc (.cells #[.int .u8 ((16 * (b - 8) + 8) % 256), .int .u8 0] 5)) w.heap.size 61 [.int .i64 26, .slice (some ⟨w.heap.size + 1 + 1, 0, none⟩) 2 2] := (Below.heap_alloc _ _ _ (by simp; omega)).trans ((Below.heap_alloc _ _ _ (by simp)).trans (blk_new w _ _))
    have c0 := kk.cell 0
    have c1 := kk.cell 1
    clear kk
    go_enter Tryd.func29, Tryd.ntmps29
    go_wp2
    exact bodyPost_ret (v := .agg #[.int .i64 26, .slice (some ⟨w.heap.size + 1 + 1, 0, none⟩) 2 2]) (by simp [results, Tryd.results29, go_sem, c0, c1]) rfl HW.out
  · have e0 : (K == 26) = false := by simpa using h26
    have hb := wrap_bs b
    have HW : Hid (OpR w K b (.returned (.agg #[.int .i64 K, .slice (some ⟨w.heap.size + 1, 0, none⟩) 1 1])) ((w.alloc (.cells #[.int .i64 K, .slice (some ⟨w.heap.size + 1, 0, none⟩) 1 1] 61)).alloc (.cells #[.int .u8 ((32 + b) % 256)] 5))) := by
      have B3 : Below w.heap.size w ((w.alloc (.cells #[.int .i64 K, .slice (some ⟨w.heap.size + 1, 0, none⟩) 1 1] 61)).alloc (.cells #[.int .u8 ((32 + b) % 256)] 5)) := ((Below.refl _ _).alloc (Nat.le_refl _) _).alloc (by simp) _
      have k := blk_new (w.alloc (.cells #[.int .i64 K, .slice (some ⟨w.heap.size + 1, 0, none⟩) 1 1] 61)) 5 ((dat K b).map cellOf)
      have e : (dat K b).map cellOf = [.int .u8 ((32 + b) % 256)] := by
        unfold dat
        rw [if_neg h26]
        show [cellOf (bsB b)] = _
        rw [cell_bs]
      have es : szK K = 1 := if_neg h26
      have ho := own_new (base := w.heap.size) k (by simp) (by rw [dat_len, es]; omega)
      rw [e] at ho
      rw [dat_len, es] at ho
      simp only [World.size_alloc] at ho
      unfold OpR
      rw [es]
      exact ⟨w.heap.size + 1, rfl, ho, B3⟩
    have c0 : ((w.alloc (.cells #[.int .i64 K, .slice (some ⟨w.heap.size + 1, 0, none⟩) 1 1] 61)).alloc (.cells #[.int .u8 ((32 + b) % 256)] 5)).cell? ⟨w.heap.size, 0, none⟩ = some (.int .i64 K) := by simp
    have c1 : ((w.alloc (.cells #[.int .i64 K, .slice (some ⟨w.heap.size + 1, 0, none⟩) 1 1] 61)).alloc (.cells #[.int .u8 ((32 + b) % 256)] 5)).cell? ⟨w.heap.size, 1, none⟩ = some (.slice (some ⟨w.heap.size + 1, 0, none⟩) 1 1) := by simp
    clear h26
    go_enter Tryd.func29, Tryd.ntmps29
    go_wp2
    exact bodyPost_ret (v := .agg #[.int .i64 K, .slice (some ⟨w.heap.size + 1, 0, none⟩) 1 1]) (by simp [results, Tryd.results29, go_sem, c0, c1]) rfl HW.out
theorem ofield1 (W : World) (K : Int) (a : Option Addr) (n c : Nat) : (Instr.field 61 (.agg #[.int .i64 K, .slice a n c]) 1).run Tryd.prog W = .ok (.slice a n c) W := by kernel_rfl
theorem size_any (K : Int) (w : World) : Calls Tryd.prog 27 #[.int .i64 K] w fun e w' => e = .returned (.int .i64 (szK K : Nat)) ∧ Below w.heap.size w w' := by
  have CO := Lib.hid (option_any K 0 w)
  unfold OpR at CO
  obtain ⟨n, hn⟩ : ∃ n, szK K = n := ⟨_, rfl⟩
  rw [hn] at CO ⊢
  clear hn
  have OF := fun W => ofield1 W K
  go_enter Tryd.func27, Tryd.ntmps27
  go_wp2_with (go_at_call 29; ((with_reducible refine CO.out.mono ?_); rintro e w' ⟨g, rfl, ho, hb⟩; have HB := Lib.hid hb; clear ho hb))
  go_ret
  exact ⟨rfl, HB.out⟩
/-- Below, or as it is: a take -/
def tkV (D B K : Int) : Int := if K = 26 then D else if K = 21 then B else 0
def tkD (D K : Int) : Int := if K = 26 then 0 else D
def tkB (B K : Int) : Int := if K = 21 then 0 else B
theorem take_any (z : Nat) (D B K : Int) (w : World) (hz : Blk w z 27 [.int .i64 D, .int .i64 B]) :
    Calls Tryd.prog 26 #[.pointer (some ⟨z, 0, none⟩), .int .i64 K] w fun e w' => e = .returned (.int .i64 (tkV D B K)) ∧ Blk w' z 27 [.int .i64 (tkD D K), .int .i64 (tkB B K)] ∧ w.grownBy w' (some z) := by
  have FA := Lib.hid (field_any z K w)
  have d0 := hz.cell 0
  have d1 := hz.cell 1
  have f0 := hz.frozen 0
  have f1 := hz.frozen 1
  by_cases h26 : K = 26
  · subst h26
    have hv : fldV z 26 = .pointer (some ⟨z, 0, none⟩) := rfl
    rw [hv] at FA
    have HB : Hid (Blk (w.setCell ⟨z, 0, none⟩ (.int .i64 0)) z 27 [.int .i64 0, .int .i64 B]) := Blk.set_ hz 0 _
    clear hv hz
    go_enter Tryd.func26, Tryd.ntmps26
    go_wp2_with (go_at_call 36; ((with_reducible refine FA.out.mono ?_); rintro e w' ⟨rfl, rfl⟩))
    go_ret
    exact ⟨rfl, HB.out, only_set (p := ⟨z, 0, none⟩) _⟩
  · by_cases h21 : K = 21
    · subst h21
      have hv : fldV z 21 = .pointer (some ⟨z, 1, none⟩) := rfl
      rw [hv] at FA
      have HB : Hid (Blk (w.setCell ⟨z, 1, none⟩ (.int .i64 0)) z 27 [.int .i64 D, .int .i64 0]) := Blk.set_ hz 1 _
      clear hv hz h26
      go_enter Tryd.func26, Tryd.ntmps26
      go_wp2_with (go_at_call 36; ((with_reducible refine FA.out.mono ?_); rintro e w' ⟨rfl, rfl⟩))
      go_ret
      exact ⟨rfl, HB.out, only_set (p := ⟨z, 1, none⟩) _⟩
    · have hv : fldV z K = .pointer none := by unfold fldV; rw [if_neg h26, if_neg h21]
      rw [hv] at FA
      have HT : Hid (tkV D B K = 0 ∧ tkD D K = D ∧ tkB B K = B) := ⟨by unfold tkV; rw [if_neg h26, if_neg h21], if_neg h26, if_neg h21⟩
      have HZ := Lib.hid hz
      clear hv hz h26 h21
      go_enter Tryd.func26, Tryd.ntmps26
      go_wp2_with (go_at_call 36; ((with_reducible refine FA.out.mono ?_); rintro e w' ⟨rfl, rfl⟩))
      go_ret
      exact ⟨by rw [HT.out.1]; rfl, by rw [HT.out.2.1, HT.out.2.2]; exact HZ.out, World.grownBy.refl _ _⟩
theorem and1_u8 (c : UInt8) : bits .and .u8 (c.toNat : Int) 1 = ((c.toNat % 2 : Nat) : Int) := by
  have h := (bits_nat .u8 8 (by decide) wraps_u8 c.toNat 1 c.toNat_lt (by decide)).1
  rw [Nat.and_one_is_mod] at h
  exact h
theorem headSize_any (A : Option Addr) (n c B : Nat) (l : List UInt8) (w : World) (hr : Rd w B A n l) (hnc : n ≤ c) : Calls Tryd.prog 44 #[.slice A n c] w fun e w' => e = .returned (.int .i64 (hdN l : Nat)) ∧ w = w' := by
  have hl := hr.1
  rcases l with _ | ⟨a, t⟩
  · simp at hl
    subst hl
    clear hr
    go_enter Tryd.func44, Tryd.ntmps44
    go_wp2
    go_ret
    exact ⟨rfl, rfl⟩
  · simp at hl
    subst hl
    obtain ⟨b, off, rfl, hb, hc⟩ := hr.2 (by omega)
    have c0 : w.cell? ⟨b, off, none⟩ = some (.int .u8 (a.toNat : Int)) := hc 0 (by omega)
    have ea := and1_u8 a
    have e0 : (((t.length + 1 : Nat) : Int) == 0) = false := by simp; omega
    obtain ⟨n, hn⟩ : ∃ n, t.length + 1 = n := ⟨_, rfl⟩
    have hn0 : 0 < n := by omega
    rw [hn] at e0 hnc ⊢
    by_cases h1 : a.toNat % 2 = 1
    · have HV : Hid (hdN (a :: t) = 1) := if_pos h1
      rw [h1] at ea
      clear hr hc h1 hn
      go_enter Tryd.func44, Tryd.ntmps44
      go_wp2
      go_ret
      exact ⟨by rw [HV.out]; rfl, rfl⟩
    · have HV : Hid (hdN (a :: t) = 2) := if_neg h1
      have h0 : a.toNat % 2 = 0 := by omega
      rw [h0] at ea
      clear hr hc h1 hn h0
      go_enter Tryd.func44, Tryd.ntmps44
      go_wp2
      go_ret
      exact ⟨by rw [HV.out]; rfl, rfl⟩
end Go.Proofs.YtlpboleclehilaaDoor
