/-
  lcp.must; lcp.number, lcp.lowest: numbers as bytes.
  lcp.Auth, lcp.Method: methods as data.
  The closure of lcp.Options: an option more, if it is asked.
  lcp.Options of anything.
-/
import Derived.Test.YtonbdcajepmgbaaOpList
import Derived.Test.YtonbdcajepmgbaaBSlice
import Derived.LoopTactic
import Derived.Outline
import Derived.WalkLawsBesides
import Derived.Deep.RegionLaw
import Derived.Laws.Bits64
namespace Go.Proofs.Ytonbdcajepmgbaa
open Go.RowKit
set_option maxRecDepth 100000
set_option maxHeartbeats 1000000
set_option linter.unusedSimpArgs false
set_option linter.unusedVariables false

/-- what is thrown -/
def thrown : List PanicEntry := [{ v := .iface 46 (.int .i64 91), recovered := false }]
theorem must_yes (w : World) : Calls Try.prog 106 #[.bool true] w fun e w' => e = .returned (.tuple #[]) ∧ w = w' := by
  go_enter Try.func106, Try.ntmps106
  go_wp2
  go_end0
  exact ⟨rfl, rfl⟩
theorem must_no (w : World) : Calls Try.prog 106 #[.bool false] w fun e w' => e = .panicked thrown ∧ w = w' := by
  go_enter Try.func106, Try.ntmps106
  go_wp2
  exact ⟨rfl, rfl, rfl⟩
theorem number_yes (A : Option Addr) (n c B : Nat) (l : List UInt8) (w : World) (h : Rd w B A n l) (hn : n ≤ 4) (hc : n ≤ c) :
    Calls Try.prog 112 #[.slice A n c, .int .i64 n] w fun e w' => e = .returned (.int .u64 (num l n)) ∧ w = w' := by
  have H := Lib.hid h
  have t : ((n : Int) == (n : Int)) = true := by simp
  clear h
  go_enter Try.func112, Try.ntmps112
  go_wp2_with (go_at_call 106; ((with_reducible refine (must_yes _).mono ?_); rintro e w' ⟨rfl, rfl⟩))
  go_loop [5, 15] (fun v i => ∃ k : Nat, k ≤ n ∧ i = .int .i64 k ∧ v = .int .u64 (num l k)) (fun _ i => n - (intOf i).toNat)
  case atStart => exact ⟨0, Nat.zero_le _, rfl, rfl⟩
  case round =>
    obtain ⟨k, hk, rfl, rfl⟩ := hrel
    by_cases hlt : k < n
    · obtain ⟨a, o, rfl, _, hd⟩ := H.out.2 (by omega)
      have h1 := hd k hlt
      have b1 := num_lo l k
      have b2 : num l k < 4294967296 := by
        have := num_hi l k
        have : (256 : Int) ^ k ≤ 256 ^ 4 := by
          rcases (show k = 0 ∨ k = 1 ∨ k = 2 ∨ k = 3 by omega) with rfl | rfl | rfl | rfl <;> decide
        omega
      have b3 := byteAt_lo l k
      have b4 := byteAt_hi l k
      have e1 : num l (k + 1) = num l k * 256 + byteAt l k := rfl
      clear hd
      have E1 := Lib.hid e1
      clear e1
      generalize num l k = q at *
      generalize byteAt l k = x at *
      go_wp2
      go_round
      case rel => exact ⟨k + 1, by omega, by go_num, by rw [E1.out, or_8 (q * 256) x (by omega) (by omega) (by omega) (by omega) (by omega)]⟩
      case measure => simp [intOf]; omega
    · have : k = n := by omega
      subst this
      go_wp2
      go_ret
      exact ⟨rfl, rfl⟩
theorem number_no (A : Option Addr) (n m c : Nat) (w : World) (h : n ≠ m) (hn : n ≤ maxLen) (hm : m ≤ maxLen) :
    Calls Try.prog 112 #[.slice A n c, .int .i64 m] w fun e w' => e = .panicked thrown ∧ w = w' := by
  have t : ((n : Int) == (m : Int)) = false := by simp; omega
  unfold maxLen at hn hm
  clear h
  go_enter Try.func112, Try.ntmps112
  go_wp2_with (go_at_call 106; ((with_reducible refine (must_no _).mono ?_); rintro e w' ⟨rfl, rfl⟩))
  exact ⟨rfl, rfl, rfl⟩
theorem number2_no (A : Option Addr) (n c : Nat) (w : World) (h : n ≠ 2) (hn : n ≤ maxLen) :
    Calls Try.prog 112 #[.slice A n c, .int .i64 2] w fun e w' => e = .panicked thrown ∧ w = w' := number_no A n 2 c w h hn (by decide)
theorem number4_no (A : Option Addr) (n c : Nat) (w : World) (h : n ≠ 4) (hn : n ≤ maxLen) :
    Calls Try.prog 112 #[.slice A n c, .int .i64 4] w fun e w' => e = .panicked thrown ∧ w = w' := number_no A n 4 c w h hn (by decide)
theorem number2_yes (A : Option Addr) (c B : Nat) (l : List UInt8) (w : World) (h : Rd w B A 2 l) (hc : 2 ≤ c) :
    Calls Try.prog 112 #[.slice A 2 c, .int .i64 2] w fun e w' => e = .returned (.int .u64 (num l 2)) ∧ w = w' := number_yes A 2 c B l w h (by omega) hc
theorem number4_yes (A : Option Addr) (c B : Nat) (l : List UInt8) (w : World) (h : Rd w B A 4 l) (hc : 4 ≤ c) :
    Calls Try.prog 112 #[.slice A 4 c, .int .i64 4] w fun e w' => e = .returned (.int .u64 (num l 4)) ∧ w = w' := number_yes A 4 c B l w h (by omega) hc
theorem putB_succ (n : Nat) (i : Nat) : putB n (i + 1) = UInt8.ofNat (n / 256 ^ i % 256) :: putB n i := by
  induction i generalizing n with
  | zero => simp [putB]
  | succ i ih =>
    rw [putB, ih (n / 256), putB, List.cons_append, Nat.div_div_eq_div_mul, Nat.pow_succ, Nat.mul_comm 256]
theorem put_step (n s i : Nat) (h : i < s) : (zeros (s - i) ++ (putB n i).map cellOf).set (s - 1 - i) (.int .u8 ((n / 256 ^ i % 256 : Nat) : Int)) = zeros (s - (i + 1)) ++ (putB n (i + 1)).map cellOf := by
  rw [putB_succ, List.map_cons]
  have e : zeros (s - i) = zeros (s - (i + 1)) ++ [.int .u8 0] := by
    unfold zeros
    rw [show s - i = (s - (i + 1)) + 1 by omega, List.replicate_succ']
  have hl : (zeros (s - (i + 1))).length = s - 1 - i := by rw [zeros_length]; omega
  rw [e, List.append_assoc, List.set_append_right _ _ (by omega), hl, Nat.sub_self]
  show zeros (s - (i + 1)) ++ (.int .u8 _ :: _) = zeros (s - (i + 1)) ++ (cellOf (UInt8.ofNat _) :: _)
  congr 2
  unfold cellOf
  rw [UInt8.toNat_ofNat']
  congr 1
  omega
theorem shift_cast (n k : Nat) : ((n / 256 ^ k % 256 : Nat) : Int) = (n : Int) / 2 ^ (8 * k) % 256 := by
  rw [show (256 : Nat) ^ k = 2 ^ (8 * k) by rw [Nat.pow_mul]]
  push_cast
  rfl
theorem lowest_any (n s : Nat) (w : World) (hn : n < 18446744073709551616) (hs : s = 2 ∨ s = 4) :
    Calls Try.prog 101 #[.int .u64 n, .int .i64 s] w fun e w' => e = .returned (.slice (some ⟨w.heap.size, 0, none⟩) s s) ∧ Own w' w.heap.size (.slice (some ⟨w.heap.size, 0, none⟩) s s) (putB n s) ∧ Below w.heap.size w w' := by
  have hs4 : s ≤ 4 := by omega
  have hmk := mk_run s s rfl (by omega)
  have hb0 : Blk (w.alloc (.cells (zeros s).toArray 5)) w.heap.size 5 (zeros s) := blk_new w _ _
  have hB0 : Below w.heap.size w (w.alloc (.cells (zeros s).toArray 5)) := (Below.refl _ _).alloc (Nat.le_refl _) _
  go_enter Try.func101, Try.ntmps101
  go_wp2
  go_loopw [11] (fun i wr => ∃ (W : World) (k : Nat), W = wr ∧ k ≤ s ∧ i = .int .i64 k ∧ Hid (Blk W w.heap.size 5 (zeros (s - k) ++ (putB n k).map cellOf) ∧ Below w.heap.size w W)) (fun i _ => s - (intOf i).toNat)
  case atStart => exact ⟨_, 0, rfl, Nat.zero_le _, rfl, by simpa [putB] using hb0, hB0⟩
  case round =>
    obtain ⟨wr, k, rfl, hk, rfl, hJ⟩ := hrel
    obtain ⟨hb, hB⟩ := hJ.out
    by_cases hlt : k < s
    · have hset := hb.set_ (s - 1 - k) (.int .u8 ((n / 256 ^ k % 256 : Nat) : Int))
      rw [put_step n s k hlt, shift_cast n k] at hset
      have HS := Lib.hid hset
      have hc : ∃ v, wr.cell? ⟨w.heap.size, s - 1 - k, none⟩ = some v := ⟨_, by rw [hb.cell]; exact List.getElem?_eq_getElem (by simp [zeros_length, putB_length]; omega)⟩
      obtain ⟨v, hv⟩ := hc
      have hf := hb.frozen (s - 1 - k)
      have HB := Lib.hid hB
      clear hset hb hB hJ hb0 hB0
      go_wp2
      go_roundw
      case rel => exact ⟨_, k + 1, rfl, by omega, by go_num, HS.out, HB.out.setCell (Nat.le_refl _) _⟩
      case measure => simp [intOf]; omega
    · have : k = s := by omega
      subst this
      rw [Nat.sub_self] at hb
      have HO : Hid (Own wr w.heap.size (.slice (some ⟨w.heap.size, 0, none⟩) k k) (putB n k)) := by
        have h := own_of_blk (w := wr) (base := w.heap.size) (g := w.heap.size) (l := putB n k) hb (Nat.le_refl _) (by rw [putB_length]; omega)
        rw [putB_length] at h
        exact h
      have HB := Lib.hid hB
      clear hb hB hJ hb0 hB0
      go_wp2
      go_ret
      exact ⟨rfl, HO.out, HB.out⟩
theorem low2_any (x : Int) (w : World) (h0 : 0 ≤ x) (h1 : x < 18446744073709551616) :
    Calls Try.prog 101 #[.int .u64 x, .int .i64 2] w fun e w' => e = .returned (.slice (some ⟨w.heap.size, 0, none⟩) 2 2) ∧ Own w' w.heap.size (.slice (some ⟨w.heap.size, 0, none⟩) 2 2) (putB x.toNat 2) ∧ Below w.heap.size w w' := by
  obtain ⟨n, rfl⟩ := Int.eq_ofNat_of_zero_le h0
  exact lowest_any n 2 w (by omega) (.inl rfl)
theorem low4_any (x : Int) (w : World) (h0 : 0 ≤ x) (h1 : x < 18446744073709551616) :
    Calls Try.prog 101 #[.int .u64 x, .int .i64 4] w fun e w' => e = .returned (.slice (some ⟨w.heap.size, 0, none⟩) 4 4) ∧ Own w' w.heap.size (.slice (some ⟨w.heap.size, 0, none⟩) 4 4) (putB x.toNat 4) ∧ Below w.heap.size w w' := by
  obtain ⟨n, rfl⟩ := Int.eq_ofNat_of_zero_le h0
  exact lowest_any n 4 w (by omega) (.inr rfl)
end Go.Proofs.Ytonbdcajepmgbaa
namespace Go.Proofs.Ytonbdcajepmgbaa
open Go.RowKit
set_option maxRecDepth 100000
set_option maxHeartbeats 1000000
set_option linter.unusedSimpArgs false
set_option linter.unusedVariables false

def authB (m : Int) : List UInt8 := if m = 1 then [0xc0, 0x23] else if m = 2 then [0xc2, 0x23, 5] else if m = 3 then [0xc2, 0x27] else []
def mth (l : List UInt8) : Int := if l = authB 1 then 1 else if l = authB 2 then 2 else if l = authB 3 then 3 else 0
theorem authB_len (m : Int) : (authB m).length ≤ 3 := by
  unfold authB
  repeat' split
  all_goals decide
theorem auth_any (m : Int) (w : World) :
    Calls Try.prog 46 #[.int .i64 m] w fun e w' => ∃ D k c, e = .returned (.slice D k c) ∧ Own w' w.heap.size (.slice D k c) (authB m) ∧ Below w.heap.size w w' ∧ (authB m = [] → D = none ∧ k = 0 ∧ c = 0) := by
  by_cases h1 : m = 1
  · subst h1
    have LO := Lib.hid (low2_any 49187 w (by omega) (by omega))
    go_enter Try.func46, Try.ntmps46
    go_wp2_with (go_at_call 101; ((with_reducible refine LO.out.mono ?_); rintro e w' ⟨rfl, ho, hb⟩; have HO := Lib.hid (And.intro ho hb); clear ho hb))
    go_ret
    exact ⟨_, _, _, rfl, HO.out.1, HO.out.2, fun h => by cases h⟩
  by_cases h3 : m = 3
  · subst h3
    have LO := Lib.hid (low2_any 49703 w (by omega) (by omega))
    go_enter Try.func46, Try.ntmps46
    go_wp2_with (go_at_call 101; ((with_reducible refine LO.out.mono ?_); rintro e w' ⟨rfl, ho, hb⟩; have HO := Lib.hid (And.intro ho hb); clear ho hb))
    go_ret
    exact ⟨_, _, _, rfl, HO.out.1, HO.out.2, fun h => by cases h⟩
  by_cases h2 : m = 2
  · subst h2
    have LO : Hid (Calls Try.prog 101 #[.int .u64 49699, .int .i64 2] w fun e w1 => ∃ D c, e = .returned (.slice D 2 c) ∧ ∃ F k f w2, (Builtin.append_ #[52, 52] 52 #[.slice D 2 c, .slice (some ⟨w1.heap.size, 0, none⟩) 1 1]).run Try.prog (w1.alloc (.cells #[.int .u8 5] 5)) = .ok (.slice F k f) w2 ∧
        Own w2 w.heap.size (.slice F k f) (authB 2) ∧ Below w.heap.size w w2) := by
      refine (low2_any 49699 w (by omega) (by omega)).mono ?_
      rintro e w1 ⟨rfl, ho, hb⟩
      refine ⟨_, _, rfl, ?_⟩
      have B1 : Below w1.heap.size w1 (w1.alloc (.cells #[.int .u8 5] 5)) := (Below.refl _ _).alloc (Nat.le_refl _) _
      have ho1 := ho.later B1
      have s1 := hb.size
      have hr : Rd (w1.alloc (.cells #[.int .u8 5] 5)) (w1.heap.size + 1) (some ⟨w1.heap.size, 0, none⟩) 1 [5] := by
        have h := blk_new w1 5 [.int .u8 5]
        refine ⟨rfl, fun _ => ⟨w1.heap.size, 0, rfl, by omega, fun j hj => ?_⟩⟩
        obtain rfl : j = 0 := by omega
        exact h.cell 0
      obtain ⟨v, w2, r2, o2, g2, _⟩ := append_run ho1 1 hr (fun e => by cases e) (by rw [putB_length]; omega) (by simp; omega)
      obtain ⟨F, f, rfl, _⟩ := own_rdv1 o2
      exact ⟨F, _, f, w2, r2, o2, below_own (hb.alloc s1 _) ho1 g2 (Nat.le_refl _) (by simp; omega)⟩
    go_enter Try.func46, Try.ntmps46
    go_wp2_with (first
      | (go_at_call 101; ((with_reducible refine LO.out.mono ?_); rintro e w1 ⟨D, c, rfl, F, k, f, w2, hr, ho, hb⟩; have HR := Lib.hid hr; have HO := Lib.hid (And.intro ho hb); clear hr ho hb))
      | (at_builtin; refine wpList_app rfl (.tmp 9) (.tmp 10) rfl _ _ rfl rfl _ _ HR.out ?_))
    go_ret
    exact ⟨_, _, _, rfl, HO.out.1, HO.out.2, fun h => by cases h⟩
  · have e1 : (m == 1) = false := by simpa using h1
    have e2 : (m == 2) = false := by simpa using h2
    have e3 : (m == 3) = false := by simpa using h3
    have e0 : authB m = [] := by unfold authB; rw [if_neg h1, if_neg h2, if_neg h3]
    rw [e0]
    clear h1 h2 h3 e0
    go_enter Try.func46, Try.ntmps46
    go_wp2
    go_ret
    exact ⟨none, 0, 0, rfl, Own.nil _ _, Below.refl _ _, fun _ => ⟨rfl, rfl, rfl⟩⟩
theorem mth_at (l : List UInt8) (k : Nat) (h1 : 1 ≤ k) (h3 : k ≤ 3) (hno : ∀ j : Nat, 1 ≤ j → j < k → l ≠ authB j) (he : l = authB k) : mth l = k := by
  unfold mth
  rcases (show k = 1 ∨ k = 2 ∨ k = 3 by omega) with rfl | rfl | rfl
  · rw [if_pos (show l = authB 1 from he)]; rfl
  · rw [if_neg (show ¬ l = authB 1 from hno 1 (by omega) (by omega)), if_pos (show l = authB 2 from he)]; rfl
  · rw [if_neg (show ¬ l = authB 1 from hno 1 (by omega) (by omega)), if_neg (show ¬ l = authB 2 from hno 2 (by omega) (by omega)), if_pos (show l = authB 3 from he)]; rfl
theorem mth_no (l : List UInt8) (hno : ∀ j : Nat, 1 ≤ j → j < 4 → l ≠ authB j) : mth l = 0 := by
  unfold mth
  rw [if_neg (show ¬ l = authB 1 from hno 1 (by omega) (by omega)), if_neg (show ¬ l = authB 2 from hno 2 (by omega) (by omega)), if_neg (show ¬ l = authB 3 from hno 3 (by omega) (by omega))]
theorem method_any (A : Option Addr) (n c B : Nat) (l : List UInt8) (w : World) (hr : Rd w B A n l) (hB : B ≤ w.heap.size) :
    Calls Try.prog 49 #[.slice A n c] w fun e w' => e = .returned (.int .i64 (mth l)) ∧ Below w.heap.size w w' := by
  have HR := Lib.hid hr
  clear hr
  go_enter Try.func49, Try.ntmps49
  go_wp2
  go_loopw [3] (fun i wr => ∃ (W : World) (k : Nat), W = wr ∧ 1 ≤ k ∧ k ≤ 4 ∧ i = .int .i64 k ∧ Hid (Below w.heap.size w W ∧ ∀ j : Nat, 1 ≤ j → j < k → l ≠ authB j)) (fun i _ => 4 - (intOf i).toNat)
  case atStart => exact ⟨_, 1, rfl, by omega, by omega, rfl, Below.refl _ _, fun j h1 h2 => by omega⟩
  case round =>
    obtain ⟨wr, k, rfl, hk1, hk4, rfl, hJ⟩ := hrel
    obtain ⟨hBw, hno⟩ := hJ.out
    by_cases hlt : k ≤ 3
    · have s1 := hBw.size
      have AU : Hid (Calls Try.prog 46 #[.int .i64 k] wr fun e w1 => ∃ D m d, e = .returned (.slice D m d) ∧
          Calls Try.prog 111 #[.slice A n c, .slice D m d] w1 fun e w2 => e = .returned (.bool (decide (l = authB k))) ∧ w1 = w2 ∧ Below w.heap.size w w1) := by
        refine (auth_any k wr).mono ?_
        rintro e w1 ⟨D, m, d, rfl, ho, hb, -⟩
        have B1 := hBw.trans (hb.mono s1)
        refine ⟨D, m, d, rfl, (bequal_any A D n m c d w1.heap.size l (authB k) w1 ((HR.out.below (B1.mono hB)).wide (by have := B1.size; omega)) ho.rdAll).mono ?_⟩
        rintro e w2 ⟨rfl, rfl⟩
        exact ⟨rfl, rfl, B1⟩
      by_cases he : l = authB k
      · rw [decide_eq_true he] at AU
        have HM := Lib.hid (mth_at l k hk1 hlt hno he)
        clear hBw hno hJ he
        go_wp2_with (first
          | (go_at_call 46; ((with_reducible refine AU.out.mono ?_); rintro e w1 ⟨D, m, d, rfl, hq⟩; have HQ := Lib.hid hq; clear hq))
          | (go_at_call 111; ((with_reducible refine HQ.out.mono ?_); rintro e w2 ⟨rfl, rfl, hb⟩; have HB := Lib.hid hb; clear hb)))
        go_ret
        exact ⟨by rw [HM.out]; rfl, HB.out⟩
      · rw [decide_eq_false he] at AU
        have HN := Lib.hid (show ∀ j : Nat, 1 ≤ j → j < k + 1 → l ≠ authB j from fun j h1 h2 => by
          rcases Nat.lt_succ_iff_lt_or_eq.1 h2 with h | h
          · exact hno j h1 h
          · rw [h]; exact he)
        clear hBw hno hJ he
        go_wp2_with (first
          | (go_at_call 46; ((with_reducible refine AU.out.mono ?_); rintro e w1 ⟨D, m, d, rfl, hq⟩; have HQ := Lib.hid hq; clear hq))
          | (go_at_call 111; ((with_reducible refine HQ.out.mono ?_); rintro e w2 ⟨rfl, rfl, hb⟩; have HB := Lib.hid hb; clear hb)))
        go_roundw
        case rel => exact ⟨_, k + 1, rfl, by omega, by omega, by go_num, HB.out, HN.out⟩
        case measure => simp [intOf]; omega
    · have : k = 4 := by omega
      subst this
      have HM := Lib.hid (mth_no l hno)
      have HB := Lib.hid hBw
      clear hBw hno hJ
      go_wp2
      go_ret
      exact ⟨by rw [HM.out]; rfl, HB.out⟩
end Go.Proofs.Ytonbdcajepmgbaa
namespace Go.Proofs.Ytonbdcajepmgbaa
open Go.RowKit
set_option maxRecDepth 100000
set_option maxHeartbeats 1000000
set_option linter.unusedSimpArgs false
set_option linter.unusedVariables false

/-- nothing below base has turned, but block g -/
structure Turn (base g : Nat) (w w' : World) : Prop where
  os : w'.os = w.os
  tape : w'.tape = w.tape
  output : w'.output = w.output
  size : w.heap.size ≤ w'.heap.size
  block : ∀ i, i < base → i ≠ g → w'.heap[i]? = w.heap[i]?
theorem Turn.refl (base g : Nat) (w : World) : Turn base g w w := ⟨rfl, rfl, rfl, Nat.le_refl _, fun _ _ _ => rfl⟩
theorem Turn.trans {base g : Nat} {a b c : World} (h : Turn base g a b) (k : Turn base g b c) : Turn base g a c :=
  ⟨k.os.trans h.os, k.tape.trans h.tape, k.output.trans h.output, Nat.le_trans h.size k.size, fun i h1 h2 => (k.block i h1 h2).trans (h.block i h1 h2)⟩
theorem Turn.of_below {base g B : Nat} {w w' : World} (h : Below B w w') (hB : base ≤ B) : Turn base g w w' := ⟨h.os, h.tape, h.output, h.size, fun i h1 _ => h.block i (by omega)⟩
theorem Turn.below {base g B : Nat} {a w w' : World} (h : Turn base g w w') (hb : Below B a w) (hg : B ≤ g) (hB : B ≤ base) : Below B a w' :=
  ⟨h.os.trans hb.os, h.tape.trans hb.tape, h.output.trans hb.output, Nat.le_trans hb.size h.size, fun i hi => (h.block i (by omega) (by omega)).trans (hb.block i hi)⟩
/-- the variable at block g holds a list of the call's own -/
def OutAt (w : World) (base g : Nat) (s : List Opt) : Prop := ∃ v, Blk w g 55 [v] ∧ OwnL w base v s ∧ g < base ∧ base ≤ w.heap.size
theorem OutAt.later {w w' : World} {base g : Nat} {s : List Opt} (h : OutAt w base g s) (hB : Below w.heap.size w w') : OutAt w' base g s := by
  obtain ⟨v, h1, h2, h3, h4⟩ := h
  exact ⟨v, (hB.block g h1.lt).trans h1, h2.later hB, h3, Nat.le_trans h4 hB.size⟩
theorem OutAt.drew {w : World} {base g : Nat} {s : List Opt} (h : OutAt w base g s) : OutAt w.drew base g s := h
theorem add_no (K : Int) (D : Option Addr) (k c g : Nat) (w : World) :
    Calls Try.prog 100 #[.int .i64 K, .bool false, .slice D k c, .pointer (some ⟨g, 0, none⟩)] w fun e w' => e = .returned (.tuple #[]) ∧ w = w' := by
  go_enter Try.func100, Try.ntmps100
  go_wp2
  go_end0
  exact ⟨rfl, rfl⟩
theorem add_yes (K : Int) (D : Option Addr) (k c g base : Nat) (l : List UInt8) (s : List Opt) (w : World) (h : OutAt w base g s) (ho : Own w base (.slice D k c) l) (hs : s.length ≤ 1000) :
    Calls Try.prog 100 #[.int .i64 K, .bool true, .slice D k c, .pointer (some ⟨g, 0, none⟩)] w fun e w' => e = .returned (.tuple #[]) ∧ OutAt w' base g (s ++ [(K, l)]) ∧ Turn base g w w' ∧ ∀ u l', Own w base u l' → Own w' base u l' := by
  obtain ⟨v, hb, hv, hg, hbs⟩ := h
  obtain ⟨A, m, hA⟩ : ∃ A m, v = .slice A s.length m := hv.shape
  subst hA
  have hgl := hb.lt
  have c0 : w.cell? ⟨g, 0, none⟩ = some (.slice A s.length m) := hb.cell 0
  have f0 := hb.frozen 0
  have B1 : Below w.heap.size w (w.alloc (.cells #[.int .i64 K, .slice D k c] 70)) := (Below.refl _ _).alloc (Nat.le_refl _) _
  have k1 := blk_new w 70 [.int .i64 K, .slice D k c]
  obtain ⟨v', w', hrun, h4, h5, h6⟩ := appL_run (hv.later B1) w.heap.size K D k c l (k1.cell 0) (k1.cell 1) (ho.later B1) (by omega) (by simp; omega)
  have hvb := fun q hq => ((hv.later B1).block q hq).1
  obtain ⟨A', m', hA'⟩ := h4.shape
  have s5 := h5.size
  rw [World.size_alloc] at s5
  have hgv : some g ≠ (Value.slice A s.length m).ownBlock := by
    intro e
    have := hvb g e.symm
    omega
  have hbw : Blk w' g 55 [.slice A s.length m] := by
    refine (h5.block g (by simp; omega) hgv).trans ((B1.block g (by omega)).trans hb)
  have x0 : w'.cell? ⟨g, 0, none⟩ = some (.slice A s.length m) := hbw.cell 0
  have y0 := hbw.frozen 0
  have st : w'.grownBy (w'.setCell ⟨g, 0, none⟩ v') (some g) := only_set (p := ⟨g, 0, none⟩) _
  have HE : Hid (OutAt (w'.setCell ⟨g, 0, none⟩ v') base g (s ++ [(K, l)]) ∧ Turn base g w (w'.setCell ⟨g, 0, none⟩ v') ∧ ∀ u l', Own w base u l' → Own (w'.setCell ⟨g, 0, none⟩ v') base u l') := by
    refine ⟨⟨v', hbw.set_ 0 v', ?_, hg, by have := st.size; omega⟩, ?_, fun u l' hu => ?_⟩
    · obtain ⟨cs, q1, q2⟩ := h4
      have nb : ∀ {u : Value}, (∀ k, u.ownBlock = some k → base ≤ k) → u.ownBlock = none ∨ u.ownBlock ≠ some g := fun {u} hu => by
        rcases e : u.ownBlock with _ | k
        · exact .inl rfl
        · have := hu k e
          exact .inr (fun e => by injection e; omega)
      refine ⟨cs, q1.grown st (nb fun k hk => (q1.block k hk).1), fun i hi => ?_⟩
      obtain ⟨a1, E, k, c, a2, a3⟩ := q2 i hi
      exact ⟨a1, E, k, c, a2, a3.grown st (nb fun k hk => (a3.block k hk).1)⟩
    · have hG : w.grownBy w' ((Value.slice A s.length m).ownBlock) := only_then (only_of_below B1 _) h5 (fun q e => .inl e)
      refine ⟨st.os.trans hG.os, st.tape.trans hG.tape, st.output.trans hG.output, Nat.le_trans hG.size st.size, fun i hi hne => ?_⟩
      refine (st.block i (by omega) (fun e => hne (by injection e))).trans (hG.block i (by omega) (fun e => ?_))
      have := hvb i e.symm
      omega
    · have u1 := hu.later B1
      have hvl := hv.later B1
      obtain ⟨cs, q1, _⟩ := hvl
      have u2 := u1.grown h5 (own_other q1 u1)
      refine u2.grown st ?_
      rcases e : u.ownBlock with _ | k
      · exact .inl rfl
      · have := (hu.block k e).1
        exact .inr (fun e => by injection e; omega)
  have hlen : s.length ≤ 9223372036854775807 := by omega
  obtain ⟨n, hn⟩ : ∃ n, s.length = n := ⟨_, rfl⟩
  rw [hA'] at hrun HE
  obtain ⟨n', hn'⟩ : ∃ n', (s ++ [(K, l)]).length = n' := ⟨_, rfl⟩
  rw [hn'] at hrun HE
  rw [hn] at hrun c0 x0
  have R := Lib.hid hrun
  clear hb hv ho hrun h4 h5 h6 hvb hA' s5 hgv hbw st k1 B1 hn hn' hlen hs
  go_enter Try.func100, Try.ntmps100
  go_wp2_with (at_builtin; refine wpList_appO 55 55 rfl (.tmp 8) (.tmp 12) rfl _ _ rfl rfl _ _ R.out ?_)
  go_end0
  exact ⟨rfl, HE.out⟩
theorem add_any (K : Int) (b : Bool) (D : Option Addr) (k c g base : Nat) (l : List UInt8) (s : List Opt) (w : World) (h : OutAt w base g s) (ho : Own w base (.slice D k c) l) (hs : s.length ≤ 1000) :
    Calls Try.prog 100 #[.int .i64 K, .bool b, .slice D k c, .pointer (some ⟨g, 0, none⟩)] w fun e w' => e = .returned (.tuple #[]) ∧ OutAt w' base g (s ++ if b then [(K, l)] else []) ∧ Turn base g w w' ∧ ∀ u l', Own w base u l' → Own w' base u l' := by
  cases b
  · refine (add_no K D k c g w).mono ?_
    rintro e w' ⟨rfl, rfl⟩
    refine ⟨rfl, ?_, Turn.refl _ _ _, fun _ _ h => h⟩
    simpa using h
  · exact add_yes K D k c g base l s w h ho hs
end Go.Proofs.Ytonbdcajepmgbaa
namespace Go.Proofs.Ytonbdcajepmgbaa
open Go.RowKit
set_option maxRecDepth 100000
set_option maxHeartbeats 2000000
set_option linter.unusedSimpArgs false
set_option linter.unusedVariables false

/-- what a direction has -/
structure LOpts where
  mru : Int
  accm : Int
  auth : Int
  magic : Int
  pfc : Bool
  acfc : Bool
deriving DecidableEq
def LOpts.cells (o : LOpts) : List Value := [.int .i64 o.mru, .int .i64 o.accm, .int .i64 o.auth, .int .u32 o.magic, .bool o.pfc, .bool o.acfc]
def LOpts.val (o : LOpts) : Value := .agg #[.int .i64 o.mru, .int .i64 o.accm, .int .i64 o.auth, .int .u32 o.magic, .bool o.pfc, .bool o.acfc]
def LOpts.wf (o : LOpts) : Prop := (-9223372036854775808 ≤ o.mru ∧ o.mru ≤ 9223372036854775807) ∧ (-9223372036854775808 ≤ o.accm ∧ o.accm ≤ 9223372036854775807) ∧ (-9223372036854775808 ≤ o.auth ∧ o.auth ≤ 9223372036854775807) ∧ (0 ≤ o.magic ∧ o.magic < 4294967296)
def u64 (x : Int) : Int := IntKind.u64.wrap x
def opt1 (o : LOpts) : List Opt := if o.mru != 1500 then [(1, putB (u64 o.mru).toNat 2)] else []
def opt2 (o : LOpts) : List Opt := if o.accm != 4294967295 then [(2, putB (u64 o.accm).toNat 4)] else []
def opt3 (o : LOpts) : List Opt := if !(authB o.auth).isEmpty then [(3, authB o.auth)] else []
def opt4 (o : LOpts) : List Opt := if o.magic != 0 then [(5, putB (u64 o.magic).toNat 4)] else []
def opt5 (o : LOpts) : List Opt := if o.pfc then [(7, [])] else []
def opt6 (o : LOpts) : List Opt := if o.acfc then [(8, [])] else []
def optsOf (o : LOpts) : List Opt := (((((opt1 o ++ opt2 o) ++ opt3 o) ++ opt4 o) ++ opt5 o) ++ opt6 o)
/-- behind some options -/
def OJ (w0 W : World) (o : LOpts) (s : List Opt) : Prop := Blk W w0.heap.size 76 o.cells ∧ OutAt W (w0.heap.size + 2) (w0.heap.size + 1) s ∧ Below w0.heap.size w0 W
theorem OJ.later {w0 W W' : World} {o : LOpts} {s : List Opt} (h : OJ w0 W o s) (hB : Below W.heap.size W W') : OJ w0 W' o s :=
  ⟨(hB.block _ h.1.lt).trans h.1, h.2.1.later hB, h.2.2.trans (hB.mono h.2.2.size)⟩
theorem OJ.turn {w0 W W' : World} {o : LOpts} {s t : List Opt} (h : OJ w0 W o s) (k : Turn (w0.heap.size + 2) (w0.heap.size + 1) W W') (ht : OutAt W' (w0.heap.size + 2) (w0.heap.size + 1) t) : OJ w0 W' o t :=
  ⟨(k.block _ (by omega) (by omega)).trans h.1, ht, k.below h.2.2 (by omega) (by omega)⟩
theorem OJ.drew {w0 W : World} {o : LOpts} {s : List Opt} (h : OJ w0 W o s) : OJ w0 W.drew o s := ⟨h.1, h.2.1, below_drewN h.2.2 1⟩
def cells6 (W : World) (g : Nat) (o : LOpts) : Prop := W.cell? ⟨g, 0, none⟩ = some (.int .i64 o.mru) ∧ W.cell? ⟨g, 1, none⟩ = some (.int .i64 o.accm) ∧ W.cell? ⟨g, 2, none⟩ = some (.int .i64 o.auth) ∧ W.cell? ⟨g, 3, none⟩ = some (.int .u32 o.magic) ∧ W.cell? ⟨g, 4, none⟩ = some (.bool o.pfc) ∧ W.cell? ⟨g, 5, none⟩ = some (.bool o.acfc)
theorem OJ.six {w0 W : World} {o : LOpts} {s : List Opt} (h : OJ w0 W o s) : cells6 W w0.heap.size o := ⟨h.1.cell 0, h.1.cell 1, h.1.cell 2, h.1.cell 3, h.1.cell 4, h.1.cell 5⟩
/-- a number's bytes, then an option more -/
def Two (w0 W : World) (o : LOpts) (x z K : Int) (b : Bool) (R : World → Prop) : Prop :=
  Calls Try.prog 101 #[.int .u64 x, .int .i64 z] W.drew fun e w1 => ∃ D k c, e = .returned (.slice D k c) ∧ cells6 w1 w0.heap.size o ∧
    Calls Try.prog 100 #[.int .i64 K, .bool b, .slice D k c, .pointer (some ⟨w0.heap.size + 1, 0, none⟩)] w1 fun e w2 => e = .returned (.tuple #[]) ∧ cells6 w2 w0.heap.size o ∧ R w2
def One (w0 W : World) (o : LOpts) (K : Int) (b : Bool) (D : Option Addr) (k c : Nat) (R : World → Prop) : Prop :=
  Calls Try.prog 100 #[.int .i64 K, .bool b, .slice D k c, .pointer (some ⟨w0.heap.size + 1, 0, none⟩)] W fun e w2 => e = .returned (.tuple #[]) ∧ cells6 w2 w0.heap.size o ∧ R w2
theorem one_step {w0 W : World} {o : LOpts} {s : List Opt} (h : OJ w0 W o s) (K : Int) (b : Bool) (D : Option Addr) (k c : Nat) (l : List UInt8) (ho : Own W (w0.heap.size + 2) (.slice D k c) l) (hs : s.length ≤ 1000) {R : World → Prop}
    (hR : ∀ w2, OJ w0 w2 o (s ++ if b then [(K, l)] else []) → (∀ u l', Own W (w0.heap.size + 2) u l' → Own w2 (w0.heap.size + 2) u l') → R w2) : One w0 W o K b D k c R := by
  refine (add_any K b D k c _ _ l s W h.2.1 ho hs).mono ?_
  rintro e w2 ⟨rfl, h2, h3, h4⟩
  have := h.turn h3 h2
  exact ⟨rfl, this.six, hR _ this h4⟩
theorem below_undrew' {w w' : World} (h : Below w.drew.heap.size w.drew w') : Below w.heap.size w w' := ⟨h.os, h.tape, h.output, h.size, fun i hi => h.block i hi⟩
theorem two_step2 {w0 W : World} {o : LOpts} {s : List Opt} (h : OJ w0 W o s) (x K : Int) (b : Bool) (hx0 : 0 ≤ x) (hx : x < 18446744073709551616) (hs : s.length ≤ 1000) {R : World → Prop}
    (hR : ∀ w2, OJ w0 w2 o (s ++ if b then [(K, putB x.toNat 2)] else []) → (∀ u l', Own W (w0.heap.size + 2) u l' → Own w2 (w0.heap.size + 2) u l') → R w2) : Two w0 W o x 2 K b R := by
  have hz := h.2.1
  obtain ⟨_, _, _, _, hz⟩ := hz
  refine (low2_any x W.drew hx0 hx).mono ?_
  rintro e w1 ⟨rfl, ho, hb⟩
  have hb' := below_undrew' hb
  refine ⟨_, _, _, rfl, (h.later hb').six, one_step (h.later hb') K b _ _ _ _ (ho.base_le hz) hs fun w2 h2 h3 => hR w2 h2 fun u l' hu => h3 u l' (hu.later hb')⟩
theorem two_step4 {w0 W : World} {o : LOpts} {s : List Opt} (h : OJ w0 W o s) (x K : Int) (b : Bool) (hx0 : 0 ≤ x) (hx : x < 18446744073709551616) (hs : s.length ≤ 1000) {R : World → Prop}
    (hR : ∀ w2, OJ w0 w2 o (s ++ if b then [(K, putB x.toNat 4)] else []) → (∀ u l', Own W (w0.heap.size + 2) u l' → Own w2 (w0.heap.size + 2) u l') → R w2) : Two w0 W o x 4 K b R := by
  have hz := h.2.1
  obtain ⟨_, _, _, _, hz⟩ := hz
  refine (low4_any x W.drew hx0 hx).mono ?_
  rintro e w1 ⟨rfl, ho, hb⟩
  have hb' := below_undrew' hb
  refine ⟨_, _, _, rfl, (h.later hb').six, one_step (h.later hb') K b _ _ _ _ (ho.base_le hz) hs fun w2 h2 h3 => hR w2 h2 fun u l' hu => h3 u l' (hu.later hb')⟩
theorem u64_bd (x : Int) : 0 ≤ u64 x ∧ u64 x < 18446744073709551616 := by
  unfold u64
  rw [IntKind.wrap_u64]
  omega
/-- the calls, one behind the other -/
def OEnd (w : World) (o : LOpts) (W6 : World) : Prop := ∃ A n d, W6.cell? ⟨w.heap.size + 1, 0, none⟩ = some (.slice A n d) ∧ n = (optsOf o).length ∧ OwnL W6 w.heap.size (.slice A n d) (optsOf o) ∧ Below w.heap.size w W6
def OR4 (w : World) (o : LOpts) (W4 : World) : Prop := One w W4 o 7 o.pfc none 0 0 fun W5 => One w W5 o 8 o.acfc none 0 0 fun W6 => OEnd w o W6
def OR3 (w : World) (o : LOpts) (W3 : World) : Prop := Two w W3 o (u64 o.magic) 4 5 (o.magic != 0) fun W4 => OR4 w o W4
def OR2 (w : World) (o : LOpts) (D : Option Addr) (k c : Nat) (W2 : World) : Prop := One w W2 o 3 (!(authB o.auth).isEmpty) D k c fun W3 => OR3 w o W3
def OR1 (w : World) (o : LOpts) (D : Option Addr) (k c : Nat) (W1 : World) : Prop := Two w W1 o (u64 o.accm) 4 2 (o.accm != 4294967295) fun W2 => OR2 w o D k c W2
def OptC (w W : World) (o : LOpts) : Prop :=
  Calls Try.prog 46 #[.int .i64 o.auth] W fun e W0 => ∃ D k c, e = .returned (.slice D k c) ∧ cells6 W0 w.heap.size o ∧
    (∀ X, (binOp .neq 52 (.slice D k c) (.slice none 0 0)).run Try.prog X = .ok (.bool (!(authB o.auth).isEmpty)) X) ∧
    Two w W0 o (u64 o.mru) 2 1 (o.mru != 1500) fun W1 => OR1 w o D k c W1
theorem ite_len (b : Bool) (x : Opt) : (if b then [x] else []).length ≤ 1 := by cases b <;> simp
theorem nne_no (W : World) : (binOp .neq 52 (.slice none 0 0) (.slice none 0 0)).run Try.prog W = .ok (.bool false) W := by kernel_rfl
theorem nne_yes (W : World) (a : Addr) (n c : Nat) : (binOp .neq 52 (.slice (some a) n c) (.slice none 0 0)).run Try.prog W = .ok (.bool true) W := by kernel_rfl
theorem opt_c (w W : World) (o : LOpts) (hw : o.wf) (h : OJ w W o []) : OptC w W o := by
  refine (auth_any o.auth W).mono ?_
  rintro e W0 ⟨D, k, c, rfl, ho, hb, hn⟩
  have h0 := h.later hb
  have hz := h.2.1
  obtain ⟨_, _, _, _, hz⟩ := hz
  have ho := ho.base_le hz
  refine ⟨D, k, c, rfl, h0.six, fun X => ?_, ?_⟩
  · by_cases he : authB o.auth = []
    · obtain ⟨rfl, rfl, rfl⟩ := hn he
      rw [he]
      exact nne_no X
    · rcases ho.form with ⟨_, h2⟩ | ⟨q, cap, e, _⟩
      · exact absurd h2 he
      · injection e with e1 e2 e3
        subst e1
        have : (authB o.auth).isEmpty = false := by
          rcases h3 : authB o.auth with _ | ⟨a, t⟩
          · exact absurd h3 he
          · rfl
        rw [this]
        exact nne_yes X _ _ _
  have b1 := u64_bd o.mru
  have b2 := u64_bd o.accm
  have l1 := ite_len (o.mru != 1500) (1, putB (u64 o.mru).toNat 2)
  have l2 := ite_len (o.accm != 4294967295) (2, putB (u64 o.accm).toNat 4)
  have l3 := ite_len (!(authB o.auth).isEmpty) (3, authB o.auth)
  have l4 := ite_len (o.magic != 0) (5, putB (u64 o.magic).toNat 4)
  have l5 := ite_len o.pfc (7, [])
  have b4 := u64_bd o.magic
  refine two_step2 h0 _ _ _ b1.1 b1.2 (by simp) fun W1 h1 k1 => ?_
  rw [List.nil_append] at h1
  refine two_step4 h1 _ _ _ b2.1 b2.2 (by omega) fun W2 h2 k2 => ?_
  refine one_step h2 _ _ _ _ _ _ (k2 _ _ (k1 _ _ ho)) (by rw [List.length_append]; omega) fun W3 h3 k3 => ?_
  refine two_step4 h3 _ _ _ b4.1 b4.2 (by rw [List.length_append, List.length_append]; omega) fun W4 h4 k4 => ?_
  refine one_step h4 _ _ _ _ _ [] (Own.nil _ _) (by rw [List.length_append, List.length_append, List.length_append]; omega) fun W5 h5 k5 => ?_
  refine one_step h5 _ _ _ _ _ [] (Own.nil _ _) (by rw [List.length_append, List.length_append, List.length_append, List.length_append]; omega) fun W6 h6 k6 => ?_
  obtain ⟨v, q1, q2, q3, q4⟩ := h6.2.1
  obtain ⟨A, d, rfl⟩ := q2.shape
  exact ⟨A, _, d, q1.cell 0, rfl, q2.base_le (by omega), h6.2.2⟩
theorem options_lcp (o : LOpts) (w : World) (hw : o.wf) :
    Calls Try.prog 39 #[o.val] w fun e w' => ∃ A n c, e = .returned (.slice A n c) ∧ n = (optsOf o).length ∧ OwnL w' w.heap.size (.slice A n c) (optsOf o) ∧ Below w.heap.size w w' := by
  have hmf : ∀ (fn : Fn) (first cap : Array Value) (w : World), (Instr.makeFunc fn first cap).run Try.prog w = .ok (.func fn first cap) w := fun _ _ _ _ => rfl
  have C := opt_c w ((w.alloc (.cells #[.int .i64 o.mru, .int .i64 o.accm, .int .i64 o.auth, .int .u32 o.magic, .bool o.pfc, .bool o.acfc] 76)).alloc (.cells #[.slice none 0 0] 55)) o hw (by
    have B2 : Below w.heap.size w ((w.alloc (.cells #[.int .i64 o.mru, .int .i64 o.accm, .int .i64 o.auth, .int .u32 o.magic, .bool o.pfc, .bool o.acfc] 76)).alloc (.cells #[.slice none 0 0] 55)) := ((Below.refl _ _).alloc (Nat.le_refl _) _).alloc (by simp) _
    have h2 := blk_new (w.alloc (.cells #[.int .i64 o.mru, .int .i64 o.accm, .int .i64 o.auth, .int .u32 o.magic, .bool o.pfc, .bool o.acfc] 76)) 55 [.slice none 0 0]
    rw [World.size_alloc] at h2
    exact ⟨(Below.heap_alloc _ _ _ (by simp)).trans (blk_new w _ o.cells), ⟨_, h2, OwnL.nil _ _, by omega, by simp⟩, B2⟩)
  have BD : o.wf := hw
  obtain ⟨⟨m1, m2⟩, ⟨a1, a2⟩, ⟨u1, u2⟩, ⟨g1, g2⟩⟩ := BD
  unfold OptC at C
  simp only [Two, cells6, u64] at C
  have CC := Lib.hid C
  clear C hw
  unfold LOpts.val
  go_enter Try.func39, Try.ntmps39
  go_upto_region 4 with (go_at_call 46; ((with_reducible refine CC.out.mono ?_); rintro e w0 ⟨D, k, c, rfl, ⟨x0, x1, x2, x3, x4, x5⟩, hne, n1⟩; have N1 := Lib.hid n1; clear n1))
  go_cut [] from 6 (fun W => Hid (cells6 W w.heap.size o ∧ OR1 w o D k c W))
  case first =>
    go_region_law (first
      | (go_simp; go_at_call 101; (with_reducible refine N1.out.mono ?_); rintro e w1 ⟨D1, k1, c1, rfl, ⟨z0, z1, z2, z3, z4, z5⟩, n2⟩; have N2 := Lib.hid n2; clear n2)
      | (go_simp; go_at_call 100; (with_reducible refine N2.out.mono ?_); rintro e w2 ⟨rfl, h6, h7⟩; have N3 := Lib.hid (And.intro h6 h7); clear h6 h7))
    all_goals
      go_wp2_with fail
      go_meet
      case rel => exact N3.out
  case rest =>
    obtain ⟨⟨x0, x1, x2, x3, x4, x5⟩, h1⟩ := hcut.out
    unfold OR1 at h1
    simp only [Two, cells6, u64] at h1
    have N1 := Lib.hid h1
    clear h1 hcut CC
    go_upto_region 5 with (fail)
    go_cut [] from 6 (fun W => Hid (cells6 W w.heap.size o ∧ OR2 w o D k c W))
    case first =>
      go_region_law (first
        | (go_simp; go_at_call 101; (with_reducible refine N1.out.mono ?_); rintro e w1 ⟨D1, k1, c1, rfl, ⟨z0, z1, z2, z3, z4, z5⟩, n2⟩; have N2 := Lib.hid n2; clear n2)
        | (go_simp; go_at_call 100; (with_reducible refine N2.out.mono ?_); rintro e w2 ⟨rfl, h6, h7⟩; have N3 := Lib.hid (And.intro h6 h7); clear h6 h7))
      all_goals
        go_wp2_with fail
        go_meet
        case rel => exact N3.out
    case rest =>
      obtain ⟨-, h1⟩ := hcut.out
      clear x0 x1 x2 x3 x4 x5
      unfold OR2 at h1
      simp only [One] at h1
      have N1 := Lib.hid h1
      clear h1 hcut
      go_upto_region 7 with (go_at_call 100; ((with_reducible refine N1.out.mono ?_); rintro e w2 ⟨rfl, ⟨x0, x1, x2, x3, x4, x5⟩, h7⟩; (unfold OR3 at h7; simp only [Two, cells6, u64] at h7; have N4 := Lib.hid h7); clear h7))
      go_cut [] from 6 (fun W => Hid (cells6 W w.heap.size o ∧ OR4 w o W))
      case first =>
        go_region_law (first
          | (go_simp; go_at_call 101; (with_reducible refine N4.out.mono ?_); rintro e w1 ⟨D1, k1, c1, rfl, ⟨z0, z1, z2, z3, z4, z5⟩, n2⟩; have N2 := Lib.hid n2; clear n2)
          | (go_simp; go_at_call 100; (with_reducible refine N2.out.mono ?_); rintro e w2 ⟨rfl, h6, h7⟩; have N3 := Lib.hid (And.intro h6 h7); clear h6 h7))
        all_goals
          go_wp2_with fail
          go_meet
          case rel => exact N3.out
      case rest =>
        obtain ⟨⟨y0, y1, y2, y3, y4, y5⟩, h1⟩ := hcut.out
        clear x0 x1 x2 x3 x4 x5
        unfold OR4 at h1
        simp only [One, cells6, OEnd] at h1
        have N5 := Lib.hid h1
        clear h1 hcut
        go_wp2_with (first
          | (go_at_call 100; ((with_reducible refine N5.out.mono ?_); rintro e w5 ⟨rfl, ⟨v0, v1, v2, v3, v4, v5⟩, h7⟩; have N6 := Lib.hid h7; clear h7))
          | (go_at_call 100; ((with_reducible refine N6.out.mono ?_); rintro e w6 ⟨rfl, -, A, n, d, hc, hn, ho, hb⟩; have HN := Lib.hid (And.intro hn (And.intro ho hb)); clear hn ho hb)))
        go_ret
        exact ⟨A, n, d, rfl, HN.out⟩
end Go.Proofs.Ytonbdcajepmgbaa
