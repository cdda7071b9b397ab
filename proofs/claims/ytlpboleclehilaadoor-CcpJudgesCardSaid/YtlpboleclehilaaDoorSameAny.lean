/-
  tetherref01.Same of any two slices of bytes; tetherref09.One, Same of options and lists; tetherref01.Count.
-/
import Derived.Test.YtlpboleclehilaaDoorSameB
import Derived.Test.YtlpboleclehilaaDoorOpList
import Derived.Deep.RegionLaw
namespace Go.Proofs.YtlpboleclehilaaDoor
open Go.RowKit
set_option maxRecDepth 100000
set_option maxHeartbeats 4000000
set_option linter.unusedSimpArgs false
set_option linter.unusedVariables false

theorem one_any (K J : Int) (A D : Option Addr) (n m c d B : Nat) (l k : List UInt8) (w : World) (hr : Rd w B A n l) (hq : Rd w B D m k) (hB : B ≤ w.heap.size) (hn : n ≤ maxLen) (hm : m ≤ maxLen) :
    Calls Tryd.prog 34 #[.agg #[.int .i64 K, .slice A n c], .agg #[.int .i64 J, .slice D m d]] w fun e w' => e = .returned (.bool (decide (((K, l) : Opt) = (J, k)))) ∧ Below w.heap.size w w' := by
  have hb2 : Below w.heap.size w ((w.alloc (.cells #[.int .i64 K, .slice A n c] 61)).alloc (.cells #[.int .i64 J, .slice D m d] 61)) := ((Below.refl _ _).alloc (Nat.le_refl _) _).alloc (by simp) _
  have SM := Lib.hid (same_any A D n m c d l k _ B (hr.below (hb2.mono hB)) (hq.below (hb2.mono hB)) hn hm)
  have HB := Lib.hid hb2
  clear hb2 hr hq
  by_cases hKJ : K = J
  · have h1 : (K == J) = true := by simp [hKJ]
    rw [show decide (((K, l) : Opt) = (J, k)) = decide (l = k) by simp [hKJ]]
    clear hKJ
    go_enter Tryd.func34, Tryd.ntmps34
    go_wp2_with (go_at_call 51; ((with_reducible refine SM.out.mono ?_); rintro e w2 ⟨rfl, q, rfl⟩))
    go_ret
    exact ⟨rfl, below_drewN HB.out _⟩
  · have h1 : (K == J) = false := by simp [hKJ]
    rw [show decide (((K, l) : Opt) = (J, k)) = false by simp [hKJ]]
    clear hKJ
    go_enter Tryd.func34, Tryd.ntmps34
    go_wp2
    go_ret
    exact ⟨rfl, HB.out⟩
/-- two lists that read alike -/
theorem rsame_yes (A D : Option Addr) (n c d B : Nat) (s : List Opt) (w : World) (hr : OptRd w B A n s) (hq : OptRd w B D n s) (hB : B ≤ w.heap.size) (hn : n ≤ 4398046511104) :
    Calls Tryd.prog 9 #[.slice A n c, .slice D n d] w fun e w' => e = .returned (.bool true) ∧ Below w.heap.size w w' := by
  have heq : ((n : Int) != (n : Int)) = false := by simp
  have HR := Lib.hid (hr.wide hB)
  have HQ := Lib.hid (hq.wide hB)
  clear hr hq
  go_enter Tryd.func9, Tryd.ntmps9
  go_wp2
  go_loopw [5] (fun i wr => ∃ (W : World) (k : Nat), W = wr ∧ k ≤ n ∧ i = .int .i64 k ∧ Hid (Below w.heap.size w W)) (fun i _ => n - (intOf i).toNat)
  case atStart => exact ⟨_, 0, rfl, Nat.zero_le _, rfl, Below.refl _ _⟩
  case round =>
    obtain ⟨wr, k, rfl, hk, rfl, hJ⟩ := hrel
    by_cases hlt : k < n
    · have hl1 := HR.out.1
      have hBw := hJ.out
      have s1 := hBw.size
      obtain ⟨b, off, rfl, hb, hc⟩ := HR.out.2 (by omega)
      obtain ⟨b2, off2, rfl, hb2, hc2⟩ := HQ.out.2 (by omega)
      obtain ⟨x1, E, kk, cc, x2, hRd, _, _, hkb⟩ := hc k (by omega)
      obtain ⟨y1, F, jj, dd, y2, hRd2, _, _, hjb⟩ := hc2 k (by omega)
      obtain ⟨y, hy⟩ : ∃ y, s[k]'(by omega) = y := ⟨_, rfl⟩
      rw [hy] at x1 hRd y1 hRd2
      obtain ⟨K, l⟩ := y
      have d1 : wr.cell? ⟨b, off + k * 2, none⟩ = some (.int .i64 K) := (hBw.cell hb).trans x1
      have d2 : wr.cell? ⟨b, off + k * 2 + 1, none⟩ = some (.slice E kk cc) := (hBw.cell hb).trans x2
      have e1 : wr.cell? ⟨b2, off2 + k * 2, none⟩ = some (.int .i64 K) := (hBw.cell hb2).trans y1
      have e2 : wr.cell? ⟨b2, off2 + k * 2 + 1, none⟩ = some (.slice F jj dd) := (hBw.cell hb2).trans y2
      have ON := one_any K K E F kk jj cc dd w.heap.size l l wr.drew (hRd.below hBw).drew (hRd2.below hBw).drew s1 (by unfold maxLen; omega) (by unfold maxLen; omega)
      rw [decide_eq_true rfl] at ON
      have HO := Lib.hid ON
      clear hc hc2 hJ hy hRd hRd2 x1 x2 y1 y2 ON hl1
      go_wp2
      go_region_law (go_simp; go_at_call 34; (with_reducible refine HO.out.mono ?_); rintro e w3 ⟨rfl, h3⟩; have H3 := Lib.hid (show Below wr.heap.size wr w3 from ⟨h3.os, h3.tape, h3.output, h3.size, fun i hi => h3.block i hi⟩); clear h3)
      all_goals
        go_wp2
        go_roundw
        case rel => exact ⟨_, k + 1, rfl, by omega, by go_num, hBw.trans (H3.out.mono s1)⟩
        case measure => simp [intOf]; omega
    · go_wp2
      go_ret
      exact ⟨rfl, hJ.out⟩
end Go.Proofs.YtlpboleclehilaaDoor
