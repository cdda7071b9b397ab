/-
  The packets that actions send: the program's and the reference's; the law AutoSends.
-/
import Derived.Test.YtpkmddagcfjadaaDoorAuSends
namespace Go.Proofs.YtpkmddagcfjadaaDoor
open Go.RowKit
set_option maxRecDepth 100000
set_option maxHeartbeats 4000000
set_option linter.unusedSimpArgs false
set_option linter.unusedVariables false

/-- the codes lie in the program's variable -/
def TabC (w : World) : Prop := ∀ i, i < 14 → w.cell? ⟨3, i, none⟩ = some (.int .i64 (auCodes.getD i 0))
theorem TabC.lt {w : World} (h : TabC w) : 3 < w.heap.size := World.block_lt_of_cell? _ _ (h 0 (by omega))
theorem TabC.keptB {w w' : World} {base : Nat} (h : TabC w) (hB : Below base w w') (hb : 3 < base) : TabC w' := fun i hi =>
  (hB.cell (p := ⟨3, i, none⟩) hb).trans (h i hi)
/-- the code that one action sends -/
def sn1 (a : Int) : List Int := if a = 7 then [1] else if a = 8 then [2] else if a = 9 then [3] else if a = 10 then [5] else if a = 11 then [6] else if a = 12 then [7] else if a = 13 then [10] else []
def snd (l : List Int) : List Int := l.flatMap sn1
theorem sn1_none {a : Int} (h : ¬ (7 ≤ a ∧ a ≤ 13)) : sn1 a = [] := by
  unfold sn1
  rw [if_neg (by omega), if_neg (by omega), if_neg (by omega), if_neg (by omega), if_neg (by omega), if_neg (by omega), if_neg (by omega)]
theorem sn1_code : ∀ j, j < 14 → sn1 ((j : Nat) : Int) = if auCodes.getD j 0 = 0 then [] else [auCodes.getD j 0] := by decide +kernel
theorem codes_bounds : ∀ j, j < 14 → 0 ≤ auCodes.getD j 0 ∧ auCodes.getD j 0 ≤ 255 := by decide +kernel
theorem snd_snoc {l : List Int} {k : Nat} (hk : k < l.length) : snd (l.take (k + 1)) = snd (l.take k) ++ sn1 (numAt l k) := by
  unfold snd
  rw [List.take_succ_eq_append_getElem hk, List.flatMap_append, numAt_eq hk]
  simp
theorem sn1_length (a : Int) : (sn1 a).length ≤ 1 := by
  unfold sn1
  repeat' split
  all_goals simp
theorem snd_length : ∀ l : List Int, (snd l).length ≤ l.length
  | [] => Nat.le_refl _
  | a :: l => by
    have := snd_length l
    have h := sn1_length a
    unfold snd at *
    rw [List.flatMap_cons, List.length_append, List.length_cons]
    omega
theorem OwnI.shape {w : World} {base : Nat} {v : Value} {l : List Int} (h : OwnI w base v l) : ∃ A m c, v = .slice A m c := by
  obtain ⟨A, c, e, _⟩ := h.slice
  exact ⟨A, _, c, e⟩
def SndJ (w W : World) (l : List Int) (k : Nat) (v : Value) : Prop := OwnI W w.heap.size v (snd (l.take k)) ∧ Below w.heap.size w W
theorem sndJ_same {w W : World} {l : List Int} {k : Nat} {v : Value} {y : Int} (h : SndJ w W l k v) (hk : k < l.length) (hy : numAt l k = y) (hn : sn1 y = []) : SndJ w W l (k + 1) v := by
  refine ⟨?_, h.2⟩
  rw [snd_snoc hk, hy, hn, List.append_nil]
  exact h.1
theorem sndJ_app {w W : World} {l : List Int} {k : Nat} {v : Value} {y z : Int} (h : SndJ w W l k v) (hk : k < l.length) (hy : numAt l k = y) (hn : sn1 y = [z]) (hm : l.length * 8 ≤ 140737488355328) :
    ∃ v' w', (Builtin.append_ #[22, 22] 22 #[v, .slice (some ⟨W.heap.size, 0, none⟩) 1 1]).run Tryd.prog (W.alloc (.cells #[.int .i64 z] 3)) = .ok v' w' ∧ SndJ w w' l (k + 1) v' := by
  have hl := snd_length (l.take k)
  rw [List.length_take] at hl
  obtain ⟨v', w', hrun, h3, h4, _, _⟩ := appI_one h.1 z (by omega) h.2.size
  refine ⟨v', w', hrun, ?_, h.2.trans h4⟩
  rw [snd_snoc hk, hy, hn]
  exact h3

theorem sends_any (A : Option Addr) (n c B : Nat) (l : List Int) (w : World) (hr : RdI w B A n l) (hB : B ≤ w.heap.size) (hm : n ≤ 17592186044416) (hT : TabC w) :
    Calls Tryd.prog 22 #[.slice A n c] w fun e w' => ∃ v, e = .returned v ∧ OwnI w' w.heap.size v (snd l) ∧ Below w.heap.size w w' := by
  have HR := Lib.hid hr
  have HL : Hid (l.length = n) := hr.1
  have HT := Lib.hid hT
  have hgt := hT.lt
  clear hr hT
  go_enter Tryd.func22, Tryd.ntmps22
  go_wp2
  go_loopw [8, 3] (fun i v wr => ∃ k : Nat, k ≤ n ∧ i = .int .i64 k ∧ SndJ w wr l k v) (fun i _ _ => n - (intOf i).toNat)
  case atStart => exact ⟨0, Nat.zero_le _, rfl, OwnI.nil _ _, Below.refl _ _⟩
  case round =>
    rename_i wr
    obtain ⟨k, hk, rfl, hj⟩ := hrel
    obtain ⟨A0, m0, c0, rfl⟩ := hj.1.shape
    by_cases hlt : k < n
    · obtain ⟨b, off, rfl, hb, hc⟩ := (HR.out.below hj.2 hB).2 (by omega)
      have hcell := hc k hlt
      obtain ⟨y, hy⟩ : ∃ y, numAt l k = y := ⟨_, rfl⟩
      rw [hy] at hcell
      have hlk : k < l.length := by have := HL.out; omega
      by_cases hin : 0 ≤ y ∧ y < 14
      · obtain ⟨q, rfl⟩ := Int.eq_ofNat_of_zero_le hin.1
        have hq : q < 14 := by omega
        have hcode := (HT.out.keptB hj.2 hgt) q hq
        have hs1 := sn1_code q hq
        obtain ⟨z, hz⟩ : ∃ z, auCodes.getD q 0 = z := ⟨_, rfl⟩
        rw [hz] at hcode hs1
        clear hc hz hin
        by_cases hz0 : z = 0
        · subst hz0
          have NX := Lib.hid (sndJ_same hj hlk hy (hs1.trans (if_pos rfl)))
          clear hj hy hlk hs1
          go_wp2
          go_roundw
          case rel => exact ⟨k + 1, by omega, by go_num, NX.out⟩
          case measure => simp [intOf]; omega
        · obtain ⟨v', w', hrun, hj2⟩ := sndJ_app hj hlk hy (hs1.trans (if_neg hz0)) (by have := HL.out; omega)
          have tz : (z != 0) = true := by simpa using hz0
          have RUN := Lib.hid hrun
          have NX := Lib.hid hj2
          clear hj hy hlk hs1 hz0 hrun hj2
          go_wp2_with (at_builtin; refine wpList_appR 22 22 rfl (.tmp 24) (.tmp 28) rfl _ _ rfl rfl _ _ RUN.out ?_)
          go_roundw
          case rel => exact ⟨k + 1, by omega, by go_num, NX.out⟩
          case measure => simp [intOf]; omega
      · have NX := Lib.hid (sndJ_same hj hlk hy (sn1_none (by omega)))
        clear hj hy hlk hc
        by_cases h0 : 0 ≤ y
        · have h1 : ¬ y < 14 := fun h => hin ⟨h0, h⟩
          clear hin
          go_wp2
          go_roundw
          case rel => exact ⟨k + 1, by omega, by go_num, NX.out⟩
          case measure => simp [intOf]; omega
        · clear hin
          go_wp2
          go_roundw
          case rel => exact ⟨k + 1, by omega, by go_num, NX.out⟩
          case measure => simp [intOf]; omega
    · obtain rfl : k = n := by omega
      have HJ := Lib.hid hj
      have HE : Hid (l.take k = l) := List.take_of_length_le (by have := HL.out; omega)
      clear hj
      go_wp2
      go_ret
      exact ⟨_, rfl, by rw [← HE.out]; exact HJ.out.1, HJ.out.2⟩
end Go.Proofs.YtpkmddagcfjadaaDoor
