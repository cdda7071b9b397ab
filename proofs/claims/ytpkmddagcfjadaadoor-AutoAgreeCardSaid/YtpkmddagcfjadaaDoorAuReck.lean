/-
  slices.Contains over whole numbers; the automaton's counter: greatest, reckon.
-/
import Derived.Test.YtpkmddagcfjadaaDoorAuNext
namespace Go.Proofs.YtpkmddagcfjadaaDoor
open Go.RowKit
set_option maxRecDepth 100000
set_option maxHeartbeats 2000000
set_option linter.unusedSimpArgs false
set_option linter.unusedVariables false

theorem mem_numAt {l : List Int} {x : Int} : x ∈ l ↔ ∃ k, k < l.length ∧ numAt l k = x := by
  constructor
  · intro h
    obtain ⟨k, hk, e⟩ := List.mem_iff_getElem.1 h
    exact ⟨k, hk, by rw [numAt_eq hk]; exact e⟩
  · rintro ⟨k, hk, e⟩
    rw [← e, numAt_eq hk]
    exact List.getElem_mem hk
theorem index_any (A : Option Addr) (n c B : Nat) (l : List Int) (x : Int) (w : World) (hr : RdI w B A n l) (hm : n ≤ 1152921504606846976) :
    Calls Tryd.prog 49 #[.slice A n c, .int .i64 x] w fun e w' => (∃ z : Int, e = .returned (.int .i64 z) ∧ -1 ≤ z ∧ z ≤ 1152921504606846976 ∧ (0 ≤ z ↔ x ∈ l)) ∧ w = w' := by
  have HR := Lib.hid hr
  clear hr
  go_enter Tryd.func49, Tryd.ntmps49
  go_wp2
  go_loop [8] (fun i => ∃ k : Nat, k ≤ n ∧ i = .int .i64 k ∧ Hid (∀ j, j < k → numAt l j ≠ x)) (fun i => n - (intOf i).toNat)
  case atStart => exact ⟨0, Nat.zero_le _, rfl, fun j hj => absurd hj (Nat.not_lt_zero _)⟩
  case round =>
    obtain ⟨k, hk, rfl, hno⟩ := hrel
    by_cases hlt : k < n
    · obtain ⟨b, off, rfl, hb, hc⟩ := HR.out.2 (by omega)
      have hcell := hc k hlt
      have hlen := HR.out.1
      obtain ⟨y, hy⟩ : ∃ y, numAt l k = y := ⟨_, rfl⟩
      rw [hy] at hcell
      have HY := Lib.hid hy
      have HL := Lib.hid hlen
      clear hc hy hlen
      by_cases hxy : x = y
      · have ht : (x == y) = true := by simp [hxy]
        have HX := Lib.hid hxy
        clear hxy
        go_wp2
        go_ret
        exact ⟨⟨_, rfl, by omega, by omega, ⟨fun _ => mem_numAt.2 ⟨k, by rw [HL.out]; exact hlt, by rw [HY.out, HX.out]⟩, fun _ => by omega⟩⟩, rfl⟩
      · have ht : (x == y) = false := by simp [hxy]
        have HX := Lib.hid hxy
        clear hxy
        go_wp2
        go_round
        case rel => exact ⟨k + 1, by omega, by go_num, fun j hj => by
          rcases Nat.lt_succ_iff_lt_or_eq.1 hj with h | h
          · exact hno.out j h
          · rw [h, HY.out]; exact fun e => HX.out e.symm⟩
        case measure => simp [intOf]; omega
    · have hlen := HR.out.1
      have HL := Lib.hid hlen
      clear hlen
      go_wp2
      go_ret
      refine ⟨⟨_, rfl, by omega, by omega, ⟨fun h => absurd h (by omega), fun h => ?_⟩⟩, rfl⟩
      obtain ⟨j, hj, e⟩ := mem_numAt.1 h
      exact absurd e (hno.out j (by have := HL.out; omega))
theorem contains_any (A : Option Addr) (n c B : Nat) (l : List Int) (x : Int) (w : World) (hr : RdI w B A n l) (hm : n ≤ 1152921504606846976) :
    Calls Tryd.prog 48 #[.slice A n c, .int .i64 x] w fun e w' => e = .returned (.bool (l.contains x)) ∧ w = w' := by
  have HI := Lib.hid (index_any A n c B l x w hr hm)
  clear hr
  by_cases h : x ∈ l
  · rw [show l.contains x = true by simpa using h]
    have HX := Lib.hid h
    clear h
    go_enter Tryd.func48, Tryd.ntmps48
    go_wp2_with (go_at_call 49; refine HI.out.mono ?_; rintro e w' ⟨⟨z, rfl, h1, h2, h3⟩, rfl⟩; have h4 := h3.2 HX.out; clear h3)
    go_ret
    exact ⟨rfl, rfl⟩
  · rw [show l.contains x = false by simpa using h]
    have HX := Lib.hid h
    clear h
    go_enter Tryd.func48, Tryd.ntmps48
    go_wp2_with (go_at_call 49; refine HI.out.mono ?_; rintro e w' ⟨⟨z, rfl, h1, h2, h3⟩, rfl⟩; have h4 : decide (0 ≤ z) = false := decide_eq_false fun h => HX.out (h3.1 h); clear h3)
    go_ret
    exact ⟨rfl, rfl⟩

/-- an automaton's cells -/
def auC (s c mc mt : Int) : List Value := [.int .i64 s, .int .i64 c, .int .i64 mc, .int .i64 mt]
def AuB (w : World) (g : Nat) (s c mc mt : Int) : Prop := Blk w g 73 (auC s c mc mt)
def grt (mc mt : Int) (l : List Int) : Int := if l.contains 10 then mt else mc
theorem greatest_any (g : Nat) (s k mc mt : Int) (A : Option Addr) (n c B : Nat) (l : List Int) (w : World) (ha : AuB w g s k mc mt) (hr : RdI w B A n l) (hm : n ≤ 1152921504606846976) :
    Calls Tryd.prog 47 #[.pointer (some ⟨g, 0, none⟩), .slice A n c] w fun e w' => e = .returned (.int .i64 (grt mc mt l)) ∧ w = w' := by
  have HC := Lib.hid (contains_any A n c B l 10 w hr hm)
  have h2 : w.cell? ⟨g, 2, none⟩ = some (.int .i64 mc) := ha.cell 2
  have h3 : w.cell? ⟨g, 3, none⟩ = some (.int .i64 mt) := ha.cell 3
  clear ha hr
  unfold grt
  obtain ⟨b, hb⟩ : ∃ b, l.contains 10 = b := ⟨_, rfl⟩
  rw [hb] at HC ⊢
  clear hb
  cases b
  · go_enter Tryd.func47, Tryd.ntmps47
    go_wp2_with (go_at_call 48; refine HC.out.mono ?_; rintro e w' ⟨rfl, rfl⟩)
    go_ret
    exact ⟨rfl, rfl⟩
  · go_enter Tryd.func47, Tryd.ntmps47
    go_wp2_with (go_at_call 48; refine HC.out.mono ?_; rintro e w' ⟨rfl, rfl⟩)
    go_ret
    exact ⟨rfl, rfl⟩

def stp (mc mt : Int) (all : List Int) (c a : Int) : Int := if a = 5 then grt mc mt all else if a = 6 then 0 else if a = 7 ∨ a = 10 then (if c - 1 < 0 then 0 else c - 1) else c
/-- the counter behind actions -/
def rkn (mc mt : Int) (all l : List Int) (c : Int) : Int := l.foldl (stp mc mt all) c
theorem grt_bounds {mc mt : Int} (l : List Int) (h1 : 0 ≤ mc ∧ mc ≤ 255) (h2 : 0 ≤ mt ∧ mt ≤ 255) : 0 ≤ grt mc mt l ∧ grt mc mt l ≤ 255 := by
  unfold grt
  split <;> assumption
theorem stp_bounds {mc mt c : Int} (l : List Int) (a : Int) (h1 : 0 ≤ mc ∧ mc ≤ 255) (h2 : 0 ≤ mt ∧ mt ≤ 255) (h3 : 0 ≤ c ∧ c ≤ 255) : 0 ≤ stp mc mt l c a ∧ stp mc mt l c a ≤ 255 := by
  unfold stp
  have := grt_bounds l h1 h2
  split
  · assumption
  · split
    · omega
    · split
      · split <;> omega
      · assumption
theorem rkn_bounds {mc mt : Int} (all : List Int) (h1 : 0 ≤ mc ∧ mc ≤ 255) (h2 : 0 ≤ mt ∧ mt ≤ 255) : ∀ (l : List Int) (c : Int), 0 ≤ c ∧ c ≤ 255 → 0 ≤ rkn mc mt all l c ∧ rkn mc mt all l c ≤ 255
  | [], c, h => h
  | a :: l, c, h => rkn_bounds all h1 h2 l _ (stp_bounds all a h1 h2 h)
theorem rkn_snoc (mc mt : Int) (all : List Int) (k : Nat) (c : Int) (hk : k < all.length) : rkn mc mt all (all.take (k + 1)) c = stp mc mt all (rkn mc mt all (all.take k) c) (numAt all k) := by
  unfold rkn
  rw [List.take_succ_eq_append_getElem hk, List.foldl_append, numAt_eq hk]
  rfl
theorem AuB.set1 {w : World} {g : Nat} {s c mc mt : Int} (h : AuB w g s c mc mt) (z : Int) : AuB (w.setCell ⟨g, 1, none⟩ (.int .i64 z)) g s z mc mt := Blk.set_ h 1 (.int .i64 z)
theorem AuB.set0 {w : World} {g : Nat} {s c mc mt : Int} (h : AuB w g s c mc mt) (z : Int) : AuB (w.setCell ⟨g, 0, none⟩ (.int .i64 z)) g z c mc mt := Blk.set_ h 0 (.int .i64 z)
theorem grown_set {w w' : World} {g : Nat} (h : w.grownBy w' (some g)) (i : Nat) (z : Value) : w.grownBy (w'.setCell ⟨g, i, none⟩ z) (some g) :=
  ⟨h.os, h.tape, h.output, by simpa [World.setCell] using h.size, fun k hk hne => (Below.heap_setCell w' ⟨g, i, none⟩ z k (fun e => hne (by rw [e]))).trans (h.block k hk hne)⟩
theorem reckon_any (g : Nat) (s c mc mt : Int) (A : Option Addr) (n cap B : Nat) (l : List Int) (w : World) (ha : AuB w g s c mc mt) (hr : RdI w B A n l) (hB : B ≤ w.heap.size) (hne : ∀ b off, A = some ⟨b, off, none⟩ → b ≠ g) (hm : n ≤ 1152921504606846976)
    (h1 : 0 ≤ mc ∧ mc ≤ 255) (h2 : 0 ≤ mt ∧ mt ≤ 255) (h3 : 0 ≤ c ∧ c ≤ 255) :
    Calls Tryd.prog 46 #[.pointer (some ⟨g, 0, none⟩), .slice A n cap] w fun e w' => e = .returned (.tuple #[]) ∧ AuB w' g s (rkn mc mt l l c) mc mt ∧ w.grownBy w' (some g) := by
  have HL : Hid (l.length = n) := hr.1
  have HR := Lib.hid hr
  have HA := Lib.hid ha
  have HNE := Lib.hid hne
  have H1 := Lib.hid h1
  have H2 := Lib.hid h2
  have H3 := Lib.hid h3
  clear hr ha hne h1 h2 h3
  go_enter Tryd.func46, Tryd.ntmps46
  go_wp2
  go_loopw [8] (fun i wr => ∃ k : Nat, k ≤ n ∧ i = .int .i64 k ∧ AuB wr g s (rkn mc mt l (l.take k) c) mc mt ∧ w.grownBy wr (some g)) (fun i _ => n - (intOf i).toNat)
  case atStart => exact ⟨0, Nat.zero_le _, rfl, HA.out, World.grownBy.refl _ _⟩
  case round =>
    rename_i wr
    obtain ⟨k, hk, rfl, hb, hg⟩ := hrel
    by_cases hlt : k < n
    · have hrw := HR.out.off hg hB HNE.out
      obtain ⟨b, off, rfl, hb2, hc⟩ := hrw.2 (by omega)
      have hcell := hc k hlt
      have hsn := rkn_snoc mc mt l k c (by have := HL.out; omega)
      have hbd := rkn_bounds l H1.out H2.out (l.take k) c H3.out
      obtain ⟨y, hy⟩ : ∃ y, numAt l k = y := ⟨_, rfl⟩
      obtain ⟨z, hz⟩ : ∃ z, rkn mc mt l (l.take k) c = z := ⟨_, rfl⟩
      rw [hy] at hcell hsn
      rw [hz] at hsn hb hbd
      have hc1 : wr.cell? ⟨g, 1, none⟩ = some (.int .i64 z) := hb.cell 1
      have hf1 : wr.frozen? ⟨g, 1, none⟩ = false := hb.frozen 1
      have HG := Lib.hid (greatest_any g s z mc mt _ n cap _ l wr hb hrw hm)
      have HB := Lib.hid hb
      have HGR := Lib.hid hg
      have HS := Lib.hid hsn
      clear hy hz hb hg hc hsn hrw
      unfold stp at HS
      by_cases h5 : y = 5
      · subst h5
        have HS2 : Hid (rkn mc mt l (l.take (k + 1)) c = grt mc mt l) := HS.out.trans (if_pos rfl)
        have hgb := grt_bounds l H1.out H2.out
        obtain ⟨q, hq⟩ : ∃ q, grt mc mt l = q := ⟨_, rfl⟩
        rw [hq] at HS2 hgb HG
        clear HS hq
        go_wp2_with (go_at_call 47; refine HG.out.mono ?_; rintro e w' ⟨rfl, rfl⟩)
        go_roundw
        case rel => exact ⟨k + 1, by omega, by go_num, by rw [HS2.out]; exact HB.out.set1 _, grown_set HGR.out _ _⟩
        case measure => simp [intOf]; omega
      · have t5 : (y == 5) = false := by simpa using h5
        by_cases h6 : y = 6
        · subst h6
          have HS2 : Hid (rkn mc mt l (l.take (k + 1)) c = 0) := HS.out.trans rfl
          clear HS
          go_wp2
          go_roundw
          case rel => exact ⟨k + 1, by omega, by go_num, by rw [HS2.out]; exact HB.out.set1 _, grown_set HGR.out _ _⟩
          case measure => simp [intOf]; omega
        · have t6 : (y == 6) = false := by simpa using h6
          by_cases h7 : y = 7 ∨ y = 10
          · have HS2 : Hid (rkn mc mt l (l.take (k + 1)) c = (if z - 1 < 0 then 0 else z - 1)) := HS.out.trans (by rw [if_neg h5, if_neg h6, if_pos h7])
            clear HS h5 h6
            rcases h7 with h7 | h7
            all_goals
              subst h7
              clear t5 t6
              go_wp2
              go_roundw
              case rel => exact ⟨k + 1, by omega, by go_num, by rw [HS2.out]; exact HB.out.set1 _, grown_set HGR.out _ _⟩
              case measure => simp [intOf]; omega
          · have HS2 : Hid (rkn mc mt l (l.take (k + 1)) c = z) := HS.out.trans (by rw [if_neg h5, if_neg h6, if_neg h7])
            have t7 : (y == 7) = false := by simp; omega
            have t10 : (y == 10) = false := by simp; omega
            clear HS h5 h6 h7
            go_wp2
            go_roundw
            case rel => exact ⟨k + 1, by omega, by go_num, by rw [HS2.out]; exact HB.out, HGR.out⟩
            case measure => simp [intOf]; omega
    · obtain rfl : k = n := by omega
      have e : l.take k = l := by rw [List.take_of_length_le (by have := HL.out; omega)]
      rw [e] at hb
      have HB := Lib.hid hb
      have HG := Lib.hid hg
      clear e hb hg
      go_wp2
      go_end0
      exact ⟨rfl, HB.out, HG.out⟩
end Go.Proofs.YtpkmddagcfjadaaDoor
