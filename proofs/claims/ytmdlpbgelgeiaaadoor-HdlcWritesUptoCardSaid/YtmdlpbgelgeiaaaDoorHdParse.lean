/-
  hdlc.number, hdlc.Parse: the frame of a body without its sum.
-/
import Derived.Test.YtmdlpbgelgeiaaaDoorHdEnc
import Derived.Test.YtmdlpbgelgeiaaaDoorBytesClone
import Derived.Test.YtmdlpbgelgeiaaaDoorSliceFrom
import Derived.Deep.QuietTactic
import Derived.BigQuiet
namespace Go.Proofs.YtmdlpbgelgeiaaaDoor
open Go.RowKit
set_option maxRecDepth 100000
set_option maxHeartbeats 2000000
set_option linter.unusedSimpArgs false
set_option linter.unusedVariables false

theorem u8_and1 (y : Int) (h0 : 0 ≤ y) (h1 : y ≤ 255) : (bits .and .u8 y 1 == 1) = decide (y % 2 = 1) := by
  obtain ⟨m, rfl⟩ := Int.eq_ofNat_of_zero_le h0
  have ea : (BitVec.ofInt 8 (m : Int)).toNat = m := by rw [BitVec.toNat_ofInt]; omega
  have eb : (BitVec.ofInt 8 1).toNat = 1 := by decide
  have key : (BitVec.ofInt 8 (m : Int) &&& BitVec.ofInt 8 1).toNat = m % 2 := by
    rw [BitVec.toNat_and, ea, eb]; exact Nat.and_two_pow_sub_one_eq_mod m 1
  have e : bits .and .u8 (m : Int) 1 = ((m % 2 : Nat) : Int) := by
    show IntKind.u8.wrap ((BitVec.ofInt 8 (m : Int) &&& BitVec.ofInt 8 1).toNat : Nat) = _
    rw [key, IntKind.wrap_u8]
    omega
  rw [e, Bool.eq_iff_iff]
  simp
theorem i64_or_nat (a b : Nat) (ha : a < 4611686018427387904) (hb : b < 4611686018427387904) (hab : a ||| b < 4611686018427387904) : bits .or .i64 (a : Int) (b : Int) = ((a ||| b : Nat) : Int) := by
  have ea : (BitVec.ofInt 64 (a : Int)).toNat = a := by rw [BitVec.toNat_ofInt]; omega
  have eb : (BitVec.ofInt 64 (b : Int)).toNat = b := by rw [BitVec.toNat_ofInt]; omega
  have key : (BitVec.ofInt 64 (a : Int) ||| BitVec.ofInt 64 (b : Int)).toNat = a ||| b := by rw [BitVec.toNat_or, ea, eb]
  show IntKind.i64.wrap ((BitVec.ofInt 64 (a : Int) ||| BitVec.ofInt 64 (b : Int)).toNat : Nat) = _
  rw [key, IntKind.wrap_i64]
  omega
theorem or_two (y z : Int) (h0 : 0 ≤ y) (h1 : y ≤ 255) (h2 : 0 ≤ z) (h3 : z ≤ 255) : bits .or .i64 (y * 256) z = 256 * y + z := by
  obtain ⟨a, rfl⟩ := Int.eq_ofNat_of_zero_le h0
  obtain ⟨b, rfl⟩ := Int.eq_ofNat_of_zero_le h2
  have h := Nat.two_pow_add_eq_or_of_lt (show b < 2 ^ 8 by omega) a
  have e : (a : Int) * 256 = ((2 ^ 8 * a : Nat) : Int) := by omega
  rw [e, i64_or_nat _ _ (by omega) (by omega) (by rw [← h]; omega), ← h]
  omega

def nOdd (l : List UInt8) : Bool := decide (byteAt l 0 % 2 = 1)
def nTwo (l : List UInt8) : Int := 256 * byteAt l 0 + byteAt l 1
def nE (l : List UInt8) (pfc : Bool) : Int := if l.length = 0 then 8 else if nOdd l = true then (if pfc = true then 0 else 3) else if l.length = 1 then 8 else if protoB (nTwo l) = true then 0 else 30
def nP (l : List UInt8) : Int := if nOdd l = true then byteAt l 0 else nTwo l
def nS (l : List UInt8) : Nat := if nOdd l = true then 1 else 2
def nV (l : List UInt8) (pfc : Bool) : Value := if nE l pfc = 0 then .tuple #[.int .i64 (nP l), .int .i64 (nS l), .int .i64 0] else .tuple #[.int .i64 0, .int .i64 0, .int .i64 (nE l pfc)]
theorem number_any (A : Option Addr) (n c B : Nat) (l : List UInt8) (pfc : Bool) (w : World) (hr : Rd w B A n l) (hc : n ≤ c) (hn : n ≤ maxLen) :
    Calls Tryd.prog 43 #[.slice A n c, .bool pfc] w fun e w' => e = .returned (nV l pfc) ∧ ∃ k, w' = w.drewN k := by
  unfold maxLen at hn
  have hl := hr.1
  by_cases h0 : n = 0
  · have e : nV l pfc = .tuple #[.int .i64 0, .int .i64 0, .int .i64 8] := by
      have h : nE l pfc = 8 := by unfold nE; rw [if_pos (by omega)]
      unfold nV
      rw [h]
      rfl
    rw [e]
    subst h0
    clear e hr hl
    go_enter Tryd.func43, Tryd.ntmps43
    go_wp2
    go_ret3
    exact ⟨rfl, 0, rfl⟩
  · obtain ⟨b, o, rfl, hb, hcell⟩ := hr.2 (by omega)
    obtain ⟨y, hy⟩ : ∃ y, y = byteAt l 0 := ⟨_, rfl⟩
    have k0 : w.cell? ⟨b, o, none⟩ = some (.int .u8 y) := by rw [hy]; exact hcell 0 (by omega)
    have y0 : 0 ≤ y := by rw [hy]; exact byteAt_lo l 0
    have y1 : y ≤ 255 := by rw [hy]; exact byteAt_hi l 0
    have hodd : nOdd l = decide (y % 2 = 1) := by unfold nOdd; rw [hy]
    have hb1 := u8_and1 y y0 y1
    rw [← hodd] at hb1
    have hl0 : ¬ l.length = 0 := by omega
    have n0 : 0 < (n : Int) := by omega
    have n0' : 0 < n := by omega
    cases ho : nOdd l
    · rw [ho] at hb1
      by_cases h1 : n = 1
      · have e : nV l pfc = .tuple #[.int .i64 0, .int .i64 0, .int .i64 8] := by
          have h : nE l pfc = 8 := by unfold nE; rw [if_neg hl0, if_neg (by rw [ho]; simp), if_pos (by omega)]
          unfold nV
          rw [h]
          rfl
        rw [e]
        subst h1
        clear e hr hl hl0 hcell hy hodd ho
        go_enter Tryd.func43, Tryd.ntmps43
        go_wp2
        go_ret3
        exact ⟨rfl, 0, rfl⟩
      · obtain ⟨z, hz⟩ : ∃ z, z = byteAt l 1 := ⟨_, rfl⟩
        have k1 : w.cell? ⟨b, o + 1, none⟩ = some (.int .u8 z) := by rw [hz]; exact hcell 1 (by omega)
        have z0 : 0 ≤ z := by rw [hz]; exact byteAt_lo l 1
        have z1 : z ≤ 255 := by rw [hz]; exact byteAt_hi l 1
        have ht : nTwo l = 256 * y + z := by unfold nTwo; rw [hy, hz]
        obtain ⟨q, hq⟩ : ∃ q, q = 256 * y + z := ⟨_, rfl⟩
        have hor : bits .or .i64 (y * 256) z = q := by rw [hq]; exact or_two y z y0 y1 z0 z1
        have PC := fun W => Lib.hid (protoRight_any q W)
        have n1 : ((n : Int) == 1) = false := by simp; omega
        have n2 : 1 < n := by omega
        have e : nV l pfc = if protoB q = true then .tuple #[.int .i64 q, .int .i64 2, .int .i64 0] else .tuple #[.int .i64 0, .int .i64 0, .int .i64 30] := by
          have h : nE l pfc = if protoB q = true then 0 else 30 := by unfold nE; rw [if_neg hl0, if_neg (by rw [ho]; simp), if_neg (by omega), ht, ← hq]
          unfold nV
          rw [h]
          cases protoB q
          · rfl
          · show Value.tuple #[.int .i64 (nP l), .int .i64 (nS l), .int .i64 0] = Value.tuple #[.int .i64 q, .int .i64 2, .int .i64 0]
            unfold nP nS
            rw [if_neg (by rw [ho]; simp), if_neg (by rw [ho]; simp), ht, ← hq]
            rfl
        rw [e]
        have hm : (y * 256 : Int) ≤ 65280 := by omega
        have hm0 : (0 : Int) ≤ y * 256 := by omega
        clear e hr hl hl0 hcell hy hodd ho hz ht hq
        cases hp : protoB q
        all_goals
          rw [hp] at PC
          clear hp
          go_enter Tryd.func43, Tryd.ntmps43
          go_wp2
          go_quiet (fail)
          go_wp2_with (go_at_call 37; refine (PC _).out.mono ?_; rintro e w' ⟨rfl, rfl⟩)
          go_ret3
          exact ⟨rfl, _, rfl⟩
    · rw [ho] at hb1
      cases pfc
      · have e : nV l false = .tuple #[.int .i64 0, .int .i64 0, .int .i64 3] := by
          have h : nE l false = 3 := by unfold nE; rw [if_neg hl0, if_pos ho, if_neg (by simp)]
          unfold nV
          rw [h]
          rfl
        rw [e]
        clear e hr hl hl0 hcell hy hodd ho
        go_enter Tryd.func43, Tryd.ntmps43
        go_wp2
        go_ret3
        exact ⟨rfl, 0, rfl⟩
      · have e : nV l true = .tuple #[.int .i64 y, .int .i64 1, .int .i64 0] := by
          have h : nE l true = 0 := by unfold nE; rw [if_neg hl0, if_pos ho, if_pos rfl]
          unfold nV
          rw [if_pos h]
          unfold nP nS
          rw [if_pos ho, if_pos ho, hy]
          rfl
        rw [e]
        clear e hr hl hl0 hcell hy hodd ho
        go_enter Tryd.func43, Tryd.ntmps43
        go_wp2
        go_ret3
        exact ⟨rfl, 0, rfl⟩

def sB (l : List UInt8) : Bool := decide (2 ≤ l.length ∧ byteAt l 0 = 255 ∧ byteAt l 1 = 3)
def sL (l : List UInt8) : List UInt8 := if sB l = true then l.drop 2 else l
def pE (l : List UInt8) (pfc acfc : Bool) : Int := if sB l = false ∧ acfc = false then 3 else nE (sL l) pfc
def pP (l : List UInt8) : Int := nP (sL l)
def pI (l : List UInt8) : List UInt8 := (sL l).drop (nS (sL l))
/-- what Parse answers: a frame of the call's own, or none -/
def PrsR (w W : World) (v : Value) (l : List UInt8) (pfc acfc : Bool) : Prop :=
  if pE l pfc acfc = 0 then ∃ A m c, v = .agg #[.int .i64 (pP l), .slice A m c] ∧ m = (pI l).length ∧ Own W w.heap.size (.slice A m c) (pI l) else v = .agg #[.int .i64 0, .slice none 0 0]
theorem nS_le {l : List UInt8} {pfc : Bool} (h : nE l pfc = 0) : nS l ≤ l.length ∧ 1 ≤ nS l ∧ nS l ≤ 2 := by
  unfold nE at h
  unfold nS
  split at h
  · omega
  · rename_i h0
    by_cases ho : nOdd l = true
    · rw [if_pos ho]; omega
    · rw [if_neg ho]
      rw [if_neg ho] at h
      split at h
      · omega
      · omega
/-- behind what is passed over: the number and the rest -/
theorem parse_tail (A : Option Addr) (n c B : Nat) (m : List UInt8) (pfc : Bool) (w W : World) (hr : Rd W B A n m) (hw : w.heap.size ≤ W.heap.size) (hB : B ≤ W.heap.size) (hc : n ≤ c) (hnil : A = none → c = 0) (hn : n ≤ 140737488355328) :
    Calls Tryd.prog 43 #[.slice A n c, .bool pfc] W fun e w1 => e = .returned (nV m pfc) ∧ (∃ k, w1 = W.drewN k) ∧ (nE m pfc = 0 →
      ∃ A2 n2 c2, (∀ X, (Instr.slice 22 (.slice A n c) (some (.int .i64 (nS m))) none none).run Tryd.prog X = .ok (.slice A2 n2 c2) X) ∧
        ∀ K, Calls Tryd.prog 44 #[.slice A2 n2 c2] (W.drewN K) fun e w2 => ∃ A3 n3 c3, e = .returned (.slice A3 n3 c3) ∧ n3 = (m.drop (nS m)).length ∧ Own w2 W.heap.size (.slice A3 n3 c3) (m.drop (nS m)) ∧ Below W.heap.size W w2) := by
  have hl := hr.1
  refine (number_any A n c B m pfc W hr hc (by unfold maxLen; omega)).mono ?_
  rintro e w1 ⟨rfl, hk⟩
  refine ⟨rfl, hk, fun he => ?_⟩
  obtain ⟨s0, s1, s2⟩ := nS_le he
  obtain ⟨A2, c2, hrun, hr2, hnil2, hc2⟩ := slice_from A n c B (nS m) m W hr hc hnil (by omega)
  refine ⟨A2, n - nS m, c2, hrun, fun K => ?_⟩
  refine (bclone_any A2 (n - nS m) c2 B (m.drop (nS m)) (W.drewN K) (hr2.drewN K) hB hnil2 (by omega)).mono ?_
  rintro e w2 ⟨v, rfl, ho, hb⟩
  rcases ho.form with ⟨rfl, e⟩ | ⟨g, cap, rfl, _, _, _⟩
  · exact ⟨none, 0, 0, rfl, by rw [e]; rfl, ho, (below_drewN (Below.refl _ _) K).trans hb⟩
  · exact ⟨_, _, _, rfl, rfl, ho, (below_drewN (Below.refl _ _) K).trans hb⟩

theorem parse_any (A : Option Addr) (n c B : Nat) (l : List UInt8) (pfc acfc : Bool) (w : World) (hr : Rd w B A n l) (hB : B ≤ w.heap.size) (hc : n ≤ c) (hnil : A = none → c = 0) (hn : n ≤ 140737488355328) :
    Calls Tryd.prog 22 #[.slice A n c, .bool pfc, .bool acfc] w fun e w' => ∃ v, e = .returned (.tuple #[v, .int .i64 (pE l pfc acfc)]) ∧ PrsR w w' v l pfc acfc ∧ Below w.heap.size w w' := by
  have hl := hr.1
  obtain ⟨W1, hW1⟩ : ∃ W1, w.alloc (.cells #[.int .i64 0, .slice none 0 0] 24) = W1 := ⟨_, rfl⟩
  have hs1 : W1.heap.size = w.heap.size + 1 := by rw [← hW1]; simp
  have hb1 : Below w.heap.size w W1 := by rw [← hW1]; exact (Below.refl _ _).alloc (Nat.le_refl _) _
  have hk1 : Blk W1 w.heap.size 24 [.int .i64 0, .slice none 0 0] := by rw [← hW1]; exact blk_new w _ _
  have hr1 : Rd W1 B A n l := hr.below (hb1.mono hB)
  -- what follows once the number is to be read
  have TAIL : ∀ (A' : Option Addr) (n' c' : Nat) (m : List UInt8), Rd W1 B A' n' m → n' ≤ c' → (A' = none → c' = 0) → n' ≤ 140737488355328 → Hid (Calls Tryd.prog 43 #[.slice A' n' c', .bool pfc] W1 fun e w1 => e = .returned (nV m pfc) ∧ (∃ k, w1 = W1.drewN k) ∧ (nE m pfc = 0 →
      ∃ A2 n2 c2, (∀ X, (Instr.slice 22 (.slice A' n' c') (some (.int .i64 (nS m))) none none).run Tryd.prog X = .ok (.slice A2 n2 c2) X) ∧
        ∀ K, Calls Tryd.prog 44 #[.slice A2 n2 c2] (W1.drewN K) fun e w2 => ∃ A3 n3 c3, e = .returned (.slice A3 n3 c3) ∧ n3 = (m.drop (nS m)).length ∧ Own w2 W1.heap.size (.slice A3 n3 c3) (m.drop (nS m)) ∧ Below W1.heap.size W1 w2)) :=
    fun A' n' c' m h1 h2 h3 h4 => parse_tail A' n' c' B m pfc w W1 h1 (by omega) (by omega) h2 h3 h4
  have HS1 := Lib.hid hs1
  have HB1 := Lib.hid hb1
  have HK1 := Lib.hid hk1
  have HW1 := Lib.hid hW1
  have z0 : w.heap.size < W1.heap.size := by omega
  have PR3 : pE l pfc acfc ≠ 0 → Hid (∀ W, PrsR w W (.agg #[.int .i64 0, .slice none 0 0]) l pfc acfc) := fun h => by
    show ∀ W, _
    intro W
    unfold PrsR
    rw [if_neg h]
  have HPE : sB l = true ∨ acfc = true → pE l pfc acfc = nE (sL l) pfc := fun h => by
    unfold pE
    rw [if_neg]
    rintro ⟨a, b⟩
    rcases h with h | h
    · rw [a] at h; cases h
    · rw [b] at h; cases h
  have c0 : W1.cell? ⟨w.heap.size, 0, none⟩ = some (.int .i64 0) := hk1.cell 0
  have c1 : W1.cell? ⟨w.heap.size, 1, none⟩ = some (.slice none 0 0) := hk1.cell 1
  have f0 := hk1.frozen 0
  have f1 := hk1.frozen 1
  have HR1 := Lib.hid hr1
  have SL := fun h => slice_from A n c B 2 l W1 hr1 hc hnil h
  have HSL := Lib.hid SL
  have HCC := Lib.hid hc
  have HNL := Lib.hid hnil
  have HLL := Lib.hid hl
  clear hr hr1 hk1 hb1 hW1 hs1 SL hnil hl
  go_enter Tryd.func22, Tryd.ntmps22
  go_upto_region 1 with (fail)
  rw [HW1.out]
  go_cut [25] from 11 (fun b W => b = .bool (sB l) ∧ W1 = W)
  case first =>
    by_cases h2 : n < 2
    · have hs : Hid (sB l = false) := by show _ = _; unfold sB; have := HLL.out; simp; omega
      have hd : decide ((2 : Int) ≤ (n : Int)) = false := by simp; omega
      clear h2 HR1 HLL
      go_wp2
      go_meet
      case rel => exact ⟨by rw [hs.out], rfl⟩
    · obtain ⟨b, o, rfl, hbb, hcell⟩ := HR1.out.2 (by omega)
      obtain ⟨y, hy⟩ : ∃ y, y = byteAt l 0 := ⟨_, rfl⟩
      obtain ⟨z, hz⟩ : ∃ y, y = byteAt l 1 := ⟨_, rfl⟩
      have k0 : W1.cell? ⟨b, o, none⟩ = some (.int .u8 y) := by rw [hy]; exact hcell 0 (by omega)
      have k1 : W1.cell? ⟨b, o + 1, none⟩ = some (.int .u8 z) := by rw [hz]; exact hcell 1 (by omega)
      have hd : decide ((2 : Int) ≤ (n : Int)) = true := by simp; omega
      have g0 : 0 < n := by omega
      have g1 : 1 < n := by omega
      have hs : Hid (sB l = ((y == 255) && (z == 3))) := by
        show _ = _
        unfold sB
        rw [← hy, ← hz, Bool.eq_iff_iff]
        have := HLL.out
        simp
        omega
      clear hcell HR1 HLL hy hz h2
      rcases e1 : (y == 255) with _ | _
      · go_wp2
        go_meet
        case rel => exact ⟨by rw [hs.out, e1]; rfl, rfl⟩
      · rcases e2 : (z == 3) with _ | _
        all_goals
          go_wp2
          go_meet
          case rel => exact ⟨by rw [hs.out, e1, e2]; rfl, rfl⟩
  case rest =>
    obtain ⟨rfl, rfl⟩ := hcut
    rcases hsb : sB l with _ | _
    · have hsl : sL l = l := by unfold sL; rw [hsb]; rfl
      cases acfc
      · have he : pE l pfc false = 3 := by unfold pE; rw [if_pos ⟨hsb, rfl⟩]
        have P3 := PR3 (by rw [he]; decide)
        have HE := Lib.hid he
        clear TAIL HPE PR3 he hsb hsl
        go_wp2
        exact bodyPost_ret (v := .tuple #[.agg #[.int .i64 0, .slice none 0 0], .int .i64 3]) (by simp [results, Tryd.results22, go_sem, c0, c1]) rfl ⟨_, by rw [HE.out], P3.out _, (HB1.out.setCell (p := ⟨w.heap.size, 0, none⟩) (Nat.le_refl _) _).setCell (p := ⟨w.heap.size, 1, none⟩) (Nat.le_refl _) _⟩
      · have he := HPE (.inr rfl)
        have T := TAIL A n c l HR1.out hc HNL.out hn
        obtain ⟨M, hM⟩ : ∃ M, M = l := ⟨_, rfl⟩
        rw [← hM] at T
        replace hsl : sL l = M := by rw [hsl, hM]
        have HZ : Hid (nE M pfc = nE M pfc) := rfl
        clear TAIL HPE hsb hM
        have he2 : pE l pfc true = nE M pfc := by rw [he, hsl]
        have hpp : pP l = nP M := by unfold pP; rw [hsl]
        have hpi : pI l = M.drop (nS M) := by unfold pI; rw [hsl]
        by_cases hz : nE M pfc = 0
        · have hv : nV M pfc = .tuple #[.int .i64 (nP M), .int .i64 (nS M), .int .i64 0] := by unfold nV; rw [if_pos hz]
          have HE : Hid (pE l pfc true = 0) := he2.trans hz
          have HZ := Lib.hid hz
          rw [hv] at T
          obtain ⟨ns, hns⟩ : ∃ ns, ns = nS M := ⟨_, rfl⟩
          obtain ⟨zp, hzp⟩ : ∃ z, z = nP M := ⟨_, rfl⟩
          rw [← hns, ← hzp] at T
          have HPR : Hid (∀ W A3 n3 c3, n3 = (M.drop ns).length → Own W w.heap.size (.slice A3 n3 c3) (M.drop ns) → PrsR w W (.agg #[.int .i64 zp, .slice A3 n3 c3]) l pfc true) := by
            show ∀ W A3 n3 c3, _
            intro W A3 n3 c3 h1 h2
            unfold PrsR
            rw [if_pos (by rw [he2]; exact hz)]
            refine ⟨A3, n3, c3, by rw [hpp, ← hzp], by rw [hpi, ← hns]; exact h1, by rw [hpi, ← hns]; exact h2⟩
          clear he he2 hpp hpi hz hv hns hzp hsl
          go_wp2_with (go_at_call 43; refine T.out.mono ?_; rintro e w1 ⟨rfl, ⟨k, rfl⟩, hT⟩; obtain ⟨A2, n2, c2, hrun, hcl⟩ := hT HZ.out; have C2 := Lib.hid (hcl k); clear hT hcl)
          go_wp2_with (go_at_call 44; refine C2.out.mono ?_; rintro e w2 ⟨A3, n3, c3, rfl, hn3, ho3, hb3⟩; have O3 := Lib.hid ho3; have B3 := Lib.hid hb3; have N3 := Lib.hid hn3; have k3 : Blk w2 w.heap.size 24 [.int .i64 0, .slice none 0 0] := (hb3.block _ z0).trans HK1.out; have q0 := k3.cell 0; have q1 := k3.cell 1; have qf0 := k3.frozen 0; have qf1 := k3.frozen 1; have z2 : w.heap.size < w2.heap.size := Nat.lt_of_lt_of_le z0 hb3.size; have K3 := Lib.hid k3; clear ho3 hb3 hn3 k3)
          have k4 := (K3.out.set_ 0 (.int .i64 zp)).set_ 1 (.slice A3 n3 c3)
          have r0 := k4.cell 0
          have r1 := k4.cell 1
          have hown : Own ((w2.setCell ⟨w.heap.size, 0, none⟩ (.int .i64 zp)).setCell ⟨w.heap.size, 1, none⟩ (.slice A3 n3 c3)) w.heap.size (.slice A3 n3 c3) (M.drop ns) := by
            have hne : ∀ g, (Value.slice A3 n3 c3).ownBlock = some g → g ≠ w.heap.size := fun g hg => by have := (O3.out.block g hg).1; omega
            refine own_lower (((O3.out.grown (only_set _) ?_).grown (only_set _) ?_)) (by omega)
            all_goals
              rcases hg : (Value.slice A3 n3 c3).ownBlock with _ | g
              · exact .inl rfl
              · exact .inr (fun e => hne g hg (by injection e))
          exact bodyPost_ret (v := .tuple #[.agg #[.int .i64 zp, .slice A3 n3 c3], .int .i64 0]) (by simp [results, Tryd.results22, go_sem, r0, r1]) rfl ⟨_, by rw [HE.out], HPR.out _ _ _ _ N3.out hown, ((HB1.out.trans (B3.out.mono (by omega))).setCell (p := ⟨w.heap.size, 0, none⟩) (Nat.le_refl _) _).setCell (p := ⟨w.heap.size, 1, none⟩) (Nat.le_refl _) _⟩
        · have hv : nV M pfc = .tuple #[.int .i64 0, .int .i64 0, .int .i64 (nE M pfc)] := by unfold nV; rw [if_neg hz]
          have P3 := PR3 (by rw [he2]; exact hz)
          obtain ⟨er, her⟩ : ∃ er, er = nE M pfc := ⟨_, rfl⟩
          have HE : Hid (pE l pfc true = er) := he2.trans her.symm
          have hne : (er != 0) = true := by rw [her]; simpa using hz
          rw [hv, ← her] at T
          clear he he2 hpp hpi hz hv hsl her PR3
          go_wp2_with (go_at_call 43; refine T.out.mono ?_; rintro e w1 ⟨rfl, ⟨k, rfl⟩, hT⟩; clear hT)
          exact bodyPost_ret (v := .tuple #[.agg #[.int .i64 0, .slice none 0 0], .int .i64 er]) (by simp [results, Tryd.results22, go_sem, c0, c1]) rfl ⟨_, by rw [HE.out], P3.out _, ((below_drewN HB1.out k).setCell (p := ⟨w.heap.size, 0, none⟩) (Nat.le_refl _) _).setCell (p := ⟨w.heap.size, 1, none⟩) (Nat.le_refl _) _⟩
    · have hsl : sL l = l.drop 2 := by unfold sL; rw [hsb]; rfl
      have he := HPE (.inl hsb)
      have h2 : 2 ≤ n := by have := HLL.out; unfold sB at hsb; simp at hsb; omega
      obtain ⟨A5, c5, hrun5', hr5, hnil5, hc5⟩ := HSL.out h2
      have hrun5 : ∀ W, (Instr.slice 22 (.slice A n c) (some (.int .i64 2)) none none).run Tryd.prog W = .ok (.slice A5 (n - 2) c5) W := hrun5'
      clear hrun5'
      have T := TAIL A5 (n - 2) c5 (l.drop 2) hr5 hc5 hnil5 (by omega)
      obtain ⟨M, hM⟩ : ∃ M, M = l.drop 2 := ⟨_, rfl⟩
      rw [← hM] at T
      replace hsl : sL l = M := by rw [hsl, hM]
      obtain ⟨n5, hn5⟩ : ∃ n5, n5 = n - 2 := ⟨_, rfl⟩
      rw [← hn5] at T hrun5
      clear TAIL HPE hsb hM hn5 hr5 hnil5 hc5
      have he2 : pE l pfc acfc = nE M pfc := by rw [he, hsl]
      have hpp : pP l = nP M := by unfold pP; rw [hsl]
      have hpi : pI l = M.drop (nS M) := by unfold pI; rw [hsl]
      by_cases hz : nE M pfc = 0
      · have hv : nV M pfc = .tuple #[.int .i64 (nP M), .int .i64 (nS M), .int .i64 0] := by unfold nV; rw [if_pos hz]
        have HE : Hid (pE l pfc acfc = 0) := he2.trans hz
        have HZ := Lib.hid hz
        rw [hv] at T
        obtain ⟨ns, hns⟩ : ∃ ns, ns = nS M := ⟨_, rfl⟩
        obtain ⟨zp, hzp⟩ : ∃ z, z = nP M := ⟨_, rfl⟩
        rw [← hns, ← hzp] at T
        have HPR : Hid (∀ W A3 n3 c3, n3 = (M.drop ns).length → Own W w.heap.size (.slice A3 n3 c3) (M.drop ns) → PrsR w W (.agg #[.int .i64 zp, .slice A3 n3 c3]) l pfc acfc) := by
          show ∀ W A3 n3 c3, _
          intro W A3 n3 c3 h1 h2
          unfold PrsR
          rw [if_pos (by rw [he2]; exact hz)]
          refine ⟨A3, n3, c3, by rw [hpp, ← hzp], by rw [hpi, ← hns]; exact h1, by rw [hpi, ← hns]; exact h2⟩
        clear he he2 hpp hpi hz hv hns hzp hsl
        go_wp2_with (go_at_call 43; refine T.out.mono ?_; rintro e w1 ⟨rfl, ⟨k, rfl⟩, hT⟩; obtain ⟨A2, n2, c2, hrun, hcl⟩ := hT HZ.out; have C2 := Lib.hid (hcl k); clear hT hcl)
        go_wp2_with (go_at_call 44; refine C2.out.mono ?_; rintro e w2 ⟨A3, n3, c3, rfl, hn3, ho3, hb3⟩; have O3 := Lib.hid ho3; have B3 := Lib.hid hb3; have N3 := Lib.hid hn3; have k3 : Blk w2 w.heap.size 24 [.int .i64 0, .slice none 0 0] := (hb3.block _ z0).trans HK1.out; have q0 := k3.cell 0; have q1 := k3.cell 1; have qf0 := k3.frozen 0; have qf1 := k3.frozen 1; have z2 : w.heap.size < w2.heap.size := Nat.lt_of_lt_of_le z0 hb3.size; have K3 := Lib.hid k3; clear ho3 hb3 hn3 k3)
        have k4 := (K3.out.set_ 0 (.int .i64 zp)).set_ 1 (.slice A3 n3 c3)
        have r0 := k4.cell 0
        have r1 := k4.cell 1
        have hown : Own ((w2.setCell ⟨w.heap.size, 0, none⟩ (.int .i64 zp)).setCell ⟨w.heap.size, 1, none⟩ (.slice A3 n3 c3)) w.heap.size (.slice A3 n3 c3) (M.drop ns) := by
          have hne : ∀ g, (Value.slice A3 n3 c3).ownBlock = some g → g ≠ w.heap.size := fun g hg => by have := (O3.out.block g hg).1; omega
          refine own_lower (((O3.out.grown (only_set _) ?_).grown (only_set _) ?_)) (by omega)
          all_goals
            rcases hg : (Value.slice A3 n3 c3).ownBlock with _ | g
            · exact .inl rfl
            · exact .inr (fun e => hne g hg (by injection e))
        exact bodyPost_ret (v := .tuple #[.agg #[.int .i64 zp, .slice A3 n3 c3], .int .i64 0]) (by simp [results, Tryd.results22, go_sem, r0, r1]) rfl ⟨_, by rw [HE.out], HPR.out _ _ _ _ N3.out hown, ((HB1.out.trans (B3.out.mono (by omega))).setCell (p := ⟨w.heap.size, 0, none⟩) (Nat.le_refl _) _).setCell (p := ⟨w.heap.size, 1, none⟩) (Nat.le_refl _) _⟩
      · have hv : nV M pfc = .tuple #[.int .i64 0, .int .i64 0, .int .i64 (nE M pfc)] := by unfold nV; rw [if_neg hz]
        have P3 := PR3 (by rw [he2]; exact hz)
        obtain ⟨er, her⟩ : ∃ er, er = nE M pfc := ⟨_, rfl⟩
        have HE : Hid (pE l pfc acfc = er) := he2.trans her.symm
        have hne : (er != 0) = true := by rw [her]; simpa using hz
        rw [hv, ← her] at T
        clear he he2 hpp hpi hz hv hsl her PR3
        go_wp2_with (go_at_call 43; refine T.out.mono ?_; rintro e w1 ⟨rfl, ⟨k, rfl⟩, hT⟩; clear hT)
        exact bodyPost_ret (v := .tuple #[.agg #[.int .i64 0, .slice none 0 0], .int .i64 er]) (by simp [results, Tryd.results22, go_sem, c0, c1]) rfl ⟨_, by rw [HE.out], P3.out _, ((below_drewN HB1.out k).setCell (p := ⟨w.heap.size, 0, none⟩) (Nat.le_refl _) _).setCell (p := ⟨w.heap.size, 1, none⟩) (Nat.le_refl _) _⟩
end Go.Proofs.YtmdlpbgelgeiaaaDoor
