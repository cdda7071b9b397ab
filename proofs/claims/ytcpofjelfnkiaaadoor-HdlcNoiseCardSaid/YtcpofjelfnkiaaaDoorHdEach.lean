/-
  hdlc.Line: the iterator each$1 at whatever its caller knows.
-/
import Derived.Test.YtcpofjelfnkiaaaDoorHdIt
import Derived.RangeFuncBound
import Derived.RangeFuncLeaves
import Derived.Shelf.Abstract
import Derived.Shelf.RegionOpen
import Derived.WalkKit
import Derived.OwnWalkIn
import Derived.TacticsInMore
import Derived.LoopNIn
import Derived.LoopIn
namespace Go.Proofs.YtcpofjelfnkiaaaDoor
open Go.RowKit Go.Shelf
set_option maxRecDepth 100000
set_option maxHeartbeats 4000000
set_option linter.unusedSimpArgs false
set_option linter.unusedVariables false
attribute [local go_sem] Oper.semAt_some

theorem hdIn_scope {n : Nat} {P : Program} {c : Code} {Q : Exit → Act → World → Prop} {a : Act} {w : World} (h : c.wpIn Fence.wide n P (Exit.noGoto Q) a w) : (Code.scope c).wpIn Fence.wide n P Q a w :=
  wpIn_wide.2 (wp_scope_straight (wpIn_wide.1 h))
def lenOfH : Value → Nat
  | .slice _ n _ => n
  | _ => 0
def leftH (Bs : Nat) (W : World) : Nat := match W.cell? ⟨Bs, 0, none⟩ with
  | some (.slice _ n _) => n
  | _ => 0
/-- a frame's value -/
def frV (z : Int) (A : Option Addr) (m c : Nat) : Value := .agg #[.int .i64 z, .slice A m c]
/-- the caller's word abides what the iterator does -/
def AbIt (b Bs : Nat) (J : Nat → Value → World → Prop) : Prop :=
  ∀ k hv hv' W W', J k hv W → (∀ g, hv.ownBlock = some g → ∃ cs t fz, W.heap[g]? = some (.cells cs t fz)) → W.heap.size ≤ W'.heap.size → (W'.os = W.os ∧ W'.tape = W.tape ∧ W'.output = W.output) → (∀ i, i < W.heap.size → i ≠ b → i ≠ Bs → hv.ownBlock ≠ some i → W'.heap[i]? = W.heap[i]?) → (∀ g, hv'.ownBlock = some g → hv.ownBlock = some g ∨ W.heap.size ≤ g) → J k hv' W'
theorem own_cells {W : World} {base : Nat} {v : Value} {l : List UInt8} (h : Own W base v l) : ∀ g, v.ownBlock = some g → ∃ cs t fz, W.heap[g]? = some (.cells cs t fz) := by
  intro g e
  rcases h.2 with ⟨rfl, _⟩ | ⟨g2, cap, cur, rfl, _, hh, _⟩
  · cases e
  · have e3 : g2 = g := by injection e
    subst e3
    exact ⟨_, _, _, hh⟩
theorem AbIt.step {b Bs : Nat} {J : Nat → Value → World → Prop} (h : AbIt b Bs J) {k : Nat} {hv hv' : Value} {W W' : World} {l : List UInt8} {base : Nat} (hJ : J k hv W) (ho : Own W base hv l) (hT : Trn b hv hv' W W') : J k hv' W' :=
  h k hv hv' W W' hJ (own_cells ho) hT.size ⟨hT.os, hT.tape, hT.output⟩ (fun i hi h1 _ h3 => hT.block i hi h1 h3) hT.own
theorem AbIt.next {b Bs : Nat} {J : Nat → Value → World → Prop} (h : AbIt b Bs J) {k : Nat} {hv : Value} {W : World} {l : List UInt8} {base : Nat} (hJ : J k hv W) (ho : Own W base hv l) (v : Value) : J k hv (W.setCell ⟨Bs, 0, none⟩ v) :=
  h k hv hv W _ hJ (own_cells ho) (by simp [World.setCell]) ⟨rfl, rfl, rfl⟩ (fun i hi _ h2 _ => Below.heap_setCell W ⟨Bs, 0, none⟩ v i h2) (fun _ e => .inl e)
theorem AbIt.later {b Bs : Nat} {J : Nat → Value → World → Prop} (h : AbIt b Bs J) {k : Nat} {hv : Value} {W W' : World} {l : List UInt8} {base : Nat} (hJ : J k hv W) (ho : Own W base hv l) (hB : Below W.heap.size W W') : J k hv W' :=
  h k hv hv W W' hJ (own_cells ho) hB.size ⟨hB.os, hB.tape, hB.output⟩ (fun i hi _ _ _ => hB.block i hi) (fun _ e => .inl e)

/-- at the head of a round of the iterator -/
def EachR (Bd Bs Ls b : Nat) (a : Int) (M : Nat) (p q : Bool) (s0 : LSt) (l : List UInt8) (base : Nat) (J : Nat → Value → World → Prop) (W : World) : Prop :=
  ∃ k0 k hv A n c, k0 ≤ k ∧ k ≤ l.length ∧ frs a M p q s0 (l.take k) = frs a M p q s0 (l.take k0) ∧ J k0 hv W ∧ ItS Bd Bs Ls b a M p q hv (runS a M p q s0 (l.take k)) A n c (l.drop k) W ∧ base ≤ W.heap.size
theorem each1_in (n : Nat) (hn : 1 ≤ n) (lp Bd Bs Ls b : Nat) (a : Int) (M : Nat) (p q : Bool) (hM : M ≤ 16390) (s0 : LSt) (l : List UInt8) (base : Nat) (J Jx : Nat → Value → World → Prop) (hJ : AbIt b Bs J)
    (hY : ∀ k0 k hv A n' c W z D m d, k0 ≤ k → k < l.length → J k0 hv W → ItS Bd Bs Ls b a M p q hv (runS a M p q s0 (l.take (k + 1))) A n' c (l.drop (k + 1)) W → frs a M p q s0 (l.take k) = frs a M p q s0 (l.take k0) →
      (∃ P I, frs a M p q s0 (l.take (k + 1)) = frs a M p q s0 (l.take k) ++ [(P, I)] ∧ z = P ∧ m = I.length ∧ Own W base (.slice D m d) I) → (∀ g, (Value.slice D m d).ownBlock = some g → hv.ownBlock ≠ some g ∧ g ≠ b ∧ g ≠ Bs) → base ≤ W.heap.size →
      YieldAt Fence.wide (n - 1) Tryd.prog lp #[frV z D m d] W fun e W' => (e = .returned (.bool true) ∧ J (k + 1) hv W' ∧ ItS Bd Bs Ls b a M p q hv (runS a M p q s0 (l.take (k + 1))) A n' c (l.drop (k + 1)) W' ∧ base ≤ W'.heap.size) ∨ (e = .returned (.bool false) ∧ Jx (k + 1) hv W' ∧ ItS Bd Bs Ls b a M p q hv (runS a M p q s0 (l.take (k + 1))) A n' c (l.drop (k + 1)) W'))
    (hv : Value) (A : Option Addr) (n' c : Nat) (W : World) (h0 : J 0 hv W) (hI : ItS Bd Bs Ls b a M p q hv s0 A n' c l W) (hbs : base ≤ W.heap.size) (hm : n' ≤ 140737488355328) :
    CallsIn Fence.wide n Tryd.prog 50 #[.func (.yield lp) #[] #[], .pointer (some ⟨Bs, 0, none⟩), .pointer (some ⟨Ls, 0, none⟩)] W fun e W' => (∃ v, e = .returned v) ∧
      ((∃ k0 hv' A2 n2 c2, frs a M p q s0 l = frs a M p q s0 (l.take k0) ∧ J k0 hv' W' ∧ ItS Bd Bs Ls b a M p q hv' (runS a M p q s0 l) A2 n2 c2 [] W') ∨ (∃ k hv' A2 n2 c2, k ≤ l.length ∧ Jx k hv' W' ∧ ItS Bd Bs Ls b a M p q hv' (runS a M p q s0 (l.take k)) A2 n2 c2 (l.drop k) W')) := by
  have HJ := Lib.hid hJ
  have HY := Lib.hid hY
  have hl := hI.rd.1
  have HL := Lib.hid hl
  have H0 := Lib.hid h0
  have HI := Lib.hid hI
  clear hJ hY hl h0 hI
  refine callsIn_of_wp Tryd.func50 rfl trivial ?_ rfl
  simp only [Tryd.ntmps50, List.size_toArray, List.length_cons, List.length_nil, Nat.reduceAdd, Nat.reduceSub, Array.replicate_succ, Array.replicate_zero, List.push_toArray, List.append_toArray, List.nil_append, List.cons_append]
  gi_wp2
  refine hdIn_scope ?_
  gi_wp2
  refine wpIn_label ?_
  gi_wp2
  gi_loopw [7] (fun _ wr => EachR Bd Bs Ls b a M p q s0 l base J wr) (fun _ wr => leftH Bs wr)
  case atStart => exact ⟨0, 0, hv, A, n', c, Nat.le_refl _, Nat.zero_le _, rfl, H0.out, HI.out, hbs⟩
  case round =>
    obtain ⟨k0, k, hv, A, n', c, hk0, hk, hfr, hJ, hI, hbs⟩ := hrel
    have hln : n' = l.length - k := by have := hI.rd.1; rw [List.length_drop] at this; omega
    have cB : wr.cell? ⟨Bs, 0, none⟩ = some (.slice A n' c) := hI.bs.cell 0
    have fB := hI.bs.frozen 0
    have HM : Hid (leftH Bs wr = n') := by show _ = _; unfold leftH; rw [cB]
    by_cases hlt : k < l.length
    · obtain ⟨g, o, rfl, hg, hcell⟩ := hI.rd.2 (by omega)
      obtain ⟨cc, hcc⟩ : ∃ cc, cc = l.getD k 0 := ⟨_, rfl⟩
      obtain ⟨z, hz⟩ : ∃ z : Int, z = (cc.toNat : Int) := ⟨_, rfl⟩
      have k0c : wr.cell? ⟨g, o, none⟩ = some (.int .u8 z) := by
        have h := hcell 0 (by omega)
        rw [Nat.add_zero] at h
        rw [h]
        congr 2
        rw [hz, hcc]
        unfold byteAt
        rw [List.getD_eq_getElem?_getD, List.getElem?_drop, Nat.add_zero, List.getD_eq_getElem?_getD]
      obtain ⟨o', c', hrun', hrd', hc'⟩ := slice_one g o n' c Bd (l.drop k) wr hI.rd hI.nc (by omega)
      rw [List.drop_drop] at hrd'
      have hrun : ∀ W, (Instr.slice 22 (.slice (some ⟨g, o, none⟩) n' c) (some (.int .i64 1)) none none).run Tryd.prog W = .ok (.slice (some ⟨g, o', none⟩) (n' - 1) c') W := hrun'
      obtain ⟨n2, hn2⟩ : ∃ n2, n2 = n' - 1 := ⟨_, rfl⟩
      rw [← hn2] at hrun hrd' hc'
      obtain ⟨W1, hW1⟩ : ∃ W1, wr.setCell ⟨Bs, 0, none⟩ (.slice (some ⟨g, o', none⟩) n2 c') = W1 := ⟨_, rfl⟩
      have hI1 : ItS Bd Bs Ls b a M p q hv (runS a M p q s0 (l.take k)) (some ⟨g, o', none⟩) n2 c' (l.drop (k + 1)) W1 := by
        rw [← hW1]
        exact hI.next hrd' hc' (by omega) (fun g' o'' s' e => by cases e; exact ⟨_, _, rfl⟩)
      have hJ1 : J k0 hv W1 := by rw [← hW1]; exact HJ.out.next hJ hI.ln.own _
      have hs1 : base ≤ W1.heap.size := by rw [← hW1]; simpa [World.setCell] using hbs
      have kk : W1.cell? ⟨b, cc.toNat, none⟩ = some (.int .u8 (kd a cc.toNat : Nat)) := hI1.ln.kind _ cc.toNat_lt
      have cL : W1.cell? ⟨Ls, 0, none⟩ = some (.pointer (some ⟨b, 0, none⟩)) := hI1.ls.cell 0
      have hzt : z.toNat = cc.toNat := by omega
      have hS := Lib.hid (runS_next a M p q s0 l k hlt)
      have hF := Lib.hid (frs_next a M p q s0 l k hlt)
      rw [← hcc] at hS hF
      have n0 : (0 : Int) < (n' : Int) := by omega
      have n0' : 0 < n' := by omega
      have z0 : 0 ≤ z := by omega
      have z1 : z ≤ 255 := by have := cc.toNat_lt; omega
      have z2 : z < 256 := by omega
      obtain ⟨s, hs⟩ : ∃ s, s = runS a M p q s0 (l.take k) := ⟨_, rfl⟩
      rw [← hs] at hI1 hS hF
      have HCC := Lib.hid hcc
      have HW1 := Lib.hid hW1
      have HI1 := Lib.hid hI1
      have HJ1 := Lib.hid hJ1
      have HFR := Lib.hid hfr
      have HN2 := Lib.hid hn2
      have HLN := Lib.hid hln
      have TK : Hid (Calls Tryd.prog 52 #[.pointer (some ⟨b, 0, none⟩), .int .u8 z] W1 fun e w' => ∃ hv', e = .returned (.tuple #[]) ∧ LnAt w' b a M p q hv' (tkS M s cc) ∧ Trn b hv hv' W1 w') := by rw [hz]; exact take_any b a M p q hv s W1 hI1.ln hM cc
      have EC := Lib.hid (end_any b a M p q hv s W1 hI1.ln hM hI1.tb hI1.t1)
      obtain ⟨kz, hkz⟩ : ∃ kz : Int, kz = (kd a cc.toNat : Nat) := ⟨_, rfl⟩
      have HKZ := Lib.hid hkz
      rw [← hkz] at kk
      clear hI hJ hcell hrd' hc' hrun' hI1 hJ1 hW1 hcc hz hfr hs hn2 hln hkz hbs hk
      by_cases h1 : kz = 1
      · subst h1
        have e1 : kd a cc.toNat = 1 := by have := HKZ.out; omega
        have eS : Hid (runS a M p q s0 (l.take (k + 1)) = s) := by show _ = _; rw [hS.out]; unfold stp1; rw [if_pos e1]
        have eF : Hid (frs a M p q s0 (l.take (k + 1)) = frs a M p q s0 (l.take k)) := by show _ = _; rw [hF.out]; unfold out1; rw [if_neg (by rintro ⟨e, _⟩; omega), List.append_nil]
        clear e1
        gi_wp2_with (rw [HW1.out])
        go_roundw
        case rel => exact ⟨k0, k + 1, hv, _, n2, c', by omega, by omega, eF.out.trans HFR.out, HJ1.out, by rw [eS.out]; exact HI1.out, hs1⟩
        case measure =>
          rw [HM.out]
          have : leftH Bs W1 = n2 := by unfold leftH; rw [HI1.out.bs.cell 0]; rfl
          rw [this]
          have := HN2.out
          omega
      · have g1 : (kz == 1) = false := by simpa using h1
        have e1 : ¬ kd a cc.toNat = 1 := by have := HKZ.out; omega
        by_cases h3 : kz = 3
        · subst h3
          have e3 : kd a cc.toNat = 3 := by have := HKZ.out; omega
          have eS : Hid (runS a M p q s0 (l.take (k + 1)) = endS M p q s) := by show _ = _; rw [hS.out]; unfold stp1; rw [if_neg e1, if_pos e3]
          -- what end leaves, and the frame in its box
          have EC2 : Hid (Calls Tryd.prog 51 #[.pointer (some ⟨b, 0, none⟩)] W1 fun e w2 => ∃ z A m d hv', e = .returned (.tuple #[.agg #[.int .i64 z, .slice A m d], .bool (endB M p q s)]) ∧ Hid (J k0 hv' (w2.alloc (.cells #[.int .i64 z, .slice A m d] 24))) ∧ Hid (ItS Bd Bs Ls b a M p q hv' (endS M p q s) (some ⟨g, o', none⟩) n2 c' (l.drop (k + 1)) (w2.alloc (.cells #[.int .i64 z, .slice A m d] 24))) ∧ Hid (endB M p q s = true → z = frP s.held ∧ m = (frI s.held).length ∧ Own (w2.alloc (.cells #[.int .i64 z, .slice A m d] 24)) base (.slice A m d) (frI s.held) ∧ (∀ g, (Value.slice A m d).ownBlock = some g → hv'.ownBlock ≠ some g ∧ g ≠ b ∧ g ≠ Bs)) ∧ Hid (base ≤ w2.heap.size)) := by
            refine EC.out.mono ?_
            rintro e w2 ⟨z, A, m, d, hv', rfl, h2, t2, f2⟩
            have sz := t2.size
            refine ⟨z, A, m, d, hv', rfl, ?_, ?_, fun e => ?_, by show base ≤ _; omega⟩
            · exact HJ.out.later (HJ.out.step HJ1.out HI1.out.ln.own t2) h2.own ((Below.refl _ _).alloc (Nat.le_refl _) _)
            · exact (HI1.out.step h2 t2).later ((Below.refl _ _).alloc (Nat.le_refl _) _)
            · obtain ⟨⟨x1, x2, x3⟩, x4⟩ := f2 e
              have lb := Blk.lt HI1.out.ln.blk
              have lB := Blk.lt HI1.out.bs
              exact ⟨x1, x2, own_lower (x3.alloc _) hs1, fun g hg => ⟨(x4 g hg).2, by have := (x4 g hg).1; omega, by have := (x4 g hg).1; omega⟩⟩
          clear e1 EC TK
          rcases hB : endB M p q s with _ | _
          · have eF : Hid (frs a M p q s0 (l.take (k + 1)) = frs a M p q s0 (l.take k)) := by show _ = _; rw [hF.out]; unfold out1; rw [if_neg (by rintro ⟨_, e⟩; rw [hB] at e; cases e), List.append_nil]
            rw [hB] at EC2
            clear hB e3 hF
            gi_wp2_with (first
              | (rw [HW1.out])
              | (refine ⟨trivial, ?_⟩; gi_at_call 51; refine (callsIn_wide.2 EC2.out).mono ?_; rintro e w2 ⟨z', A', m', d', hv', rfl, HJ2, HI2, HF2, HB2⟩))
            refine ⟨fun _ h => (by cases h), ?_⟩
            gi_wp2
            go_roundw
            case rel => exact ⟨k0, k + 1, hv', _, n2, c', by omega, by omega, eF.out.trans HFR.out, HJ2.out, by rw [eS.out]; exact HI2.out, by have := HB2.out; simp; omega⟩
            case measure =>
              rw [HM.out]
              have : leftH Bs (World.alloc w2 (.cells #[.int .i64 z', .slice A' m' d'] 24)) = n2 := by unfold leftH; rw [HI2.out.bs.cell 0]; rfl
              rw [this]
              have := HN2.out
              omega
          · have eF : Hid (frs a M p q s0 (l.take (k + 1)) = frs a M p q s0 (l.take k) ++ [(frP s.held, frI s.held)]) := by show _ = _; rw [hF.out]; unfold out1; rw [if_pos ⟨e3, hB⟩]
            rw [hB] at EC2
            clear hB e3 hF
            gi_wp2_with (first
              | (rw [HW1.out])
              | (refine ⟨trivial, ?_⟩; gi_at_call 51; refine (callsIn_wide.2 EC2.out).mono ?_; rintro e w2 ⟨z', A', m', d', hv', rfl, HJ2, HI2, HF2, HB2⟩; obtain ⟨fn, tmps, assign, body, hy, hR⟩ := HY.out k0 k hv' (some ⟨g, o', none⟩) n2 c' (w2.alloc (.cells #[.int .i64 z', .slice A' m' d'] 24)) z' A' m' d' hk0 hlt HJ2.out (by rw [eS.out]; exact HI2.out) HFR.out ⟨frP s.held, frI s.held, eF.out, (HF2.out rfl).1, (HF2.out rfl).2.1, (HF2.out rfl).2.2.1⟩ (HF2.out rfl).2.2.2 (by have := HB2.out; simp; omega); have HRR := Lib.hid hR; dsimp only [frV] at hy; clear hR))
            refine HRR.out.mono ?_
            rintro e W3 (⟨rfl, hJ3, hI3, hB3⟩ | ⟨rfl, hJx3, hI3⟩)
            · have HJ3 := Lib.hid hJ3
              have HI3 := Lib.hid hI3
              clear hJ3 hI3
              gi_wp2
              go_roundw
              case rel => exact ⟨k + 1, k + 1, hv', _, n2, c', by omega, by omega, rfl, HJ3.out, HI3.out, hB3⟩
              case measure =>
                rw [HM.out]
                have : leftH Bs W3 = n2 := by unfold leftH; rw [HI3.out.bs.cell 0]; rfl
                rw [this]
                have := HN2.out
                omega
            · have HJ3 := Lib.hid hJx3
              have HI3 := Lib.hid hI3
              clear hJx3 hI3
              gi_wp2
              dsimp only [Exit.noGoto]
              go_end0
              exact ⟨⟨_, rfl⟩, .inr ⟨k + 1, hv', _, n2, c', by omega, HJ3.out, HI3.out⟩⟩
        · have g3 : (kz == 3) = false := by simpa using h3
          have e3 : ¬ kd a cc.toNat = 3 := by have := HKZ.out; omega
          have eS : Hid (runS a M p q s0 (l.take (k + 1)) = tkS M s cc) := by show _ = _; rw [hS.out]; unfold stp1; rw [if_neg e1, if_neg e3]
          have eF : Hid (frs a M p q s0 (l.take (k + 1)) = frs a M p q s0 (l.take k)) := by show _ = _; rw [hF.out]; unfold out1; rw [if_neg (by rintro ⟨e, _⟩; exact e3 e), List.append_nil]
          clear e1 e3 EC h1 h3
          gi_wp2_with (first
            | (rw [HW1.out])
            | (refine ⟨trivial, ?_⟩; gi_at_call 52; refine (callsIn_wide.2 TK.out).mono ?_; rintro e w2 ⟨hv', rfl, hl2, ht2⟩; have HL2 := Lib.hid hl2; have HT2 := Lib.hid ht2; clear hl2 ht2))
          go_roundw
          case rel => exact ⟨k0, k + 1, hv', _, n2, c', by omega, by omega, eF.out.trans HFR.out, HJ.out.step HJ1.out HI1.out.ln.own HT2.out, by rw [eS.out]; exact HI1.out.step HL2.out HT2.out, by have := HT2.out.size; omega⟩
          case measure =>
            rw [HM.out]
            have : leftH Bs w2 = n2 := by unfold leftH; rw [(HI1.out.step HL2.out HT2.out).bs.cell 0]; rfl
            rw [this]
            have := HN2.out
            omega
    · obtain rfl : k = l.length := by omega
      have hn0 : n' = 0 := by omega
      subst hn0
      have HI2 := Lib.hid hI
      have HJ2 := Lib.hid hJ
      have HF2 := Lib.hid hfr
      clear hI hJ hfr hln
      gi_wp2
      dsimp only [Exit.noGoto]
      go_end0
      have h := HI2.out
      have hf := HF2.out
      rw [List.take_length, List.drop_length] at h
      rw [List.take_length] at hf
      exact ⟨⟨_, rfl⟩, .inl ⟨k0, hv, A, 0, c, hf, HJ2.out, h⟩⟩
end Go.Proofs.YtcpofjelfnkiaaaDoor
