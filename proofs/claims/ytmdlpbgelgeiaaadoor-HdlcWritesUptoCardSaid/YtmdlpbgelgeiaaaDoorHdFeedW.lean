/-
  hdlc.Line: the iterator each$1 at whatever its caller knows.
  hdlc.Line: each, Feed.
  hdlc.Line: Feed.
-/
import Derived.Test.YtmdlpbgelgeiaaaDoorHdIt
import Derived.RangeFuncBound
import Derived.RangeFuncLeaves
import Derived.Shelf.Abstract
import Derived.Shelf.RegionOpen
import Derived.WalkKit
import Derived.OwnWalkIn
import Derived.TacticsInMore
import Derived.LoopNIn
import Derived.LoopIn
import Derived.Test.YtmdlpbgelgeiaaaDoorHdFrm
namespace Go.Proofs.YtmdlpbgelgeiaaaDoor
open Go.RowKit Go.Shelf
set_option maxRecDepth 100000
set_option maxHeartbeats 4000000
set_option linter.unusedSimpArgs false
set_option linter.unusedVariables false
attribute [local go_sem] Oper.semAt_some

theorem hdIn_scope {n : Nat} {P : Program} {c : Code} {Q : Exit → Act → World → Prop} {a : Act} {w : World} (h : c.wpIn Fence.wide n P (Exit.noGoto Q) a w) : (Code.scope c).wpIn Fence.wide n P Q a w :=
  wpIn_wide.2 (wp_scope_straight (wpIn_wide.1 h))
def lenOfH : Value → Nat
  | .slice _ n _ => n
  | _ => 0
def leftH (Bs : Nat) (W : World) : Nat := match W.cell? ⟨Bs, 0, none⟩ with
  | some (.slice _ n _) => n
  | _ => 0
/-- a frame's value -/
def frV (z : Int) (A : Option Addr) (m c : Nat) : Value := .agg #[.int .i64 z, .slice A m c]
/-- the caller's word abides what the iterator does -/
def AbIt (b Bs : Nat) (J : Nat → Value → World → Prop) : Prop :=
  ∀ k hv hv' W W', J k hv W → (∀ g, hv.ownBlock = some g → ∃ cs t fz, W.heap[g]? = some (.cells cs t fz)) → W.heap.size ≤ W'.heap.size → (W'.os = W.os ∧ W'.tape = W.tape ∧ W'.output = W.output) → (∀ i, i < W.heap.size → i ≠ b → i ≠ Bs → hv.ownBlock ≠ some i → W'.heap[i]? = W.heap[i]?) → (∀ g, hv'.ownBlock = some g → hv.ownBlock = some g ∨ W.heap.size ≤ g) → J k hv' W'
theorem own_cells {W : World} {base : Nat} {v : Value} {l : List UInt8} (h : Own W base v l) : ∀ g, v.ownBlock = some g → ∃ cs t fz, W.heap[g]? = some (.cells cs t fz) := by
  intro g e
  rcases h.2 with ⟨rfl, _⟩ | ⟨g2, cap, cur, rfl, _, hh, _⟩
  · cases e
  · have e3 : g2 = g := by injection e
    subst e3
    exact ⟨_, _, _, hh⟩
theorem AbIt.step {b Bs : Nat} {J : Nat → Value → World → Prop} (h : AbIt b Bs J) {k : Nat} {hv hv' : Value} {W W' : World} {l : List UInt8} {base : Nat} (hJ : J k hv W) (ho : Own W base hv l) (hT : Trn b hv hv' W W') : J k hv' W' :=
  h k hv hv' W W' hJ (own_cells ho) hT.size ⟨hT.os, hT.tape, hT.output⟩ (fun i hi h1 _ h3 => hT.block i hi h1 h3) hT.own
theorem AbIt.next {b Bs : Nat} {J : Nat → Value → World → Prop} (h : AbIt b Bs J) {k : Nat} {hv : Value} {W : World} {l : List UInt8} {base : Nat} (hJ : J k hv W) (ho : Own W base hv l) (v : Value) : J k hv (W.setCell ⟨Bs, 0, none⟩ v) :=
  h k hv hv W _ hJ (own_cells ho) (by simp [World.setCell]) ⟨rfl, rfl, rfl⟩ (fun i hi _ h2 _ => Below.heap_setCell W ⟨Bs, 0, none⟩ v i h2) (fun _ e => .inl e)
theorem AbIt.later {b Bs : Nat} {J : Nat → Value → World → Prop} (h : AbIt b Bs J) {k : Nat} {hv : Value} {W W' : World} {l : List UInt8} {base : Nat} (hJ : J k hv W) (ho : Own W base hv l) (hB : Below W.heap.size W W') : J k hv W' :=
  h k hv hv W W' hJ (own_cells ho) hB.size ⟨hB.os, hB.tape, hB.output⟩ (fun i hi _ _ _ => hB.block i hi) (fun _ e => .inl e)

/-- a value's block is newer than a world where the caller's word held -/
def Newer (b : Nat) (J : Nat → Value → World → Prop) (k : Nat) (hv : Value) (W : World) (v : Value) : Prop :=
  ∃ hv0 W0, J k hv0 W0 ∧ (∀ g, hv0.ownBlock = some g → ∃ cs t fz, W0.heap[g]? = some (.cells cs t fz)) ∧ Trn b hv0 hv W0 W ∧ ∀ g, v.ownBlock = some g → W0.heap.size ≤ g
/-- at the head of a round of the iterator -/
def EachR (Bd Bs Ls b : Nat) (a : Int) (M : Nat) (p q : Bool) (s0 : LSt) (l : List UInt8) (base : Nat) (J : Nat → Value → World → Prop) (W : World) : Prop :=
  ∃ k0 k hv A n c, k0 ≤ k ∧ k ≤ l.length ∧ frs a M p q s0 (l.take k) = frs a M p q s0 (l.take k0) ∧ J k0 hv W ∧ ItS Bd Bs Ls b a M p q hv (runS a M p q s0 (l.take k)) A n c (l.drop k) W ∧ base ≤ W.heap.size
theorem each1_in (n : Nat) (hn : 1 ≤ n) (lp Bd Bs Ls b : Nat) (a : Int) (M : Nat) (p q : Bool) (hM : M ≤ 16390) (s0 : LSt) (l : List UInt8) (base : Nat) (J Jx : Nat → Value → World → Prop) (hJ : AbIt b Bs J)
    (hY : ∀ k0 k hv A n' c W z D m d, k0 ≤ k → k < l.length → J k0 hv W → ItS Bd Bs Ls b a M p q hv (runS a M p q s0 (l.take (k + 1))) A n' c (l.drop (k + 1)) W → frs a M p q s0 (l.take k) = frs a M p q s0 (l.take k0) →
      (∃ P I, frs a M p q s0 (l.take (k + 1)) = frs a M p q s0 (l.take k) ++ [(P, I)] ∧ z = P ∧ m = I.length ∧ Own W base (.slice D m d) I) → (∀ g, (Value.slice D m d).ownBlock = some g → hv.ownBlock ≠ some g ∧ g ≠ b ∧ g ≠ Bs) → Newer b J k0 hv W (.slice D m d) → base ≤ W.heap.size →
      YieldAt Fence.wide (n - 1) Tryd.prog lp #[frV z D m d] W fun e W' => (e = .returned (.bool true) ∧ J (k + 1) hv W' ∧ ItS Bd Bs Ls b a M p q hv (runS a M p q s0 (l.take (k + 1))) A n' c (l.drop (k + 1)) W' ∧ base ≤ W'.heap.size) ∨ (e = .returned (.bool false) ∧ Jx (k + 1) hv W' ∧ ItS Bd Bs Ls b a M p q hv (runS a M p q s0 (l.take (k + 1))) A n' c (l.drop (k + 1)) W'))
    (hv : Value) (A : Option Addr) (n' c : Nat) (W : World) (h0 : J 0 hv W) (hI : ItS Bd Bs Ls b a M p q hv s0 A n' c l W) (hbs : base ≤ W.heap.size) (hm : n' ≤ 140737488355328) :
    CallsIn Fence.wide n Tryd.prog 50 #[.func (.yield lp) #[] #[], .pointer (some ⟨Bs, 0, none⟩), .pointer (some ⟨Ls, 0, none⟩)] W fun e W' => (∃ v, e = .returned v) ∧
      ((∃ k0 hv' A2 n2 c2, frs a M p q s0 l = frs a M p q s0 (l.take k0) ∧ J k0 hv' W' ∧ ItS Bd Bs Ls b a M p q hv' (runS a M p q s0 l) A2 n2 c2 [] W') ∨ (∃ k hv' A2 n2 c2, k ≤ l.length ∧ Jx k hv' W' ∧ ItS Bd Bs Ls b a M p q hv' (runS a M p q s0 (l.take k)) A2 n2 c2 (l.drop k) W')) := by
  have HJ := Lib.hid hJ
  have HY := Lib.hid hY
  have hl := hI.rd.1
  have HL := Lib.hid hl
  have H0 := Lib.hid h0
  have HI := Lib.hid hI
  clear hJ hY hl h0 hI
  refine callsIn_of_wp Tryd.func50 rfl trivial ?_ rfl
  simp only [Tryd.ntmps50, List.size_toArray, List.length_cons, List.length_nil, Nat.reduceAdd, Nat.reduceSub, Array.replicate_succ, Array.replicate_zero, List.push_toArray, List.append_toArray, List.nil_append, List.cons_append]
  gi_wp2
  refine hdIn_scope ?_
  gi_wp2
  refine wpIn_label ?_
  gi_wp2
  gi_loopw [7] (fun _ wr => EachR Bd Bs Ls b a M p q s0 l base J wr) (fun _ wr => leftH Bs wr)
  case atStart => exact ⟨0, 0, hv, A, n', c, Nat.le_refl _, Nat.zero_le _, rfl, H0.out, HI.out, hbs⟩
  case round =>
    obtain ⟨k0, k, hv, A, n', c, hk0, hk, hfr, hJ, hI, hbs⟩ := hrel
    have hln : n' = l.length - k := by have := hI.rd.1; rw [List.length_drop] at this; omega
    have cB : wr.cell? ⟨Bs, 0, none⟩ = some (.slice A n' c) := hI.bs.cell 0
    have fB := hI.bs.frozen 0
    have HM : Hid (leftH Bs wr = n') := by show _ = _; unfold leftH; rw [cB]
    by_cases hlt : k < l.length
    · obtain ⟨g, o, rfl, hg, hcell⟩ := hI.rd.2 (by omega)
      obtain ⟨cc, hcc⟩ : ∃ cc, cc = l.getD k 0 := ⟨_, rfl⟩
      obtain ⟨z, hz⟩ : ∃ z : Int, z = (cc.toNat : Int) := ⟨_, rfl⟩
      have k0c : wr.cell? ⟨g, o, none⟩ = some (.int .u8 z) := by
        have h := hcell 0 (by omega)
        rw [Nat.add_zero] at h
        rw [h]
        congr 2
        rw [hz, hcc]
        unfold byteAt
        rw [List.getD_eq_getElem?_getD, List.getElem?_drop, Nat.add_zero, List.getD_eq_getElem?_getD]
      obtain ⟨o', c', hrun', hrd', hc'⟩ := slice_one g o n' c Bd (l.drop k) wr hI.rd hI.nc (by omega)
      rw [List.drop_drop] at hrd'
      have hrun : ∀ W, (Instr.slice 22 (.slice (some ⟨g, o, none⟩) n' c) (some (.int .i64 1)) none none).run Tryd.prog W = .ok (.slice (some ⟨g, o', none⟩) (n' - 1) c') W := hrun'
      obtain ⟨n2, hn2⟩ : ∃ n2, n2 = n' - 1 := ⟨_, rfl⟩
      rw [← hn2] at hrun hrd' hc'
      obtain ⟨W1, hW1⟩ : ∃ W1, wr.setCell ⟨Bs, 0, none⟩ (.slice (some ⟨g, o', none⟩) n2 c') = W1 := ⟨_, rfl⟩
      have hI1 : ItS Bd Bs Ls b a M p q hv (runS a M p q s0 (l.take k)) (some ⟨g, o', none⟩) n2 c' (l.drop (k + 1)) W1 := by
        rw [← hW1]
        exact hI.next hrd' hc' (by omega) (fun g' o'' s' e => by cases e; exact ⟨_, _, rfl⟩)
      have hJ1 : J k0 hv W1 := by rw [← hW1]; exact HJ.out.next hJ hI.ln.own _
      have hs1 : base ≤ W1.heap.size := by rw [← hW1]; simpa [World.setCell] using hbs
      have kk : W1.cell? ⟨b, cc.toNat, none⟩ = some (.int .u8 (kd a cc.toNat : Nat)) := hI1.ln.kind _ cc.toNat_lt
      have cL : W1.cell? ⟨Ls, 0, none⟩ = some (.pointer (some ⟨b, 0, none⟩)) := hI1.ls.cell 0
      have hzt : z.toNat = cc.toNat := by omega
      have hS := Lib.hid (runS_next a M p q s0 l k hlt)
      have hF := Lib.hid (frs_next a M p q s0 l k hlt)
      rw [← hcc] at hS hF
      have n0 : (0 : Int) < (n' : Int) := by omega
      have n0' : 0 < n' := by omega
      have z0 : 0 ≤ z := by omega
      have z1 : z ≤ 255 := by have := cc.toNat_lt; omega
      have z2 : z < 256 := by omega
      obtain ⟨s, hs⟩ : ∃ s, s = runS a M p q s0 (l.take k) := ⟨_, rfl⟩
      rw [← hs] at hI1 hS hF
      have HCC := Lib.hid hcc
      have HW1 := Lib.hid hW1
      have HI1 := Lib.hid hI1
      have HJ1 := Lib.hid hJ1
      have HFR := Lib.hid hfr
      have HN2 := Lib.hid hn2
      have HLN := Lib.hid hln
      have TK : Hid (Calls Tryd.prog 52 #[.pointer (some ⟨b, 0, none⟩), .int .u8 z] W1 fun e w' => ∃ hv', e = .returned (.tuple #[]) ∧ LnAt w' b a M p q hv' (tkS M s cc) ∧ Trn b hv hv' W1 w') := by rw [hz]; exact take_any b a M p q hv s W1 hI1.ln hM cc
      have EC := Lib.hid (end_any b a M p q hv s W1 hI1.ln hM hI1.tb hI1.t1)
      obtain ⟨kz, hkz⟩ : ∃ kz : Int, kz = (kd a cc.toNat : Nat) := ⟨_, rfl⟩
      have HKZ := Lib.hid hkz
      rw [← hkz] at kk
      clear hI hJ hcell hrd' hc' hrun' hI1 hJ1 hW1 hcc hz hfr hs hn2 hln hkz hbs hk
      by_cases h1 : kz = 1
      · subst h1
        have e1 : kd a cc.toNat = 1 := by have := HKZ.out; omega
        have eS : Hid (runS a M p q s0 (l.take (k + 1)) = s) := by show _ = _; rw [hS.out]; unfold stp1; rw [if_pos e1]
        have eF : Hid (frs a M p q s0 (l.take (k + 1)) = frs a M p q s0 (l.take k)) := by show _ = _; rw [hF.out]; unfold out1; rw [if_neg (by rintro ⟨e, _⟩; omega), List.append_nil]
        clear e1
        gi_wp2_with (rw [HW1.out])
        go_roundw
        case rel => exact ⟨k0, k + 1, hv, _, n2, c', by omega, by omega, eF.out.trans HFR.out, HJ1.out, by rw [eS.out]; exact HI1.out, hs1⟩
        case measure =>
          rw [HM.out]
          have : leftH Bs W1 = n2 := by unfold leftH; rw [HI1.out.bs.cell 0]; rfl
          rw [this]
          have := HN2.out
          omega
      · have g1 : (kz == 1) = false := by simpa using h1
        have e1 : ¬ kd a cc.toNat = 1 := by have := HKZ.out; omega
        by_cases h3 : kz = 3
        · subst h3
          have e3 : kd a cc.toNat = 3 := by have := HKZ.out; omega
          have eS : Hid (runS a M p q s0 (l.take (k + 1)) = endS M p q s) := by show _ = _; rw [hS.out]; unfold stp1; rw [if_neg e1, if_pos e3]
          -- what end leaves, and the frame in its box
          have EC2 : Hid (Calls Tryd.prog 51 #[.pointer (some ⟨b, 0, none⟩)] W1 fun e w2 => ∃ z A m d hv', e = .returned (.tuple #[.agg #[.int .i64 z, .slice A m d], .bool (endB M p q s)]) ∧ Hid (J k0 hv' (w2.alloc (.cells #[.int .i64 z, .slice A m d] 24))) ∧ Hid (ItS Bd Bs Ls b a M p q hv' (endS M p q s) (some ⟨g, o', none⟩) n2 c' (l.drop (k + 1)) (w2.alloc (.cells #[.int .i64 z, .slice A m d] 24))) ∧ Hid (endB M p q s = true → z = frP s.held ∧ m = (frI s.held).length ∧ Own (w2.alloc (.cells #[.int .i64 z, .slice A m d] 24)) base (.slice A m d) (frI s.held) ∧ (∀ g, (Value.slice A m d).ownBlock = some g → hv'.ownBlock ≠ some g ∧ g ≠ b ∧ g ≠ Bs) ∧ Newer b J k0 hv' (w2.alloc (.cells #[.int .i64 z, .slice A m d] 24)) (.slice A m d)) ∧ Hid (base ≤ w2.heap.size)) := by
            refine EC.out.mono ?_
            rintro e w2 ⟨z, A, m, d, hv', rfl, h2, t2, f2⟩
            have sz := t2.size
            refine ⟨z, A, m, d, hv', rfl, ?_, ?_, fun e => ?_, by show base ≤ _; omega⟩
            · exact HJ.out.later (HJ.out.step HJ1.out HI1.out.ln.own t2) h2.own ((Below.refl _ _).alloc (Nat.le_refl _) _)
            · exact (HI1.out.step h2 t2).later ((Below.refl _ _).alloc (Nat.le_refl _) _)
            · obtain ⟨⟨x1, x2, x3⟩, x4⟩ := f2 e
              have lb := Blk.lt HI1.out.ln.blk
              have lB := Blk.lt HI1.out.bs
              exact ⟨x1, x2, own_lower (x3.alloc _) hs1, fun g hg => ⟨(x4 g hg).2, by have := (x4 g hg).1; omega, by have := (x4 g hg).1; omega⟩, hv, W1, HJ1.out, own_cells HI1.out.ln.own, t2.trans (Trn.below hv' ((Below.refl _ _).alloc (Nat.le_refl _) _)), fun g hg => (x4 g hg).1⟩
          clear e1 EC TK
          rcases hB : endB M p q s with _ | _
          · have eF : Hid (frs a M p q s0 (l.take (k + 1)) = frs a M p q s0 (l.take k)) := by show _ = _; rw [hF.out]; unfold out1; rw [if_neg (by rintro ⟨_, e⟩; rw [hB] at e; cases e), List.append_nil]
            rw [hB] at EC2
            clear hB e3 hF
            gi_wp2_with (first
              | (rw [HW1.out])
              | (refine ⟨trivial, ?_⟩; gi_at_call 51; refine (callsIn_wide.2 EC2.out).mono ?_; rintro e w2 ⟨z', A', m', d', hv', rfl, HJ2, HI2, HF2, HB2⟩))
            refine ⟨fun _ h => (by cases h), ?_⟩
            gi_wp2
            go_roundw
            case rel => exact ⟨k0, k + 1, hv', _, n2, c', by omega, by omega, eF.out.trans HFR.out, HJ2.out, by rw [eS.out]; exact HI2.out, by have := HB2.out; simp; omega⟩
            case measure =>
              rw [HM.out]
              have : leftH Bs (World.alloc w2 (.cells #[.int .i64 z', .slice A' m' d'] 24)) = n2 := by unfold leftH; rw [HI2.out.bs.cell 0]; rfl
              rw [this]
              have := HN2.out
              omega
          · have eF : Hid (frs a M p q s0 (l.take (k + 1)) = frs a M p q s0 (l.take k) ++ [(frP s.held, frI s.held)]) := by show _ = _; rw [hF.out]; unfold out1; rw [if_pos ⟨e3, hB⟩]
            rw [hB] at EC2
            clear hB e3 hF
            gi_wp2_with (first
              | (rw [HW1.out])
              | (refine ⟨trivial, ?_⟩; gi_at_call 51; refine (callsIn_wide.2 EC2.out).mono ?_; rintro e w2 ⟨z', A', m', d', hv', rfl, HJ2, HI2, HF2, HB2⟩; obtain ⟨fn, tmps, assign, body, hy, hR⟩ := HY.out k0 k hv' (some ⟨g, o', none⟩) n2 c' (w2.alloc (.cells #[.int .i64 z', .slice A' m' d'] 24)) z' A' m' d' hk0 hlt HJ2.out (by rw [eS.out]; exact HI2.out) HFR.out ⟨frP s.held, frI s.held, eF.out, (HF2.out rfl).1, (HF2.out rfl).2.1, (HF2.out rfl).2.2.1⟩ (HF2.out rfl).2.2.2.1 (HF2.out rfl).2.2.2.2 (by have := HB2.out; simp; omega); have HRR := Lib.hid hR; dsimp only [frV] at hy; clear hR))
            refine HRR.out.mono ?_
            rintro e W3 (⟨rfl, hJ3, hI3, hB3⟩ | ⟨rfl, hJx3, hI3⟩)
            · have HJ3 := Lib.hid hJ3
              have HI3 := Lib.hid hI3
              clear hJ3 hI3
              gi_wp2
              go_roundw
              case rel => exact ⟨k + 1, k + 1, hv', _, n2, c', by omega, by omega, rfl, HJ3.out, HI3.out, hB3⟩
              case measure =>
                rw [HM.out]
                have : leftH Bs W3 = n2 := by unfold leftH; rw [HI3.out.bs.cell 0]; rfl
                rw [this]
                have := HN2.out
                omega
            · have HJ3 := Lib.hid hJx3
              have HI3 := Lib.hid hI3
              clear hJx3 hI3
              gi_wp2
              dsimp only [Exit.noGoto]
              go_end0
              exact ⟨⟨_, rfl⟩, .inr ⟨k + 1, hv', _, n2, c', by omega, HJ3.out, HI3.out⟩⟩
        · have g3 : (kz == 3) = false := by simpa using h3
          have e3 : ¬ kd a cc.toNat = 3 := by have := HKZ.out; omega
          have eS : Hid (runS a M p q s0 (l.take (k + 1)) = tkS M s cc) := by show _ = _; rw [hS.out]; unfold stp1; rw [if_neg e1, if_neg e3]
          have eF : Hid (frs a M p q s0 (l.take (k + 1)) = frs a M p q s0 (l.take k)) := by show _ = _; rw [hF.out]; unfold out1; rw [if_neg (by rintro ⟨e, _⟩; exact e3 e), List.append_nil]
          clear e1 e3 EC h1 h3
          gi_wp2_with (first
            | (rw [HW1.out])
            | (refine ⟨trivial, ?_⟩; gi_at_call 52; refine (callsIn_wide.2 TK.out).mono ?_; rintro e w2 ⟨hv', rfl, hl2, ht2⟩; have HL2 := Lib.hid hl2; have HT2 := Lib.hid ht2; clear hl2 ht2))
          go_roundw
          case rel => exact ⟨k0, k + 1, hv', _, n2, c', by omega, by omega, eF.out.trans HFR.out, HJ.out.step HJ1.out HI1.out.ln.own HT2.out, by rw [eS.out]; exact HI1.out.step HL2.out HT2.out, by have := HT2.out.size; omega⟩
          case measure =>
            rw [HM.out]
            have : leftH Bs w2 = n2 := by unfold leftH; rw [(HI1.out.step HL2.out HT2.out).bs.cell 0]; rfl
            rw [this]
            have := HN2.out
            omega
    · obtain rfl : k = l.length := by omega
      have hn0 : n' = 0 := by omega
      subst hn0
      have HI2 := Lib.hid hI
      have HJ2 := Lib.hid hJ
      have HF2 := Lib.hid hfr
      clear hI hJ hfr hln
      gi_wp2
      dsimp only [Exit.noGoto]
      go_end0
      have h := HI2.out
      have hf := HF2.out
      rw [List.take_length, List.drop_length] at h
      rw [List.take_length] at hf
      exact ⟨⟨_, rfl⟩, .inl ⟨k0, hv, A, 0, c, hf, HJ2.out, h⟩⟩
end Go.Proofs.YtmdlpbgelgeiaaaDoor
namespace Go.Proofs.YtmdlpbgelgeiaaaDoor
open Go.RowKit Go.Shelf
set_option maxRecDepth 100000
set_option maxHeartbeats 4000000
set_option linter.unusedSimpArgs false
set_option linter.unusedVariables false
attribute [local go_sem] Oper.semAt_some

theorem each_any (b : Nat) (A : Option Addr) (n c : Nat) (w : World) :
    Calls Tryd.prog 46 #[.pointer (some ⟨b, 0, none⟩), .slice A n c] w fun e w' => e = .returned (.func (.func 50) #[] #[.pointer (some ⟨w.heap.size + 1, 0, none⟩), .pointer (some ⟨w.heap.size, 0, none⟩)]) ∧ w' = (w.alloc (.cells #[.pointer (some ⟨b, 0, none⟩)] 45)).alloc (.cells #[.slice A n c] 22) := by
  go_enter Tryd.func46, Tryd.ntmps46
  go_wp2
  go_ret
  exact ⟨rfl, rfl⟩
theorem each_none (A : Option Addr) (n c : Nat) (w : World) :
    Calls Tryd.prog 46 #[.pointer none, .slice A n c] w fun e w' => e = .returned (.func (.func 50) #[] #[.pointer (some ⟨w.heap.size + 1, 0, none⟩), .pointer (some ⟨w.heap.size, 0, none⟩)]) ∧ w' = (w.alloc (.cells #[.pointer none] 45)).alloc (.cells #[.slice none 0 0] 22) := by
  go_enter Tryd.func46, Tryd.ntmps46
  go_wp2
  trace_state
  go_ret
  exact ⟨rfl, rfl⟩
theorem out1_le (a : Int) (M : Nat) (p q : Bool) (s : LSt) (c : UInt8) : (out1 a M p q s c).length ≤ 1 := by unfold out1; split <;> simp
theorem frs_le (a : Int) (M : Nat) (p q : Bool) : ∀ (l : List UInt8) (s : LSt), (frs a M p q s l).length ≤ l.length
  | [], s => Nat.le_refl _
  | c :: l, s => by
    have h1 := out1_le a M p q s c
    have h2 := frs_le a M p q l (stp1 a M p q s c)
    show (out1 _ _ _ _ _ _ ++ frs _ _ _ _ _ l).length ≤ _
    rw [List.length_append, List.length_cons]
    omega
/-- what Feed knows while it ranges -/
def FdJ (w : World) (O b Bs : Nat) (a : Int) (M : Nat) (p q : Bool) (s0 : LSt) (l : List UInt8) (hv0 : Value) (k : Nat) (hv : Value) (W : World) : Prop :=
  ∃ v L, Blk W O 42 [v] ∧ FL W w.heap.size v (frs a M p q s0 (l.take k)) L ∧ (∀ i, L i → i ≠ b ∧ i ≠ Bs ∧ i ≠ O ∧ hv.ownBlock ≠ some i ∧ i < W.heap.size) ∧ hv.ownBlock ≠ some O ∧ Trn b hv0 hv w W
theorem FdJ.abides {w : World} {O b Bs : Nat} {a : Int} {M : Nat} {p q : Bool} {s0 : LSt} {l : List UInt8} {hv0 : Value} (hO : O ≠ b ∧ O ≠ Bs) (hBs : w.heap.size ≤ Bs) : AbIt b Bs (FdJ w O b Bs a M p q s0 l hv0) := by
  rintro k hv hv' W W' ⟨v, L, h1, h2, h3, h4, h5⟩ - hs ⟨o1, o2, o3⟩ hb ho
  have lO := Blk.lt h1
  have ow : ∀ i, i < W.heap.size → hv.ownBlock ≠ some i → hv'.ownBlock ≠ some i := fun i hi hn e => by
    rcases ho i e with x | x
    · exact hn x
    · omega
  refine ⟨v, L, (hb O lO hO.1 hO.2 h4).trans h1, h2.same (fun i hi => ?_), fun i hi => ?_, ow O lO h4, ?_⟩
  · obtain ⟨x1, x2, x3, x4, x5⟩ := h3 i hi
    exact hb i x5 x1 x2 x4
  · obtain ⟨x1, x2, x3, x4, x5⟩ := h3 i hi
    exact ⟨x1, x2, x3, ow i x5 x4, by omega⟩
  · have sz := h5.size
    refine ⟨o1.trans h5.os, o2.trans h5.tape, o3.trans h5.output, Nat.le_trans h5.size hs, fun i hi hn hv => ?_, fun g hg => ?_⟩
    · rw [hb i (by omega) hn (by omega) (fun e => ?_), h5.block i hi hn hv]
      rcases h5.own i e with x | x
      · exact hv x
      · omega
    · rcases ho g hg with x | x
      · exact h5.own g x
      · exact .inr (by omega)
/-- and the frame that is told has a block of its own -/
def FdX (w : World) (O b Bs : Nat) (a : Int) (M : Nat) (p q : Bool) (s0 : LSt) (l : List UInt8) (hv0 : Value) (k : Nat) (hv : Value) (y : Option (Int × Option Addr × Nat × Nat)) (W : World) : Prop :=
  ∃ v L, Blk W O 42 [v] ∧ FL W w.heap.size v (frs a M p q s0 (l.take k)) L ∧ (∀ i, L i → i ≠ b ∧ i ≠ Bs ∧ i ≠ O ∧ hv.ownBlock ≠ some i ∧ i < W.heap.size) ∧ hv.ownBlock ≠ some O ∧ Trn b hv0 hv w W ∧
    ∀ z D m d, y = some (z, D, m, d) → ∀ g, (Value.slice D m d).ownBlock = some g → ¬ L g
theorem FdX.toJ {w : World} {O b Bs : Nat} {a : Int} {M : Nat} {p q : Bool} {s0 : LSt} {l : List UInt8} {hv0 : Value} {k : Nat} {hv : Value} {y : Option (Int × Option Addr × Nat × Nat)} {W : World} (h : FdX w O b Bs a M p q s0 l hv0 k hv y W) : FdJ w O b Bs a M p q s0 l hv0 k hv W := by
  obtain ⟨v, L, h1, h2, h3, h4, h5, _⟩ := h
  exact ⟨v, L, h1, h2, h3, h4, h5⟩
theorem FdJ.toX {w : World} {O b Bs : Nat} {a : Int} {M : Nat} {p q : Bool} {s0 : LSt} {l : List UInt8} {hv0 : Value} {k : Nat} {hv : Value} {W : World} (h : FdJ w O b Bs a M p q s0 l hv0 k hv W) : FdX w O b Bs a M p q s0 l hv0 k hv none W := by
  obtain ⟨v, L, h1, h2, h3, h4, h5⟩ := h
  exact ⟨v, L, h1, h2, h3, h4, h5, fun z D m d e => by cases e⟩
theorem FdJ.newer {w : World} {O b Bs : Nat} {a : Int} {M : Nat} {p q : Bool} {s0 : LSt} {l : List UInt8} {hv0 : Value} {k : Nat} {hv hv' : Value} {W W' : World} (hO : O ≠ b) (h : FdJ w O b Bs a M p q s0 l hv0 k hv W) (t : Trn b hv hv' W W') (z : Int) (D : Option Addr) (m d : Nat) (hn : ∀ g, (Value.slice D m d).ownBlock = some g → W.heap.size ≤ g) : FdX w O b Bs a M p q s0 l hv0 k hv' (some (z, D, m, d)) W' := by
  obtain ⟨v, L, h1, h2, h3, h4, h5⟩ := h
  have lO := Blk.lt h1
  have s1 := t.size
  have ow : ∀ i, i < W.heap.size → hv.ownBlock ≠ some i → hv'.ownBlock ≠ some i := fun i hi hn e => by
    rcases t.own i e with x | x
    · exact hn x
    · omega
  refine ⟨v, L, (t.block O lO hO h4).trans h1, h2.same (fun i hi => ?_), fun i hi => ?_, ow O lO h4, h5.trans t, fun z' D' m' d' e g hg hL => ?_⟩
  · obtain ⟨x1, x2, x3, x4, x5⟩ := h3 i hi
    exact t.block i x5 x1 x4
  · obtain ⟨x1, x2, x3, x4, x5⟩ := h3 i hi
    exact ⟨x1, x2, x3, ow i x5 x4, by omega⟩
  · injection e with e
    injection e with _ e
    injection e with e1 e
    injection e with e2 e3
    subst e1 e2 e3
    have := hn g hg
    have := (h3 g hL).2.2.2.2
    omega
/-- the state of the range: the bytes told, the bytes taken, the line's row, what the iterator's cell holds, the frame that is told -/
structure FdS where
  k0 : Nat
  k1 : Nat
  hv : Value
  A : Option Addr
  n : Nat
  c : Nat
  x : Option (Int × Option Addr × Nat × Nat)
def FdI (w : World) (O Bs Ls b : Nat) (a : Int) (M : Nat) (p q : Bool) (s0 : LSt) (l : List UInt8) (hv0 : Value) (s : FdS) (W : World) : Prop :=
  FdX w O b Bs a M p q s0 l hv0 s.k0 s.hv s.x W ∧ ItS w.heap.size Bs Ls b a M p q s.hv (runS a M p q s0 (l.take s.k1)) s.A s.n s.c (l.drop s.k1) W ∧ w.heap.size ≤ W.heap.size ∧
  ∀ z D m d, s.x = some (z, D, m, d) → ∃ P I, frs a M p q s0 (l.take s.k1) = frs a M p q s0 (l.take s.k0) ++ [(P, I)] ∧ z = P ∧ m = I.length ∧ Own W w.heap.size (.slice D m d) I ∧ ∀ g, (Value.slice D m d).ownBlock = some g → s.hv.ownBlock ≠ some g ∧ g ≠ b ∧ g ≠ Bs ∧ g < W.heap.size
theorem FdI.nocells {w : World} {O Bs Ls b : Nat} {a : Int} {M : Nat} {p q : Bool} {s0 : LSt} {l : List UInt8} {hv0 : Value} (hw : w.heap.size ≤ b ∨ True) {B : Nat} (hB : w.heap.size ≤ B) : OwnFrom B (FdI w O Bs Ls b a M p q s0 l hv0) := by
  rintro s W W' row ⟨⟨v, L, h1, h2, h3, h4, h5, h6⟩, hI, hsz, hx⟩ hg hr
  have sz := hg.size
  have no : ∀ i cs t fz, W.heap[i]? = some (.cells cs t fz) → some i ≠ row := by
    intro i cs t fz hi e
    obtain ⟨_, o, ho, hc⟩ := hr i e.symm
    rw [hi] at ho
    injection ho with ho
    subst ho
    cases hc
  have keepOwn : ∀ {base : Nat} {v : Value} {l : List UInt8}, Own W base v l → Own W' base v l := fun {base v l} h => own_same h (fun g e => by
    rcases h.2 with ⟨e2, _⟩ | ⟨g2, cap, cur, e2, _, hh, _⟩
    · rw [e2] at e; cases e
    · rw [e2] at e
      have e3 : g2 = g := by injection e
      rw [← e3]
      exact hg.block _ (Array.getElem?_eq_some_iff.1 hh).1 (no _ _ _ _ hh))
  refine ⟨⟨v, L, (hg.block O (Blk.lt h1) (no _ _ _ _ h1)).trans h1, ?_, fun i hi => ?_, h4, ?_, h6⟩, hI.nocells hg (fun k e => (hr k e).2), by omega, fun z D m d e => ?_⟩
  · obtain ⟨cs, y1, y2, y3, y4⟩ := h2
    refine ⟨cs, row_same y1 (fun g e => ?_), y2, fun i hi => ?_, y4⟩
    · rcases y1.2 with ⟨e2, _⟩ | ⟨g2, cap, cur, e2, _, hh, _⟩
      · rw [e2] at e; cases e
      · rw [e2] at e
        have e3 : g2 = g := by injection e
        rw [← e3]
        exact hg.block _ (Array.getElem?_eq_some_iff.1 hh).1 (no _ _ _ _ hh)
    · obtain ⟨a1, E, kk, cc, b1, o1, l1⟩ := y3 i hi
      exact ⟨a1, E, kk, cc, b1, keepOwn o1, l1⟩
  · obtain ⟨x1, x2, x3, x4, x5⟩ := h3 i hi
    exact ⟨x1, x2, x3, x4, by omega⟩
  · refine ⟨hg.os.trans h5.os, hg.tape.trans h5.tape, hg.output.trans h5.output, Nat.le_trans h5.size hg.size, fun i hi hn hv => ?_, h5.own⟩
    have := h5.size
    rw [hg.block i (by omega) (fun e => by have := (hr i e.symm).1; omega), h5.block i hi hn hv]
  · obtain ⟨P, I, x1, x2, x3, x4, x5⟩ := hx z D m d e
    exact ⟨P, I, x1, x2, x3, keepOwn x4, fun g hg' => by obtain ⟨y1, y2, y3, y4⟩ := x5 g hg'; exact ⟨y1, y2, y3, by omega⟩⟩
theorem Trn.more {b : Nat} {h1 h2 : Value} {A B B' : World} {row : Option Nat} (h : Trn b h1 h2 A B) (hg : B.grownBy B' row) (hr : ∀ k, row = some k → A.heap.size ≤ k) : Trn b h1 h2 A B' := by
  have sz := h.size
  refine ⟨hg.os.trans h.os, hg.tape.trans h.tape, hg.output.trans h.output, Nat.le_trans h.size hg.size, fun i hi hb hn => ?_, h.own⟩
  rw [hg.block i (by omega) (fun e => by have := hr i e.symm; omega), h.block i hi hb hn]
theorem rowT {W : World} {base e size n t : Nat} {v : Value} {xs cs : List Value} {k : Nat} (h : W.ownsRow base e size v n xs) (hb : Blk W k t cs) (ht : t ≠ e) : v.ownBlock ≠ some k := by
  intro e'
  rcases h.2 with ⟨rfl, _⟩ | ⟨g, cap, cur, rfl, _, hh, _⟩
  · cases e'
  · have e3 : g = k := by injection e'
    subst e3
    rw [show W.heap[g]? = _ from hb] at hh
    injection hh with hh
    injection hh with _ h2
    exact ht h2
/-- a frame is put behind the others -/
theorem fd_body {w : World} {O Bs Ls b : Nat} {a : Int} {M : Nat} {p q : Bool} {s0 : LSt} {l : List UInt8} {hv0 : Value} (hO : O ≠ b ∧ O ≠ Bs ∧ O ≠ Ls) (wO : w.heap.size ≤ O) (wB : w.heap.size ≤ Bs) (hb : b < w.heap.size) (ht : 0 < b) (hl : l.length ≤ 1099511627776) {s : FdS} {W : World} (h : FdI w O Bs Ls b a M p q s0 l hv0 s W) {z : Int} {D : Option Addr} {m d : Nat} (hx : s.x = some (z, D, m, d)) (B : Nat) :
    ∃ v A2 n2 c2 w2, W.cell? ⟨O, 0, none⟩ = some v ∧ W.frozen? ⟨O, 0, none⟩ = false ∧ O < W.heap.size ∧
      (Builtin.append_ #[42, 42] 42 #[v, .slice (some ⟨W.heap.size, 0, none⟩) 1 1]).run Tryd.prog (W.alloc (.cells #[.int .i64 z, .slice D m d] 24)) = .ok (.slice A2 n2 c2) w2 ∧ (∃ u, w2.cell? ⟨O, 0, none⟩ = some u) ∧ w2.frozen? ⟨O, 0, none⟩ = false ∧ O < w2.heap.size ∧
      Hid (FdI w O Bs Ls b a M p q s0 l hv0 { s with k0 := s.k1, x := none } (w2.setCell ⟨O, 0, none⟩ (.slice A2 n2 c2))) ∧ Hid (KeepsFrom B W (w2.setCell ⟨O, 0, none⟩ (.slice A2 n2 c2))) := by
  obtain ⟨⟨v, L, h1, h2, h3, h4, h5, h6⟩, hI, hsz, hxx⟩ := h
  obtain ⟨P, I, x1, x2, x3, x4, x5⟩ := hxx z D m d hx
  have lO := Blk.lt h1
  have hW1 : Below W.heap.size W (W.alloc (.cells #[.int .i64 z, .slice D m d] 24)) := (Below.refl _ _).alloc (Nat.le_refl _) _
  have hbk := blk_new W 24 [.int .i64 z, .slice D m d]
  have hfl : FL (W.alloc (.cells #[.int .i64 z, .slice D m d] 24)) w.heap.size v (frs a M p q s0 (l.take s.k0)) L := h2.same (fun i hi => hW1.block i (h3 i hi).2.2.2.2)
  have hle : (frs a M p q s0 (l.take s.k0)).length ≤ 1099511627776 := by
    have := frs_le a M p q (l.take s.k0) s0
    rw [List.length_take] at this
    omega
  obtain ⟨v', w2, r, hf, g, hv⟩ := appFL_run hfl W.heap.size z D m d I (hbk.cell 0) (hbk.cell 1) (x4.alloc _) (by omega) (by simp; omega) (h6 z D m d hx)
  obtain ⟨A2, c2, rfl⟩ : ∃ A c, v' = .slice A ((frs a M p q s0 (l.take s.k0)) ++ [(z, I)]).length c := hf.own.shape
  obtain ⟨cs, y1, y2, y3⟩ := h2
  have vO : v.ownBlock ≠ some O := rowT y1 h1 (by decide)
  have vLs : v.ownBlock ≠ some Ls := rowT y1 hI.ls (by decide)
  have DO : (Value.slice D m d).ownBlock ≠ some O := rowT x4 h1 (by decide)
  have gs := g.size
  simp at gs
  have k2 : Blk w2 O 42 [v] := (g.block O (by simp; omega) (fun e => vO e.symm)).trans ((hW1.block O lO).trans h1)
  have vb : ∀ k, v.ownBlock = some k → w.heap.size ≤ k ∧ k < W.heap.size := fun k e => OwnFO.block y1 k e
  have s3 : (w2.setCell ⟨O, 0, none⟩ (.slice A2 (frs a M p q s0 (l.take s.k0) ++ [(z, I)]).length c2)).heap.size = w2.heap.size := by simp [World.setCell]
  have gO : w2.grownBy (w2.setCell ⟨O, 0, none⟩ (.slice A2 (frs a M p q s0 (l.take s.k0) ++ [(z, I)]).length c2)) (some O) := only_set _
  have eF : frs a M p q s0 (l.take s.k1) = frs a M p q s0 (l.take s.k0) ++ [(z, I)] := by rw [x1, x2]
  -- the blocks of the frames
  have hL' : ∀ i, (L i ∨ (Value.slice A2 (frs a M p q s0 (l.take s.k0) ++ [(z, I)]).length c2).ownBlock = some i ∨ (Value.slice D m d).ownBlock = some i) → i ≠ b ∧ i ≠ Bs ∧ i ≠ O ∧ s.hv.ownBlock ≠ some i ∧ i < w2.heap.size := by
    rintro i (e | e | e)
    · obtain ⟨u1, u2, u3, u4, u5⟩ := h3 i e
      exact ⟨u1, u2, u3, u4, by omega⟩
    · rcases hv with e2 | e2
      · rw [e2] at e
        obtain ⟨u1, u2, u3, u4, u5⟩ := h3 i (y2 i e)
        exact ⟨u1, u2, u3, u4, by omega⟩
      · have hi2 := (hf.own.block i e).2
        rw [e2] at e
        injection e with e
        simp at e
        have q1 := Blk.lt hI.bs
        refine ⟨by omega, by omega, by omega, fun e3 => ?_, hi2⟩
        have := (hI.ln.own.block i e3).2
        omega
    · obtain ⟨u1, u2, u3, u4⟩ := x5 i e
      exact ⟨u2, u3, fun e3 => DO (e3 ▸ e), u1, by omega⟩
  refine ⟨v, A2, _, c2, w2, h1.cell 0, h1.frozen 0, lO, r, ⟨v, k2.cell 0⟩, k2.frozen 0, by omega, ?_, ?_⟩
  · refine ⟨⟨.slice A2 _ c2, (fun i => L i ∨ (Value.slice A2 (frs a M p q s0 (l.take s.k0) ++ [(z, I)]).length c2).ownBlock = some i ∨ (Value.slice D m d).ownBlock = some i), k2.set_ 0 _, ?_, fun i hi => ?_, h4, ?_, fun z D m d e => by cases e⟩, ?_, by rw [s3]; omega, fun z D m d e => by cases e⟩
    · show FL _ _ _ (frs a M p q s0 (l.take s.k1)) _
      rw [eF]
      refine hf.same (fun i hi => gO.block i ?_ ?_)
      · exact (hL' i hi).2.2.2.2
      · intro e; injection e with e; exact (hL' i hi).2.2.1 e
    · obtain ⟨u1, u2, u3, u4, u5⟩ := hL' i hi
      exact ⟨u1, u2, u3, u4, by rw [s3]; exact u5⟩
    · exact ((h5.more (only_of_below hW1 none) (fun _ e => by cases e)).more g (fun k e => (vb k e).1)).more gO (fun k e => by cases e; exact wO)
    · refine ((hI.later hW1).grown g (fun k e => ?_)).grown gO (fun k e => ?_)
      · obtain ⟨u1, u2, u3, u4, u5⟩ := h3 k (y2 k e)
        have hk := vb k e
        exact ⟨u1, u2, fun e3 => vLs (e3 ▸ e), u4, by omega, fun h0 o s' e3 => by have := (hI.g1 h0 k o s' e3).2.2.2; omega⟩
      · cases e
        exact ⟨hO.1, hO.2.1, hO.2.2, h4, by omega, fun h0 o s' e3 => by have := (hI.g1 h0 O o s' e3).2.2.2; omega⟩
  · refine ⟨by rw [s3]; omega, fun k o _ hk hc => ?_⟩
    have hlt := (Array.getElem?_eq_some_iff.1 hk).1
    have kO : k ≠ O := by
      intro e
      rw [e, show W.heap[O]? = _ from h1] at hk
      injection hk with hk
      subst hk
      cases hc
    have kv : v.ownBlock ≠ some k := by
      intro e
      rcases y1.2 with ⟨e2, _⟩ | ⟨g2, cap, cur, e2, _, hh, _⟩
      · rw [e2] at e; cases e
      · rw [e2] at e
        have e3 : g2 = k := by injection e
        rw [e3, hk] at hh
        injection hh with hh
        subst hh
        cases hc
    exact (Below.heap_setCell w2 ⟨O, 0, none⟩ _ k kO).trans ((g.block k (by simp; omega) (fun e => kv e.symm)).trans ((hW1.block k hlt).trans hk))
end Go.Proofs.YtmdlpbgelgeiaaaDoor
namespace Go.Proofs.YtmdlpbgelgeiaaaDoor
open Go.RowKit Go.Shelf
set_option maxRecDepth 100000
set_option maxHeartbeats 4000000
set_option linter.unusedSimpArgs false
set_option linter.unusedVariables false
attribute [local go_sem] Oper.semAt_some

theorem wpListIn_appF (t t' : TypeId) {F : Fence} {n : Nat} {w : World} {ops : Array Oper} {rest : List Oper} {o : Oper} {a : Act} {Q : Exit → Act → World → Prop} (hgd : o.guard = none) (s x : Operand)
    (ho : o.op = .call { callee := .builtin .append, args := #[s, x], argTypes := #[t, t'] }) (v u : Value) (hs : a.eval s = v) (hx : a.eval x = u)
    (v' : Value) (w2 : World) (hrun : (Builtin.append_ #[t, t'] o.type #[v, u]).run Tryd.prog w = .ok v' w2)
    (h : wpListIn F n Tryd.prog ops Q rest (a.put o.dst v') w2) : wpListIn F n Tryd.prog ops Q (o :: rest) a w := by
  refine wpListIn_plain hgd fun K hK' => ?_
  unfold Oper.wpIn
  refine ⟨?_, ?_⟩
  · simp [Oper.about, ho, resolve, Target.leads, Sem.run_pure]
  · rw [Oper.semAt_plain F _ _ (by rw [ho]; intro c hc'; cases hc')]
    unfold execOp
    simp only [ho, resolve, invoke, builtin, Sem.run_bind, Sem.run_pure, Result.andThen_ok, List.map_toArray, List.map_cons, List.map_nil, hs, hx, hrun]
    exact hK' _ _ h
theorem feed_any (b : Nat) (a : Int) (M : Nat) (p q : Bool) (hM : M ≤ 16390) (s0 : LSt) (hv0 : Value) (A : Option Addr) (n c : Nat) (l : List UInt8) (w : World) (hL : LnAt w b a M p q hv0 s0) (hr : Rd w w.heap.size A n l) (hc : n ≤ c) (hn : n ≤ 1099511627776) (hT : Tab16 w) (ht : 0 < b)
    (hA : 0 < n → ∀ g o s, A = some ⟨g, o, s⟩ → g ≠ b ∧ hv0.ownBlock ≠ some g) :
    Calls Tryd.prog 28 #[.pointer (some ⟨b, 0, none⟩), .slice A n c] w fun e w' => ∃ v hv L, e = .returned v ∧ FL w' w.heap.size v (frs a M p q s0 l) L ∧ (∀ i, L i → i ≠ b ∧ hv.ownBlock ≠ some i ∧ i < w'.heap.size) ∧ LnAt w' b a M p q hv (runS a M p q s0 l) ∧ Trn b hv0 hv w w' := by
  have hb := Blk.lt hL.blk
  have hl := hr.1
  obtain ⟨Wa, hWa⟩ : ∃ Wa, w.alloc (.cells #[.slice none 0 0] 42) = Wa := ⟨_, rfl⟩
  have sa : Wa.heap.size = w.heap.size + 1 := by rw [← hWa]; simp
  have ba : Below w.heap.size w Wa := by rw [← hWa]; exact (Below.refl _ _).alloc (Nat.le_refl _) _
  have ka : Blk Wa w.heap.size 42 [.slice none 0 0] := by rw [← hWa]; exact blk_new w _ _
  obtain ⟨W0, hW0⟩ : ∃ W0, (Wa.alloc (.cells #[.pointer (some ⟨b, 0, none⟩)] 45)).alloc (.cells #[.slice A n c] 22) = W0 := ⟨_, rfl⟩
  have s0' : W0.heap.size = w.heap.size + 3 := by rw [← hW0]; simp; omega
  have b0' : Below Wa.heap.size Wa W0 := by rw [← hW0]; exact ((Below.refl _ _).alloc (Nat.le_refl _) _).alloc (by simp) _
  have kLs : Blk W0 (w.heap.size + 1) 45 [.pointer (some ⟨b, 0, none⟩)] := by
    rw [← hW0, ← sa]; exact (Below.heap_alloc _ _ _ (by simp)).trans (blk_new Wa _ _)
  have kBs : Blk W0 (w.heap.size + 2) 22 [.slice A n c] := by
    have h := blk_new (Wa.alloc (.cells #[.pointer (some ⟨b, 0, none⟩)] 45)) 22 [.slice A n c]
    rw [World.size_alloc, sa] at h
    rw [← hW0]; exact h
  have B0 : Below w.heap.size w W0 := ba.trans (b0'.mono (by omega))
  have kO : Blk W0 w.heap.size 42 [.slice none 0 0] := (b0'.block _ (by omega)).trans ka
  have hvb : ∀ g, hv0.ownBlock = some g → g < w.heap.size := fun g e => (hL.own.block g e).2
  have hvn : ∀ g, w.heap.size ≤ g → hv0.ownBlock ≠ some g := fun g hg e => by have := hvb g e; omega
  have HI0 : ItS w.heap.size (w.heap.size + 2) (w.heap.size + 1) b a M p q hv0 s0 A n c l W0 := by
    refine ⟨hL.later B0, kBs, kLs, hr.below B0, by omega, hc, hT.kept B0, by omega, by omega, by omega, hvn _ (by omega), hvn _ (by omega), fun h0 g o s e => ?_, ht, by omega⟩
    obtain ⟨x1, x2⟩ := hA h0 g o s e
    obtain ⟨b', o', e', hlt, _⟩ := hr.2 h0
    rw [e] at e'
    cases e'
    exact ⟨x1, by omega, x2, by omega⟩
  have HJ0 : FdJ w w.heap.size b (w.heap.size + 2) a M p q s0 l hv0 0 hv0 W0 := by
    refine ⟨.slice none 0 0, fun _ => False, kO, ?_, fun i h => h.elim, hvn _ (Nat.le_refl _), Trn.below hv0 B0⟩
    rw [List.take_zero]
    exact FL.nil _ _ _
  have EC := Lib.hid (each_any b A n c Wa)
  rw [hW0] at EC
  have H0 : Hid (FdI w w.heap.size (w.heap.size + 2) (w.heap.size + 1) b a M p q s0 l hv0 ⟨0, 0, hv0, A, n, c, none⟩ W0) := ⟨HJ0.toX, by rw [List.take_zero, List.drop_zero]; exact HI0, by omega, fun z D m d e => by cases e⟩
  have HWa := Lib.hid hWa
  have S0 := Lib.hid s0'
  have SA := Lib.hid sa
  have HL := Lib.hid hl
  have HN := Lib.hid hn
  clear hWa sa ba ka hW0 s0' b0' kLs kBs B0 kO hvb hvn HI0 HJ0 hL hr hl hT hA hn hc
  refine (callsIn_wide (n := 12)).1 ?_
  refine callsIn_of_wp_marks Tryd.func28 rfl trivial ?_ rfl
  simp only [Tryd.ntmps28, List.size_toArray, List.length_cons, List.length_nil, Nat.reduceAdd, Nat.reduceSub, Array.replicate_succ, Array.replicate_zero, List.push_toArray, List.append_toArray, List.nil_append, List.cons_append]
  gi_wp2_with (first
    | (rw [HWa.out])
    | (refine ⟨trivial, ?_⟩; gi_at_call 46; refine (callsIn_wide.2 EC.out).mono ?_; rintro e w' ⟨rfl, rfl⟩))
  rw [SA.out, show w.heap.size + 1 + 1 = w.heap.size + 2 from rfl]
  rename World => W0
  have hs0 : w.heap.size + 3 ≤ W0.heap.size := by have := S0.out; omega
  have hw0 : w.heap.size ≤ W0.heap.size := by omega
  refine wpIn_rangeFunc_dir rfl (by omega) (gf := 50) (lb := #[.pointer (some ⟨w.heap.size + 2, 0, none⟩), .pointer (some ⟨w.heap.size + 1, 0, none⟩)]) rfl trivial (enters_of Tryd.func50 (by kernel_rfl) rfl)
    (encs := fun x : Int × Option Addr × Nat × Nat => #[frV x.1 x.2.1 x.2.2.1 x.2.2.2]) (fun x => rfl)
    (FdI w w.heap.size (w.heap.size + 2) (w.heap.size + 1) b a M p q s0 l hv0) (fun _ _ _ => False) (fun s x => s.x = some x) (fun s x => { s with k0 := s.k1, x := none }) ⟨0, 0, hv0, A, n, c, none⟩
    (fun s => s.k1 = l.length ∧ frs a M p q s0 l = frs a M p q s0 (l.take s.k0))
    (FdI.nocells (.inr trivial) hw0) (fun _ _ _ _ _ h _ _ => h) H0.out
    (fun s x a' W => ∃ Bx, Blk W Bx 24 [.int .i64 x.1, .slice x.2.1 x.2.2.1 x.2.2.2] ∧ a' = { tmps := #[.pointer (some ⟨b, 0, none⟩), .slice A n c, undef, undef, .slice none 0 0, .pointer (some ⟨w.heap.size, 0, none⟩), .pointer (some ⟨Bx, 0, none⟩), .pointer (some ⟨b, 0, none⟩), .slice A n c, .func (.func 50) #[] #[.pointer (some ⟨w.heap.size + 2, 0, none⟩), .pointer (some ⟨w.heap.size + 1, 0, none⟩)], frV x.1 x.2.1 x.2.2.1 x.2.2.2, undef, undef, undef, undef, undef], defers := [] })
    (fun s x a' => by
      rintro u W W' row ⟨Bx, h1, h2⟩ hg hr
      refine ⟨Bx, (hg.block Bx (Blk.lt h1) (fun e => ?_)).trans h1, h2⟩
      obtain ⟨_, o, ho, hc⟩ := hr Bx e.symm
      rw [show W.heap[Bx]? = _ from h1] at ho
      injection ho with ho
      subst ho
      cases hc)
    ?assign ?body ?hit ?done ?stop
  case assign =>
    rintro lp s ⟨z, D, m, d⟩ W K hi hok hK
    have HK := Lib.hid (hK { tmps := #[.pointer (some ⟨b, 0, none⟩), .slice A n c, undef, undef, .slice none 0 0, .pointer (some ⟨w.heap.size, 0, none⟩), .pointer (some ⟨W.heap.size, 0, none⟩), .pointer (some ⟨b, 0, none⟩), .slice A n c, .func (.func 50) #[] #[.pointer (some ⟨w.heap.size + 2, 0, none⟩), .pointer (some ⟨w.heap.size + 1, 0, none⟩)], frV z D m d, undef, undef, undef, undef, undef], defers := [] } (W.alloc (.cells #[.int .i64 z, .slice D m d] 24)) ((KeepsOthers.alloc _ _).from _) ((FdI.nocells (.inr trivial) hw0).alloc _ hi) ⟨W.heap.size, blk_new W _ _, rfl⟩)
    clear hK hi hok
    simp only [frV]
    gi_wp2
    exact HK.out
  case body =>
    rintro lp s ⟨z, D, m, d⟩ a' W hlp - hi hok ⟨Bx, hBx, rfl⟩
    obtain ⟨v, A2, n2, c2, w2, y1, y2, y3, y4, ⟨u, y5⟩, y6, y7, hFI, hKF⟩ := fd_body ⟨by omega, by omega, by omega⟩ (Nat.le_refl _) (by omega) hb ht (by have := HL.out; have := HN.out; omega) hi hok W0.heap.size
    have x0 := hBx.cell 0
    have x1 := hBx.cell 1
    have R := Lib.hid y4
    clear hi hok hBx y4
    dsimp only
    gi_wp2_with (gi_at_builtin; refine wpListIn_appF 42 42 rfl (.tmp 11) (.tmp 13) rfl _ _ rfl rfl _ _ R.out ?_)
    exact ⟨hKF.out, hFI.out⟩
  case hit =>
    rintro lp W1 R Rx hB1 hz1 hR hRx hY hI1 hR1
    obtain ⟨hX1, hIt1, hsz1, -⟩ := hI1
    have hJ1 := hX1.toJ
    rw [List.take_zero, List.drop_zero] at hIt1
    refine (each1_in (n := 11) (by omega) lp w.heap.size (w.heap.size + 2) (w.heap.size + 1) b a M p q hM s0 l w.heap.size
      (fun k hv W => FdJ w w.heap.size b (w.heap.size + 2) a M p q s0 l hv0 k hv W ∧ R W) (fun k hv W => False) ?ab9 ?yy9 hv0 A n c W1 ⟨hJ1, hR1⟩ hIt1 hsz1 (by have := HN.out; omega)).mono ?post9
    case ab9 =>
      rintro k hv hv' W W' ⟨h1, h2⟩ hcl hs ho hb' hov
      refine ⟨FdJ.abides ⟨by omega, by omega⟩ (by omega) k hv hv' W W' h1 hcl hs ho hb' hov, hR _ _ ⟨hs, fun i o hi hio hc => ?_⟩ h2⟩
      have hlt := (Array.getElem?_eq_some_iff.1 hio).1
      refine (hb' i hlt (by omega) (by omega) (fun e => ?_)).trans hio
      obtain ⟨cs, t, fz, hh⟩ := hcl i e
      rw [hio] at hh
      injection hh with hh
      subst hh
      cases hc
    case yy9 =>
      rintro k0 k hv A' n' c' W z D m d hk0 hk ⟨h1, h2⟩ hIt hfr ⟨P, I, e1, e2, e3, e4⟩ hblk ⟨hv9, W9, ⟨hJ9, _⟩, _, t9, n9⟩ hbs
      refine (hY ⟨k0, k + 1, hv, A', n', c', some (z, D, m, d)⟩ (z, D, m, d) W ⟨FdJ.newer (by omega) hJ9 t9 z D m d n9, hIt, hbs, ?_⟩ h2 rfl).mono ?_
      · rintro z' D' m' d' e
        injection e with e
        injection e with ez e
        injection e with eD e
        injection e with em ed
        subst ez eD em ed
        refine ⟨P, I, by rw [e1, hfr], e2, e3, e4, fun g hg => ?_⟩
        obtain ⟨u1, u2, u3⟩ := hblk g hg
        exact ⟨u1, u2, u3, (e4.block g hg).2⟩
      · rintro e W' (⟨rfl, ⟨h3, h4, h5, -⟩, h6⟩ | ⟨rfl, cc, h, _⟩)
        · exact .inl ⟨rfl, ⟨h3.toJ, h6⟩, h4, h5⟩
        · exact h.elim
    case post9 =>
      rintro e W' ⟨hv, (⟨k0, hv', A2, n2, c2, e1, ⟨h1, h2⟩, h3⟩ | ⟨k, hv', A2, n2, c2, _, h, _⟩)⟩
      · refine ⟨hv, .inl ⟨⟨k0, l.length, hv', A2, n2, c2, none⟩, ⟨rfl, e1⟩, ⟨h1.toX, by rw [List.take_length, List.drop_length]; exact h3, ?_, fun z D m d e => by cases e⟩, h2⟩⟩
        obtain ⟨_, _, _, _, _, _, ht⟩ := h1
        exact ht.size
      · exact h.elim
  case done =>
    rintro D s W hD ⟨e1, e2⟩ ⟨⟨v, L, h1, h2, h3, h4, h5, _⟩, hIt, hsz, -⟩ hK
    have k0 : W.cell? ⟨w.heap.size, 0, none⟩ = some v := h1.cell 0
    obtain ⟨A9, n9, c9, hvf⟩ : ∃ A n c, v = .slice A n c := by obtain ⟨A, c, e⟩ := h2.own.shape; exact ⟨_, _, _, e⟩
    subst hvf
    rw [e1, List.take_length, List.drop_length] at hIt
    rw [← e2] at h2
    have hlK := (Array.getElem?_eq_some_iff.1 hK).1
    have no : ∀ i cs t fz, W.heap[i]? = some (.cells cs t fz) → i ≠ D := by
      intro i cs t fz hi e
      subst e
      rw [hK] at hi
      cases hi
    have hgr : W.grownBy (W.putObj D (.deferred none)) (some D) := grownBy_putObj' W D _
    have FIN : Hid (FL (W.putObj D (.deferred none)) w.heap.size (.slice A9 n9 c9) (frs a M p q s0 l) L ∧ (∀ i, L i → i ≠ b ∧ s.hv.ownBlock ≠ some i ∧ i < (W.putObj D (.deferred none)).heap.size) ∧ LnAt (W.putObj D (.deferred none)) b a M p q s.hv (runS a M p q s0 l) ∧ Trn b hv0 s.hv w (W.putObj D (.deferred none))) := by
      have hI2 := hIt.nocells hgr (fun k e => by cases e; exact ⟨_, hK, rfl⟩)
      refine ⟨?_, fun i hi => ?_, hI2.ln, h5.more hgr (fun k e => by cases e; omega)⟩
      · obtain ⟨cs, y1, y2, y3, y4⟩ := h2
        have keepOwn : ∀ {base e2 size n2 : Nat} {v : Value} {xs : List Value}, W.ownsRow base e2 size v n2 xs → ∀ g, v.ownBlock = some g → (W.putObj D (.deferred none)).heap[g]? = W.heap[g]? := fun {base e2 size n2 v xs} h g e => by
          rcases h.2 with ⟨e2, _⟩ | ⟨g2, cap, cur, e2, _, hh, _⟩
          · rw [e2] at e; cases e
          · rw [e2] at e
            have e3 : g2 = g := by injection e
            rw [← e3]
            exact hgr.block _ (Array.getElem?_eq_some_iff.1 hh).1 (fun e => no _ _ _ _ hh (by injection e))
        refine ⟨cs, row_same y1 (keepOwn y1), y2, fun i hi => ?_, y4⟩
        obtain ⟨a1, E, kk, cc, b1, o1, l1⟩ := y3 i hi
        exact ⟨a1, E, kk, cc, b1, own_same o1 (keepOwn o1), l1⟩
      · obtain ⟨u1, u2, u3, u4, u5⟩ := h3 i hi
        have := hgr.size
        exact ⟨u1, u4, by omega⟩
    clear h1 h2 h3 h4 h5 hIt e2 no
    gi_wp2
    refine ⟨by simp, .inl ⟨_, _, rfl, run_takeDeferred hK, ?_⟩⟩
    exact ⟨_, results_tmp rfl _ _ _, .slice A9 n9 c9, s.hv, L, rfl, FIN.out⟩
  case stop =>
    rintro D cc s W _ h _
    exact h.elim
end Go.Proofs.YtmdlpbgelgeiaaaDoor
