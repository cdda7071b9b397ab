/-
  The law's step: one call of both automata.
-/
import Derived.Test.YtpkmddagcfjadaaDoorAuRRun
import Derived.Test.YtpkmddagcfjadaaDoorAuSndW
import Derived.Test.YtpkmddagcfjadaaDoorAuOps
namespace Go.Proofs.YtpkmddagcfjadaaDoor
open Go.RowKit
set_option maxRecDepth 100000
set_option maxHeartbeats 4000000
set_option linter.unusedSimpArgs false
set_option linter.unusedVariables false

theorem flipC {P : Program} {f : FuncId} {args : Array Value} {w : World} {v : Value} (h : Calls P f args w fun e w' => e = .returned v ∧ w = w') : Calls P f args w fun e w' => e = .returned v ∧ w' = w :=
  h.mono fun _ _ ⟨a, b⟩ => ⟨a, b.symm⟩
/-- nothing below has changed but two blocks -/
structure Fr2 (g h : Nat) (a b : World) : Prop where
  os : b.os = a.os
  tape : b.tape = a.tape
  output : b.output = a.output
  size : a.heap.size ≤ b.heap.size
  block : ∀ i, i < a.heap.size → i ≠ g → i ≠ h → b.heap[i]? = a.heap[i]?
theorem Fr2.of1 {g h : Nat} {a b : World} (x : a.grownBy b (some g)) : Fr2 g h a b := ⟨x.os, x.tape, x.output, x.size, fun i hi h1 _ => x.block i hi (fun e => by injection e with e; exact h1 e)⟩
theorem Fr2.of2 {g h : Nat} {a b : World} (x : a.grownBy b (some h)) : Fr2 g h a b := ⟨x.os, x.tape, x.output, x.size, fun i hi _ h1 => x.block i hi (fun e => by injection e with e; exact h1 e)⟩
theorem Fr2.ofB {g h : Nat} {a b : World} (x : Below a.heap.size a b) : Fr2 g h a b := ⟨x.os, x.tape, x.output, x.size, fun i hi _ _ => x.block i hi⟩
theorem Fr2.ofG {g h : Nat} {a b : World} {row : Option Nat} (x : a.grownBy b row) (B : Nat) (hB : ∀ k, row = some k → B ≤ k) (hle : B ≤ a.heap.size) (hb : ∀ i, i < B → True) : ∀ i, i < B → b.heap[i]? = a.heap[i]? :=
  fun i hi => x.block i (by omega) (fun e => by have := hB i e.symm; omega)
theorem Fr2.trans {g h : Nat} {a b c : World} (x : Fr2 g h a b) (y : Fr2 g h b c) : Fr2 g h a c :=
  ⟨y.os.trans x.os, y.tape.trans x.tape, y.output.trans x.output, Nat.le_trans x.size y.size, fun i hi h1 h2 => (y.block i (Nat.lt_of_lt_of_le hi x.size) h1 h2).trans (x.block i hi h1 h2)⟩
/-- a change of a block that was not there at first -/
theorem Fr2.then_ {g h : Nat} {a b c : World} {row : Option Nat} (x : Fr2 g h a b) (y : b.grownBy c row) (hr : ∀ k, row = some k → a.heap.size ≤ k) : Fr2 g h a c :=
  ⟨y.os.trans x.os, y.tape.trans x.tape, y.output.trans x.output, Nat.le_trans x.size y.size, fun i hi h1 h2 => (y.block i (Nat.lt_of_lt_of_le hi x.size) (fun e => by have := hr i e.symm; omega)).trans (x.block i hi h1 h2)⟩
theorem Fr2.drewN {g h : Nat} {a b : World} (x : Fr2 g h a b) (n : Nat) : Fr2 g h a (b.drewN n) := ⟨x.os, x.tape, x.output, x.size, x.block⟩
theorem Fr2.below {g h B : Nat} {a b : World} (x : Fr2 g h a b) (hB : B ≤ a.heap.size) (hg : B ≤ g) (hh : B ≤ h) : Below B a b := ⟨x.os, x.tape, x.output, x.size, fun i hi => x.block i (by omega) (by omega) (by omega)⟩

/-- both automata, side by side -/
def PairJ (W : World) (g h : Nat) (s c mc mt : Int) : Prop := AuB W g s c mc mt ∧ RAuB W h s c mc mt ∧ (0 ≤ c ∧ c ≤ 255)
theorem PairJ.kept {W W' : World} {g h : Nat} {s c mc mt : Int} {row : Option Nat} (x : PairJ W g h s c mc mt) (hg : W.grownBy W' row) (h1 : row ≠ some g) (h2 : row ≠ some h) : PairJ W' g h s c mc mt :=
  ⟨Blk.grown x.1 hg h1, Blk.grown x.2.1 hg h2, x.2.2⟩
def StepPost (W : World) (g h : Nat) (mc mt : Int) (e : Ending) (w' : World) : Prop :=
  ∃ A m cc s' c', e = .returned (.tuple #[.slice A m cc, .bool true]) ∧ PairJ w' g h s' c' mc mt ∧ Fr2 g h W w'
/-- what one call of either does, told alike -/
def CallOne (f : FuncId) (args : Array Value) (W : World) (B : World → Nat → Int → Int → Int → Int → Prop) (g : Nat) (E s' c' mc mt : Int) (L : List Int) : Prop :=
  Calls Tryd.prog f args W fun r w' => ∃ A m cc, r = .returned (.tuple #[.slice A m cc, .int .i64 E]) ∧ OwnI w' W.heap.size (.slice A m cc) L ∧ B w' g s' c' mc mt ∧ W.grownBy w' (some g)
theorem rau_grown {W W' : World} {g h : Nat} {s c mc mt : Int} (x : RAuB W h s c mc mt) (hg : W.grownBy W' (some g)) (hgh : g ≠ h) : RAuB W' h s c mc mt := Blk.grown x hg (fun e => by injection e with e; exact hgh e)
theorem au_grown {W W' : World} {g h : Nat} {s c mc mt : Int} (x : AuB W g s c mc mt) (hg : W.grownBy W' (some h)) (hgh : g ≠ h) : AuB W' g s c mc mt := Blk.grown x hg (fun e => by injection e with e; exact hgh e.symm)
theorem step_two (g h : Nat) (s c mc mt K N : Int) (W : World) (hp : PairJ W g h s c mc mt) (hgh : g ≠ h) (hT : TabA W) (h1 : 0 ≤ mc ∧ mc ≤ 255) (h2 : 0 ≤ mt ∧ mt ≤ 255) (hK : K = 0 ∨ K = 1) :
    Calls Tryd.prog 29 #[.pointer (some ⟨g, 0, none⟩), .pointer (some ⟨h, 0, none⟩), .agg #[.int .i64 K, .int .i64 N]] W fun e w' => StepPost W g h mc mt e w' := by
  obtain ⟨W1, hW1⟩ : ∃ W1, W1 = W.alloc (.cells #[.int .i64 K, .int .i64 N] 43) := ⟨_, rfl⟩
  have hbo : Blk W1 W.heap.size 43 [.int .i64 K, .int .i64 N] := by rw [hW1]; exact blk_new W _ _
  have hB1 : Below W.heap.size W W1 := by rw [hW1]; exact (Below.refl _ _).alloc (Nat.le_refl _) _
  have hs1 : W1.heap.size = W.heap.size + 1 := by rw [hW1]; simp
  have hg := hp.1.lt
  have hh := hp.2.1.lt
  have hp1 : PairJ W1 g h s c mc mt := ⟨Blk.below hp.1 hB1 hg, Blk.below hp.2.1 hB1 hh, hp.2.2⟩
  have hT1 := hT.kept hB1
  have hcc := hp.2.2
  have KEY : ∃ E s' c' L, (0 ≤ c' ∧ c' ≤ 255) ∧ L.length ≤ 3 ∧
      ((K = 0 ∧ CallOne 33 #[.pointer (some ⟨g, 0, none⟩), .int .i64 N] W1 AuB g E s' c' mc mt L ∧ ∀ W2, RAuB W2 h s c mc mt → CallOne 44 #[.pointer (some ⟨h, 0, none⟩), .int .i64 N] W2 RAuB h E s' c' mc mt L) ∨
       (K = 1 ∧ CallOne 32 #[.pointer (some ⟨g, 0, none⟩)] W1 AuB g E s' c' mc mt L ∧ ∀ W2, RAuB W2 h s c mc mt → CallOne 45 #[.pointer (some ⟨h, 0, none⟩)] W2 RAuB h E s' c' mc mt L)) := by
    have shape : ∀ {f args W' g' E s' c' L} {B : World → Nat → Int → Int → Int → Int → Prop}, (Calls Tryd.prog f args W' fun r w' => ∃ v, r = .returned (.tuple #[v, .int .i64 E]) ∧ OwnI w' W'.heap.size v L ∧ B w' g' s' c' mc mt ∧ W'.grownBy w' (some g')) → CallOne f args W' B g' E s' c' mc mt L := by
      intro f args W' g' E s' c' L B hc
      refine hc.mono ?_
      rintro r w' ⟨v, rfl, ho, hb, hg⟩
      obtain ⟨A, m, cc, rfl⟩ := ownI_shape ho
      exact ⟨_, _, _, rfl, ho, hb, hg⟩
    rcases hK with rfl | rfl
    · exact ⟨doE s c N, doS s c N, doC s c mc mt N, doA s c N, doC_bounds h1 h2 hcc, doA_length _ _ _, .inl ⟨rfl, shape (do_any g s c mc mt N W1 hp1.1 hT1 h1 h2 hcc), fun W2 hr => shape (rdo_any h s c mc mt N W2 hr h1 h2 hcc)⟩⟩
    · exact ⟨toE s c, toS s c, toC s c mc mt, toA s c, toC_bounds h1 h2 hcc, toA_length _ _, .inr ⟨rfl, shape (timeout_any g s c mc mt W1 hp1.1 hT1 h1 h2 hcc), fun W2 hr => shape (rtimeout_any h s c mc mt W2 hr h1 h2 hcc)⟩⟩
  obtain ⟨E, s', c', L, hc', hL, hkey⟩ := KEY
  have HW : Hid (W.alloc (.cells #[.int .i64 K, .int .i64 N] 43) = W1) := hW1.symm
  have HP1 := Lib.hid hp1
  have RP1 : Hid (RAuB W1 h s c mc mt) := hp1.2.1
  have HB1 := Lib.hid hB1
  have k0 : W1.cell? ⟨W.heap.size, 0, none⟩ = some (.int .i64 K) := hbo.cell 0
  have k1 : W1.cell? ⟨W.heap.size, 1, none⟩ = some (.int .i64 N) := hbo.cell 1
  have heq : ∀ z : Int, (z == z) = true := by simp
  have heb : ∀ z : Bool, (z == z) = true := by simp
  obtain ⟨bR, hbR⟩ : ∃ b, runsB s' = b := ⟨_, rfl⟩
  have HBR := Lib.hid hbR
  have HC := Lib.hid hc'
  have FAR : Hid (∀ w2, W1.grownBy w2 (some g) → w2.cell? ⟨W.heap.size, 1, none⟩ = some (.int .i64 N)) := fun w2 hg2 => by
    have := Blk.grown hbo hg2 (fun e => by injection e with e; omega)
    exact this.cell 1
  clear hW1 hbo hp1 hB1 hp hT hT1 h1 h2 hcc hK hbR hc'
  rcases hkey with ⟨rfl, d1, d2⟩ | ⟨rfl, d1, d2⟩
  · have D1 := Lib.hid d1
    have D2 := Lib.hid d2
    unfold CallOne at D1 D2
    clear d1 d2
    go_enter Tryd.func29, Tryd.ntmps29
    go_upto_region 1 with (fail)
    rw [HW.out]
    clear HW
    go_wp2_with (first
      | (go_at_call 33; ((with_reducible refine (D1.out).mono ?_); rintro e w2 ⟨A2, m2, cc2, rfl, o2, b2, g2⟩; have k2 := FAR.out w2 g2; have O2 := Lib.hid o2; have B2 := Lib.hid b2; have G2 := Lib.hid g2; clear o2 b2 g2))
      | (go_at_call 44; ((with_reducible refine (D2.out _ (rau_grown RP1.out G2.out hgh)).mono ?_); rintro e w3 ⟨A3, m3, cc3, rfl, o3, b3, g3⟩; have O3 := Lib.hid o3; have B3 := Lib.hid b3; have G3 := Lib.hid g3; clear o3 b3 g3)))
    have far : ∀ {A : Option Addr} {m cc : Nat} {B : Nat} {w2 : World}, OwnI w2 B (.slice A m cc) L → W1.heap.size ≤ B → (Value.slice A m cc).ownBlock = none ∨ (Value.slice A m cc).ownBlock ≠ some h := by
      intro A m cc B w2 ho hB
      rcases e : (Value.slice A m cc).ownBlock with _ | q
      · exact .inl rfl
      · have := ho.form.2 q e
        exact .inr (fun e => by injection e with e; omega)
    have sz2 := G2.out.size
    have sz3 := G3.out.size
    have o2 := O2.out.grown G3.out (far O2.out (Nat.le_refl _))
    have o3 := O3.out
    have pA := au_grown B2.out G3.out hgh
    have NUM : Hid (∀ n, Calls Tryd.prog 14 #[.slice A2 m2 cc2, .slice A3 m3 cc3] (w3.drewN n) fun e w' => e = .returned (.bool true) ∧ ∃ k, w' = (w3.drewN n).drewN k) := fun n => numbers_two (o2.drewN n) (o3.drewN n) (Below.refl _ _) (by omega)
    have STA : Hid (∀ n, Calls Tryd.prog 34 #[.pointer (some ⟨g, 0, none⟩)] (w3.drewN n) fun e w' => e = .returned (.int .i64 s') ∧ w' = w3.drewN n) := fun n => flipC (state_any g s' c' mc mt _ (Blk.drewN pA n))
    have CNT : Hid (∀ n, Calls Tryd.prog 36 #[.pointer (some ⟨g, 0, none⟩)] (w3.drewN n) fun e w' => e = .returned (.int .i64 c') ∧ w' = w3.drewN n) := fun n => flipC (count_any g s' c' mc mt _ (Blk.drewN pA n))
    have RNG : Hid (∀ n, Calls Tryd.prog 35 #[.pointer (some ⟨g, 0, none⟩)] (w3.drewN n) fun e w' => e = .returned (.bool bR) ∧ w' = w3.drewN n) := fun n => by
      rw [← HBR.out]
      exact flipC (running_any g s' c' mc mt _ (Blk.drewN pA n))
    have RRN : Hid (∀ n, Calls Tryd.prog 20 #[.int .i64 s'] (w3.drewN n) fun e w' => e = .returned (.bool bR) ∧ w' = w3.drewN n) := fun n => by
      rw [← HBR.out]
      exact flipC (rruns_any s' _)
    have r2 : w3.cell? ⟨h, 2, none⟩ = some (.int .i64 s') := B3.out.cell 2
    have r3 : w3.cell? ⟨h, 3, none⟩ = some (.int .i64 c') := B3.out.cell 3
    have SP := Lib.hid (spoil_start o2 (Below.refl w3.heap.size w3))
    have PJ : Hid (PairJ w3 g h s' c' mc mt) := ⟨pA, B3.out, HC.out⟩
    have F0 : Hid (Fr2 g h W w3) := ((Fr2.ofB HB1.out).trans (Fr2.of1 G2.out)).trans (Fr2.of2 G3.out)
    have OB : Hid (∀ k, (Value.slice A2 m2 cc2).ownBlock = some k → W1.heap.size ≤ k) := fun k e => (O2.out.form.2 k e).1
    have hm2 : m2 ≤ 3 := by have : L.length = m2 := O2.out.rd.1.1; omega
    clear far o2 o3 pA k0 k1 k2 O2 O3 B2 B3 G2 G3 HP1 RP1 HB1 D1 D2 FAR
    go_quiet (first
      | (go_at_call 14; exact Calls.quiet_of (NUM.out _))
      | (go_at_call 34; exact Calls.quiet_of_same (STA.out _))
      | (go_at_call 36; exact Calls.quiet_of_same (CNT.out _))
      | (go_at_call 35; exact Calls.quiet_of_same (RNG.out _))
      | (go_at_call 20; exact Calls.quiet_of_same (RRN.out _)))
    go_wp2
    go_loopw [82] (fun i wr => ∃ k : Nat, k ≤ m2 ∧ i = .int .i64 k ∧ SpoilJ w3 wr (.slice A2 m2 cc2) m2) (fun i _ => m2 - (intOf i).toNat)
    case atStart => exact ⟨0, Nat.zero_le _, rfl, ⟨rfl, rfl, rfl, Nat.le_refl _, fun _ _ _ => rfl⟩, SP.out.2⟩
    case round =>
      rename_i wr
      obtain ⟨k, hk, rfl, hj⟩ := hrel
      by_cases hlt : k < m2
      · obtain ⟨q, rfl, ⟨z, hz⟩, hf⟩ := spoil_cell hj hlt
        have NX := Lib.hid (spoil_step hj hlt 99)
        clear hj SP NUM STA CNT RNG RRN
        go_wp2
        go_roundw
        case rel => exact ⟨k + 1, by omega, by go_num, NX.out⟩
        case measure => simp [intOf]; omega
      · have f1 : Hid (StepPost W g h mc mt (.returned (.tuple #[.slice A3 m3 cc3, .bool true])) wr) := by
          refine ⟨A3, m3, cc3, s', c', rfl, PJ.out.kept hj.1 ?_ ?_, F0.out.then_ hj.1 ?_⟩
          · intro e
            have := OB.out g e
            omega
          · intro e
            have := OB.out h e
            omega
          · intro q e
            have := OB.out q e
            omega
        clear hj SP NUM STA CNT RNG RRN
        go_wp2
        go_ret2
        exact f1.out
  · have D1 := Lib.hid d1
    have D2 := Lib.hid d2
    unfold CallOne at D1 D2
    clear d1 d2
    go_enter Tryd.func29, Tryd.ntmps29
    go_upto_region 1 with (fail)
    rw [HW.out]
    clear HW
    go_wp2_with (first
      | (go_at_call 32; ((with_reducible refine (D1.out).mono ?_); rintro e w2 ⟨A2, m2, cc2, rfl, o2, b2, g2⟩; have k2 := FAR.out w2 g2; have O2 := Lib.hid o2; have B2 := Lib.hid b2; have G2 := Lib.hid g2; clear o2 b2 g2))
      | (go_at_call 45; ((with_reducible refine (D2.out _ (rau_grown RP1.out G2.out hgh)).mono ?_); rintro e w3 ⟨A3, m3, cc3, rfl, o3, b3, g3⟩; have O3 := Lib.hid o3; have B3 := Lib.hid b3; have G3 := Lib.hid g3; clear o3 b3 g3)))
    have far : ∀ {A : Option Addr} {m cc : Nat} {B : Nat} {w2 : World}, OwnI w2 B (.slice A m cc) L → W1.heap.size ≤ B → (Value.slice A m cc).ownBlock = none ∨ (Value.slice A m cc).ownBlock ≠ some h := by
      intro A m cc B w2 ho hB
      rcases e : (Value.slice A m cc).ownBlock with _ | q
      · exact .inl rfl
      · have := ho.form.2 q e
        exact .inr (fun e => by injection e with e; omega)
    have sz2 := G2.out.size
    have sz3 := G3.out.size
    have o2 := O2.out.grown G3.out (far O2.out (Nat.le_refl _))
    have o3 := O3.out
    have pA := au_grown B2.out G3.out hgh
    have NUM : Hid (∀ n, Calls Tryd.prog 14 #[.slice A2 m2 cc2, .slice A3 m3 cc3] (w3.drewN n) fun e w' => e = .returned (.bool true) ∧ ∃ k, w' = (w3.drewN n).drewN k) := fun n => numbers_two (o2.drewN n) (o3.drewN n) (Below.refl _ _) (by omega)
    have STA : Hid (∀ n, Calls Tryd.prog 34 #[.pointer (some ⟨g, 0, none⟩)] (w3.drewN n) fun e w' => e = .returned (.int .i64 s') ∧ w' = w3.drewN n) := fun n => flipC (state_any g s' c' mc mt _ (Blk.drewN pA n))
    have CNT : Hid (∀ n, Calls Tryd.prog 36 #[.pointer (some ⟨g, 0, none⟩)] (w3.drewN n) fun e w' => e = .returned (.int .i64 c') ∧ w' = w3.drewN n) := fun n => flipC (count_any g s' c' mc mt _ (Blk.drewN pA n))
    have RNG : Hid (∀ n, Calls Tryd.prog 35 #[.pointer (some ⟨g, 0, none⟩)] (w3.drewN n) fun e w' => e = .returned (.bool bR) ∧ w' = w3.drewN n) := fun n => by
      rw [← HBR.out]
      exact flipC (running_any g s' c' mc mt _ (Blk.drewN pA n))
    have RRN : Hid (∀ n, Calls Tryd.prog 20 #[.int .i64 s'] (w3.drewN n) fun e w' => e = .returned (.bool bR) ∧ w' = w3.drewN n) := fun n => by
      rw [← HBR.out]
      exact flipC (rruns_any s' _)
    have r2 : w3.cell? ⟨h, 2, none⟩ = some (.int .i64 s') := B3.out.cell 2
    have r3 : w3.cell? ⟨h, 3, none⟩ = some (.int .i64 c') := B3.out.cell 3
    have SP := Lib.hid (spoil_start o2 (Below.refl w3.heap.size w3))
    have PJ : Hid (PairJ w3 g h s' c' mc mt) := ⟨pA, B3.out, HC.out⟩
    have F0 : Hid (Fr2 g h W w3) := ((Fr2.ofB HB1.out).trans (Fr2.of1 G2.out)).trans (Fr2.of2 G3.out)
    have OB : Hid (∀ k, (Value.slice A2 m2 cc2).ownBlock = some k → W1.heap.size ≤ k) := fun k e => (O2.out.form.2 k e).1
    have hm2 : m2 ≤ 3 := by have : L.length = m2 := O2.out.rd.1.1; omega
    clear far o2 o3 pA k0 k1 k2 O2 O3 B2 B3 G2 G3 HP1 RP1 HB1 D1 D2 FAR
    go_quiet (first
      | (go_at_call 14; exact Calls.quiet_of (NUM.out _))
      | (go_at_call 34; exact Calls.quiet_of_same (STA.out _))
      | (go_at_call 36; exact Calls.quiet_of_same (CNT.out _))
      | (go_at_call 35; exact Calls.quiet_of_same (RNG.out _))
      | (go_at_call 20; exact Calls.quiet_of_same (RRN.out _)))
    go_wp2
    go_loopw [82] (fun i wr => ∃ k : Nat, k ≤ m2 ∧ i = .int .i64 k ∧ SpoilJ w3 wr (.slice A2 m2 cc2) m2) (fun i _ => m2 - (intOf i).toNat)
    case atStart => exact ⟨0, Nat.zero_le _, rfl, ⟨rfl, rfl, rfl, Nat.le_refl _, fun _ _ _ => rfl⟩, SP.out.2⟩
    case round =>
      rename_i wr
      obtain ⟨k, hk, rfl, hj⟩ := hrel
      by_cases hlt : k < m2
      · obtain ⟨q, rfl, ⟨z, hz⟩, hf⟩ := spoil_cell hj hlt
        have NX := Lib.hid (spoil_step hj hlt 99)
        clear hj SP NUM STA CNT RNG RRN
        go_wp2
        go_roundw
        case rel => exact ⟨k + 1, by omega, by go_num, NX.out⟩
        case measure => simp [intOf]; omega
      · have f1 : Hid (StepPost W g h mc mt (.returned (.tuple #[.slice A3 m3 cc3, .bool true])) wr) := by
          refine ⟨A3, m3, cc3, s', c', rfl, PJ.out.kept hj.1 ?_ ?_, F0.out.then_ hj.1 ?_⟩
          · intro e
            have := OB.out g e
            omega
          · intro e
            have := OB.out h e
            omega
          · intro q e
            have := OB.out q e
            omega
        clear hj SP NUM STA CNT RNG RRN
        go_wp2
        go_ret2
        exact f1.out
theorem step_none (g h : Nat) (s c mc mt K N : Int) (W : World) (hp : PairJ W g h s c mc mt) (hgh : g ≠ h) (hK : ¬ (K = 0 ∨ K = 1)) :
    Calls Tryd.prog 29 #[.pointer (some ⟨g, 0, none⟩), .pointer (some ⟨h, 0, none⟩), .agg #[.int .i64 K, .int .i64 N]] W fun e w' => StepPost W g h mc mt e w' := by
  obtain ⟨W1, hW1⟩ : ∃ W1, W1 = W.alloc (.cells #[.int .i64 K, .int .i64 N] 43) := ⟨_, rfl⟩
  have hbo : Blk W1 W.heap.size 43 [.int .i64 K, .int .i64 N] := by rw [hW1]; exact blk_new W _ _
  have hB1 : Below W.heap.size W W1 := by rw [hW1]; exact (Below.refl _ _).alloc (Nat.le_refl _) _
  have hg := hp.1.lt
  have hh := hp.2.1.lt
  have hp1 : PairJ W1 g h s c mc mt := ⟨Blk.below hp.1 hB1 hg, Blk.below hp.2.1 hB1 hh, hp.2.2⟩
  have HW : Hid (W.alloc (.cells #[.int .i64 K, .int .i64 N] 43) = W1) := hW1.symm
  have HP1 := Lib.hid hp1
  have F0 : Hid (Fr2 g h W W1) := Fr2.ofB hB1
  have k0 : W1.cell? ⟨W.heap.size, 0, none⟩ = some (.int .i64 K) := hbo.cell 0
  have t0 : (K == 0) = false := by simp; omega
  have t1 : (K == 1) = false := by simp; omega
  have heq : ∀ z : Int, (z == z) = true := by simp
  have heb : ∀ z : Bool, (z == z) = true := by simp
  obtain ⟨bR, hbR⟩ : ∃ b, runsB s = b := ⟨_, rfl⟩
  have HBR := Lib.hid hbR
  have pA := hp1.1
  have NUM : Hid (∀ n, Calls Tryd.prog 14 #[.slice none 0 0, .slice none 0 0] (W1.drewN n) fun e w' => e = .returned (.bool true) ∧ ∃ k, w' = (W1.drewN n).drewN k) := fun n => numbers_two (OwnI.nil (W1.drewN n) 0) (OwnI.nil (W1.drewN n) 0) (Below.refl _ _) (by simp)
  have STA : Hid (∀ n, Calls Tryd.prog 34 #[.pointer (some ⟨g, 0, none⟩)] (W1.drewN n) fun e w' => e = .returned (.int .i64 s) ∧ w' = W1.drewN n) := fun n => flipC (state_any g s c mc mt _ (Blk.drewN pA n))
  have CNT : Hid (∀ n, Calls Tryd.prog 36 #[.pointer (some ⟨g, 0, none⟩)] (W1.drewN n) fun e w' => e = .returned (.int .i64 c) ∧ w' = W1.drewN n) := fun n => flipC (count_any g s c mc mt _ (Blk.drewN pA n))
  have RNG : Hid (∀ n, Calls Tryd.prog 35 #[.pointer (some ⟨g, 0, none⟩)] (W1.drewN n) fun e w' => e = .returned (.bool bR) ∧ w' = W1.drewN n) := fun n => by
    rw [← HBR.out]
    exact flipC (running_any g s c mc mt _ (Blk.drewN pA n))
  have RRN : Hid (∀ n, Calls Tryd.prog 20 #[.int .i64 s] (W1.drewN n) fun e w' => e = .returned (.bool bR) ∧ w' = W1.drewN n) := fun n => by
    rw [← HBR.out]
    exact flipC (rruns_any s _)
  have r2 : W1.cell? ⟨h, 2, none⟩ = some (.int .i64 s) := hp1.2.1.cell 2
  have r3 : W1.cell? ⟨h, 3, none⟩ = some (.int .i64 c) := hp1.2.1.cell 3
  clear hW1 hbo hp1 hB1 hp hK hbR pA
  go_enter Tryd.func29, Tryd.ntmps29
  go_upto_region 1 with (fail)
  rw [HW.out]
  clear HW
  go_wp2
  go_quiet (first
    | (go_at_call 14; exact Calls.quiet_of (NUM.out _))
    | (go_at_call 34; exact Calls.quiet_of_same (STA.out _))
    | (go_at_call 36; exact Calls.quiet_of_same (CNT.out _))
    | (go_at_call 35; exact Calls.quiet_of_same (RNG.out _))
    | (go_at_call 20; exact Calls.quiet_of_same (RRN.out _)))
  go_wp2
  go_loopw [82] (fun i wr => i = .int .i64 0 ∧ ∃ n, wr = W1.drewN n) (fun i _ => 0)
  case atStart => exact ⟨rfl, _, rfl⟩
  case round =>
    obtain ⟨rfl, nn, rfl⟩ := hrel
    have P1 : Hid (StepPost W g h mc mt (.returned (.tuple #[.slice none 0 0, .bool true])) (W1.drewN nn)) := ⟨none, 0, 0, s, c, rfl, ⟨HP1.out.1, HP1.out.2.1, HP1.out.2.2⟩, F0.out.drewN nn⟩
    go_wp2
    go_ret2
    exact P1.out
theorem step_any (g h : Nat) (s c mc mt K N : Int) (W : World) (hp : PairJ W g h s c mc mt) (hgh : g ≠ h) (hT : TabA W) (h1 : 0 ≤ mc ∧ mc ≤ 255) (h2 : 0 ≤ mt ∧ mt ≤ 255) :
    Calls Tryd.prog 29 #[.pointer (some ⟨g, 0, none⟩), .pointer (some ⟨h, 0, none⟩), .agg #[.int .i64 K, .int .i64 N]] W fun e w' => StepPost W g h mc mt e w' := by
  by_cases hK : K = 0 ∨ K = 1
  · exact step_two g h s c mc mt K N W hp hgh hT h1 h2 hK
  · exact step_none g h s c mc mt K N W hp hgh hK
end Go.Proofs.YtpkmddagcfjadaaDoor
