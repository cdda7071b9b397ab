/-
  OptPicks: what is called, one behind the other.
-/
import Derived.Test.YtonbdcajepmgbaaDoorOpKind
import Derived.Test.YtonbdcajepmgbaaDoorOSpoil
import Derived.Test.YtonbdcajepmgbaaDoorOLent
import Derived.Test.YtonbdcajepmgbaaDoorOpKnownW
namespace Go.Proofs.YtonbdcajepmgbaaDoor
open Go.RowKit
set_option maxRecDepth 100000
set_option maxHeartbeats 4000000
set_option linter.unusedSimpArgs false
set_option linter.unusedVariables false

/-- the arguments: a reply, a request, types -/
structure PA (w : World) (A0 : Option Addr) (n0 c0 : Nat) (sa : List Opt) (A1 : Option Addr) (n1 c1 : Nat) (sl : List Opt) (A2 : Option Addr) (n2 c2 : Nat) (ks : List Int) : Prop where
  a : OptRd w w.heap.size A0 n0 sa
  l : OptRd w w.heap.size A1 n1 sl
  k : RdI w w.heap.size A2 n2 ks
  an : n0 ≤ 300
  ac : n0 ≤ c0
  ln : n1 ≤ 300
  kn : n2 ≤ 1152921504606846976
  t : TabK w
/-- what was lent still reads so -/
def PV (w V : World) (B : Nat) (F : Option Addr) (n1 : Nat) (sl : List Opt) : Prop := Below w.heap.size w V ∧ w.heap.size ≤ B ∧ B ≤ V.heap.size ∧ OptRd V B F n1 sl
theorem PV.below {w V V' : World} {B C : Nat} {F : Option Addr} {n1 : Nat} {sl : List Opt} (h : PV w V B F n1 sl) (hB : Below C V V') (hC : B ≤ C) : PV w V' B F n1 sl := by
  obtain ⟨h1, h2, h3, h4⟩ := h
  exact ⟨h1.trans (hB.mono (by omega)), h2, Nat.le_trans h3 hB.size, h4.below hB hC⟩
theorem PV.later {w V V' : World} {B : Nat} {F : Option Addr} {n1 : Nat} {sl : List Opt} (h : PV w V B F n1 sl) (hB : Below V.heap.size V V') : PV w V' B F n1 sl := h.below hB h.2.2.1
section
variable {w : World} {A0 : Option Addr} {n0 c0 : Nat} {sa : List Opt} {A1 : Option Addr} {n1 c1 : Nat} {sl : List Opt} {A2 : Option Addr} {n2 c2 : Nat} {ks : List Int} {B : Nat} {F : Option Addr} {f : Nat} (code : Int) (R : Bool)
def P6 (w V : World) (A0 : Option Addr) (n0 c0 : Nat) (A1 : Option Addr) (n1 c1 : Nat) (F : Option Addr) (f : Nat) (code : Int) (bs bb : Bool) (X : ByteArray) : Prop :=
  Calls Tryd.prog 11 #[.slice F n1 f, .slice A1 n1 c1] V fun e v1 => e = .returned (.bool true) ∧
    Calls Tryd.prog 16 #[.slice A0 n0 c0, .slice A1 n1 c1] v1 fun e v2 => e = .returned (.bool bs) ∧
      Calls Tryd.prog 11 #[.slice A0 n0 c0, .slice A1 n1 c1] v2 fun e v3 => e = .returned (.bool bs) ∧
        Calls Tryd.prog 17 #[.slice A0 n0 c0, .slice A1 n1 c1] v3 fun e v4 => e = .returned (.bool bb) ∧
          Calls Tryd.prog 18 #[.slice A0 n0 c0, .slice A1 n1 c1] v4 fun e v5 => e = .returned (.bool bb) ∧
            Calls Tryd.prog 19 #[.int .i64 code] v5 fun e v6 => e = .returned (.string X) ∧
              Calls Tryd.prog 20 #[.int .i64 code] v6 fun e v7 => e = .returned (.string X) ∧
                Calls Tryd.prog 4 #[] v7 fun e v8 => e = .returned (.bool true) ∧ Below w.heap.size w v8
theorem p6 (hp : PA w A0 n0 c0 sa A1 n1 c1 sl A2 n2 c2 ks) {V : World} (h : PV w V B F n1 sl) : P6 w V A0 n0 c0 A1 n1 c1 F f code (decide (sa = sl)) (decide (sl.foldl eat sa = [])) ⟨(nameK code).toArray⟩ := by
  have rl : ∀ {W : World}, Below w.heap.size w W → OptRd W w.heap.size A1 n1 sl := fun hb => hp.l.below hb (Nat.le_refl _)
  have ra : ∀ {W : World}, Below w.heap.size w W → OptRd W w.heap.size A0 n0 sa := fun hb => hp.a.below hb (Nat.le_refl _)
  have an := hp.an
  have ln := hp.ln
  refine (rsame_yes F A1 n1 f c1 V.heap.size sl V (h.2.2.2.wide h.2.2.1) ((rl h.1).wide h.1.size) (Nat.le_refl _) (by omega)).mono ?_
  rintro e v1 ⟨rfl, b1⟩
  have B1 := h.1.trans (b1.mono h.1.size)
  refine ⟨rfl, (osame_any A0 A1 n0 n1 c0 c1 w.heap.size sa sl v1 (ra B1) (rl B1) B1.size (by omega) (by omega)).mono ?_⟩
  rintro e v2 ⟨rfl, b2⟩
  have B2 := B1.trans (b2.mono B1.size)
  refine ⟨rfl, (rsame_any A0 A1 n0 n1 c0 c1 w.heap.size sa sl v2 (ra B2) (rl B2) B2.size (by omega) (by omega)).mono ?_⟩
  rintro e v3 ⟨rfl, b3⟩
  have B3 := B2.trans (b3.mono B2.size)
  refine ⟨rfl, (subset_any A0 n0 c0 w.heap.size sa A1 n1 c1 sl v3 (ra B3) B3.size hp.ac (by omega) (rl B3) (by omega)).mono ?_⟩
  rintro e v4 ⟨rfl, b4⟩
  have B4 := B3.trans (b4.mono B3.size)
  refine ⟨rfl, (rsubset_any A0 A1 n0 n1 c0 c1 w.heap.size sa sl v4 (ra B4) (rl B4) B4.size (by omega) (by omega)).mono ?_⟩
  rintro e v5 ⟨rfl, b5⟩
  have B5 := B4.trans (b5.mono B4.size)
  refine ⟨rfl, (okind_any code v5 (hp.t.keptB B5 hp.t.lt)).mono ?_⟩
  rintro e v6 ⟨rfl, rfl⟩
  refine ⟨rfl, (rkind_any code v5).mono ?_⟩
  rintro e v7 ⟨rfl, b7⟩
  have B7 := B5.trans (b7.mono B5.size)
  refine ⟨rfl, (known_yes v7).mono ?_⟩
  rintro e v8 ⟨rfl, b8⟩
  exact ⟨rfl, B7.trans (b8.mono B7.size)⟩
def P5 (w V : World) (A0 : Option Addr) (n0 c0 : Nat) (A1 : Option Addr) (n1 c1 : Nat) (F : Option Addr) (f : Nat) (code : Int) (fb : Bool) (fe : Int) (bs bb : Bool) (X : ByteArray) : Prop :=
  Calls Tryd.prog 14 #[.int .i64 code, .slice A1 n1 c1, .slice A0 n0 c0] V fun e v1 => e = .returned (.tuple #[.bool fb, .int .i64 fe]) ∧
    Calls Tryd.prog 15 #[.int .i64 code, .slice A1 n1 c1, .slice A0 n0 c0] v1 fun e v2 => e = .returned (.tuple #[.bool fb, .int .i64 fe]) ∧ P6 w v2 A0 n0 c0 A1 n1 c1 F f code bs bb X
theorem p5 (hR : R = true ↔ Srt sl sa) (hp : PA w A0 n0 c0 sa A1 n1 c1 sl A2 n2 c2 ks) {V : World} (h : PV w V B F n1 sl) :
    P5 w V A0 n0 c0 A1 n1 c1 F f code (fitB code sl sa R) (fitE code) (decide (sa = sl)) (decide (sl.foldl eat sa = [])) ⟨(nameK code).toArray⟩ := by
  have an := hp.an
  have ln := hp.ln
  refine (ofits_any code A1 A0 n1 c1 n0 c0 w.heap.size sl sa R hR V (hp.l.below h.1 (Nat.le_refl _)) (hp.a.below h.1 (Nat.le_refl _)) h.1.size (by omega) (by omega) hp.ac).mono ?_
  rintro e v1 ⟨rfl, b1⟩
  have h1 := h.later b1
  refine ⟨rfl, (rfits_any code A1 A0 n1 c1 n0 c0 w.heap.size sl sa R hR v1 (hp.l.below h1.1 (Nat.le_refl _)) (hp.a.below h1.1 (Nat.le_refl _)) h1.1.size (by omega) (by omega)).mono ?_⟩
  rintro e v2 ⟨rfl, b2⟩
  exact ⟨rfl, p6 code hp (h1.later b2)⟩
def P4 (w V : World) (A0 : Option Addr) (n0 c0 : Nat) (A1 : Option Addr) (n1 c1 : Nat) (A2 : Option Addr) (n2 c2 : Nat) (F : Option Addr) (f : Nat) (code : Int) (fb : Bool) (fe : Int) (bs bb : Bool) (X : ByteArray) : Prop :=
  Calls Tryd.prog 10 #[.slice F n1 f, .slice A2 n2 c2] V fun e v1 => ∃ Z nz cz, e = .returned (.slice Z nz cz) ∧
    Calls Tryd.prog 12 #[.slice A1 n1 c1, .slice A2 n2 c2] v1 fun e v2 => ∃ Y cy, e = .returned (.slice Y nz cy) ∧
      Calls Tryd.prog 11 #[.slice Z nz cz, .slice Y nz cy] v2 fun e v3 => e = .returned (.bool true) ∧
        Calls Tryd.prog 13 #[.slice Z nz cz] v3 fun e v4 => e = .returned (.tuple #[]) ∧ P5 w v4 A0 n0 c0 A1 n1 c1 F f code fb fe bs bb X
theorem p4 (hR : R = true ↔ Srt sl sa) (hp : PA w A0 n0 c0 sa A1 n1 c1 sl A2 n2 c2 ks) {V : World} (h : PV w V B F n1 sl) :
    P4 w V A0 n0 c0 A1 n1 c1 A2 n2 c2 F f code (fitB code sl sa R) (fitE code) (decide (sa = sl)) (decide (sl.foldl eat sa = [])) ⟨(nameK code).toArray⟩ := by
  have an := hp.an
  have ln := hp.ln
  have hbytes : ∀ o ∈ woo ks sl, o.2.length ≤ 140737488351232 := fun o ho => hp.l.bytes o ((woo_sub ks sl).subset ho)
  have hwl : (woo ks sl).length ≤ sl.length := (woo_sub ks sl).length_le
  have hsl := hp.l.1
  refine (without_any F n1 f B sl A2 n2 c2 ks V h.2.2.2 h.2.2.1 (by omega) ((hp.k.below h.1 (Nat.le_refl _)).wide h.2.1) hp.kn).mono ?_
  rintro e v1 ⟨vx, rfl, hox, b1⟩
  have h1 := h.later b1
  obtain ⟨Z, cz, rfl⟩ := hox.shape
  refine ⟨Z, _, cz, rfl, (rwithout_any A1 n1 c1 w.heap.size sl A2 n2 c2 ks v1 (hp.l.below h1.1 (Nat.le_refl _)) h1.1.size (by omega) (hp.k.below h1.1 (Nat.le_refl _)) hp.kn).mono ?_⟩
  rintro e v2 ⟨vy, rfl, hoy, b2⟩
  have h2 := h1.later b2
  obtain ⟨Y, cy, rfl, hyr, -⟩ := hoy.rd b2.size
  have hx2 := hox.later b2
  have hxr : OptRd v2 v2.heap.size Z (woo ks sl).length (woo ks sl) := by
    obtain ⟨A', c', e, hh, -⟩ := hx2.rd hbytes
    injection e with e1 e2 e3
    subst e1
    exact hh
  refine ⟨Y, cy, rfl, (rsame_yes Z Y _ cz cy v2.heap.size (woo ks sl) v2 hxr hyr (Nat.le_refl _) (by omega)).mono ?_⟩
  rintro e v3 ⟨rfl, b3⟩
  have h3 := h2.later b3
  have hx3 := hx2.later b3
  have s1 := b1.size
  have s2 := b2.size
  have s3 := b3.size
  refine ⟨rfl, (ospoil_any _ _ V.heap.size v3 (hx3.owns (fun o ho => by have := hbytes o ho; omega)) (by omega) (by omega)).mono ?_⟩
  rintro e v4 ⟨rfl, b4⟩
  exact ⟨rfl, p5 code R hR hp (h3.below b4 h.2.2.1)⟩
def P3 (w V : World) (A0 : Option Addr) (n0 c0 : Nat) (A1 : Option Addr) (n1 c1 : Nat) (A2 : Option Addr) (n2 c2 : Nat) (F : Option Addr) (f : Nat) (code K : Int) (fb : Bool) (fe : Int) (bs bb : Bool) (X : ByteArray) : Prop :=
  Calls Tryd.prog 6 #[.slice F n1 f, .int .i64 K] V fun e v1 => ∃ K1 D k d b V1, e = .returned (.tuple #[.agg #[.int .i64 K1, .slice D k d], .bool b]) ∧ v1.alloc (.cells #[.int .i64 K1, .slice D k d] 28) = V1 ∧
    Calls Tryd.prog 7 #[.slice A1 n1 c1, .int .i64 K] V1 fun e v2 => ∃ D2 k2 d2 V2, e = .returned (.tuple #[.agg #[.int .i64 K1, .slice D2 k2 d2], .bool b]) ∧ v2.alloc (.cells #[.int .i64 K1, .slice D2 k2 d2] 28) = V2 ∧
      (V2.cell? ⟨v1.heap.size, 0, none⟩ = some (.int .i64 K1) ∧ V2.cell? ⟨v1.heap.size, 1, none⟩ = some (.slice D k d) ∧ V2.cell? ⟨v2.heap.size, 0, none⟩ = some (.int .i64 K1) ∧ V2.cell? ⟨v2.heap.size, 1, none⟩ = some (.slice D2 k2 d2)) ∧
      Calls Tryd.prog 8 #[.agg #[.int .i64 K1, .slice D k d], .agg #[.int .i64 K1, .slice D2 k2 d2]] V2 fun e v3 => e = .returned (.bool true) ∧ v3.cell? ⟨v1.heap.size, 1, none⟩ = some (.slice D k d) ∧
        Calls Tryd.prog 9 #[.slice D k d] v3 fun e v4 => e = .returned (.tuple #[]) ∧ P4 w v4 A0 n0 c0 A1 n1 c1 A2 n2 c2 F f code fb fe bs bb X
theorem p3 (K : Int) (hR : R = true ↔ Srt sl sa) (hp : PA w A0 n0 c0 sa A1 n1 c1 sl A2 n2 c2 ks) {V : World} (h : PV w V B F n1 sl) :
    P3 w V A0 n0 c0 A1 n1 c1 A2 n2 c2 F f code K (fitB code sl sa R) (fitE code) (decide (sa = sl)) (decide (sl.foldl eat sa = [])) ⟨(nameK code).toArray⟩ := by
  have ln := hp.ln
  refine (ofind_any F n1 f B sl K V h.2.2.2 h.2.2.1 (by omega)).mono ?_
  rintro e v1 ⟨D, k, d, rfl, ho, b1⟩
  have h1 := h.later b1
  have s1 := b1.size
  have BA : Below v1.heap.size v1 (v1.alloc (.cells #[.int .i64 (fnd sl K).1, .slice D k d] 28)) := (Below.refl _ _).alloc (Nat.le_refl _) _
  have k1 := blk_new v1 28 [.int .i64 (fnd sl K).1, .slice D k d]
  have hA := h1.later BA
  have oA := ho.later BA
  refine ⟨_, D, k, d, _, _, rfl, rfl, ?_⟩
  have k1' : Blk (v1.alloc (.cells #[.int .i64 (fnd sl K).1, .slice D k d] 28)) v1.heap.size 28 [.int .i64 (fnd sl K).1, .slice D k d] := k1
  generalize v1.alloc (.cells #[.int .i64 (fnd sl K).1, .slice D k d] 28) = V1 at BA k1' hA oA ⊢
  refine (rfind_any A1 n1 c1 w.heap.size sl K V1 (hp.l.below hA.1 (Nat.le_refl _)) hA.1.size (by omega)).mono ?_
  rintro e v2 ⟨D2, k2, d2, rfl, hr2, ⟨hk2d, hk2⟩, b2⟩
  have h2 := hA.later b2
  have s2 := b2.size
  have BB : Below v2.heap.size v2 (v2.alloc (.cells #[.int .i64 (fnd sl K).1, .slice D2 k2 d2] 28)) := (Below.refl _ _).alloc (Nat.le_refl _) _
  have k2' : Blk (v2.alloc (.cells #[.int .i64 (fnd sl K).1, .slice D2 k2 d2] 28)) v2.heap.size 28 [.int .i64 (fnd sl K).1, .slice D2 k2 d2] := blk_new v2 _ _
  have hB2 := h2.later BB
  refine ⟨D2, k2, d2, _, rfl, rfl, ?_⟩
  generalize v2.alloc (.cells #[.int .i64 (fnd sl K).1, .slice D2 k2 d2] 28) = V2 at BB k2' hB2 ⊢
  have l1 := k1'.lt
  have B12 : Below V1.heap.size V1 V2 := b2.trans (BB.mono s2)
  have k3 : Blk V2 v1.heap.size 28 [.int .i64 (fnd sl K).1, .slice D k d] := (B12.block _ l1).trans k1'
  have o2 := oA.later B12
  have e1 := o2.len.1
  have e2 := hr2.1
  have sB := BB.size
  refine ⟨⟨k3.cell 0, k3.cell 1, k2'.cell 0, k2'.cell 1⟩, (one_any (fnd sl K).1 (fnd sl K).1 D D2 k k2 d d2 V2.heap.size (fnd sl K).2 (fnd sl K).2 V2 o2.rdAll ((hr2.below (BB.mono s2)).wide (by omega)) (Nat.le_refl _) (by unfold maxLen; omega) (by unfold maxLen; omega)).mono ?_⟩
  rintro e v3 ⟨rfl, b3⟩
  have h3 := hB2.later b3
  have o3 := o2.later b3
  have s3 := b3.size
  have sA := BA.size
  refine ⟨by rw [decide_eq_true rfl], (b3.cell (show v1.heap.size < V2.heap.size by omega)).trans (k3.cell 1), (spoil_any _ (V.heap.size + 1) (fnd sl K).2 v3 o3 (by omega) (by omega)).mono ?_⟩
  rintro e v4 ⟨rfl, hG, -⟩
  have b4 : Below (V.heap.size + 1) v3 v4 := (Below.refl _ _).grown hG (by omega) (fun q hq => (o3.block q hq).1)
  exact ⟨rfl, p4 code R hR hp (h3.below b4 (by have := h.2.2.1; omega))⟩
end
end Go.Proofs.YtonbdcajepmgbaaDoor
