/-
  LcpOptions: what is called, one behind the other.
-/
import Derived.Test.YtonbdcajepmgbaaLcROpts
import Derived.Test.YtonbdcajepmgbaaLcRRead
import Derived.Test.YtonbdcajepmgbaaOSpoil
import Derived.Test.YtonbdcajepmgbaaLcBack
namespace Go.Proofs.Ytonbdcajepmgbaa
open Go.RowKit
set_option maxRecDepth 100000
set_option maxHeartbeats 4000000
set_option linter.unusedSimpArgs false
set_option linter.unusedVariables false

def vO (o : LOpts) : Value := .agg #[.int .i64 o.mru, .int .i64 o.accm, .int .i64 o.auth, .int .u32 o.magic, .bool o.pfc, .bool o.acfc]
/-- the box of what a direction has is as it was -/
def OS (w V : World) (o : LOpts) : Prop := Below w.heap.size w V ∧ cells6 V w.heap.size o ∧ w.heap.size < V.heap.size
theorem OS.below {w V V' : World} {o : LOpts} {B : Nat} (h : OS w V o) (hB : Below B V V') (hw : w.heap.size < B) : OS w V' o := by
  obtain ⟨h1, h2, h3⟩ := h
  refine ⟨h1.trans (hB.mono (by omega)), ?_, Nat.lt_of_lt_of_le h3 hB.size⟩
  obtain ⟨h0, h1, h2, h3, h4, h5⟩ := h2
  have k : ∀ i, V'.cell? ⟨w.heap.size, i, none⟩ = V.cell? ⟨w.heap.size, i, none⟩ := fun i => hB.cell (show w.heap.size < B from hw)
  exact ⟨(k 0).trans h0, (k 1).trans h1, (k 2).trans h2, (k 3).trans h3, (k 4).trans h4, (k 5).trans h5⟩
theorem OS.later {w V V' : World} {o : LOpts} (h : OS w V o) (hB : Below V.heap.size V V') : OS w V' o := h.below hB h.2.2
theorem OS.drewn {w V : World} {o : LOpts} (h : OS w V o) (k : Nat) : OS w (V.drewN k) o := ⟨below_drewN h.1 k, h.2.1, h.2.2⟩
def O4 (w V : World) (o : LOpts) (D : Option Addr) (k d : Nat) : Prop :=
  Calls Try.prog 51 #[.slice D k d] V fun e w' => e = .returned (.tuple #[]) ∧ OS w w' o
theorem o4 {w V : World} {o : LOpts} (h : OS w V o) {D : Option Addr} {k d : Nat} {l : List UInt8} {base : Nat} (ho : Own V base (.slice D k d) l) (hb : base ≤ V.heap.size) (hw : w.heap.size < base) (hl : l.length ≤ 3) : O4 w V o D k d := by
  refine (spoil_own _ base l V ho hb (by omega)).mono ?_
  rintro e w' ⟨rfl, hG⟩
  have hB : Below base V w' := (Below.refl _ _).grown hG hb (fun q hq => (ho.block q hq).1)
  exact ⟨rfl, h.below hB hw⟩
/-- both answers of Read, boxed -/
def C12 (V : World) (z11 z13 : Nat) (P : LOpts) : Prop := cells6 V z11 P ∧ cells6 V z13 P
theorem C12.later {V V' : World} {z11 z13 : Nat} {P : LOpts} (h : C12 V z11 z13 P) (h1 : z11 < V.heap.size) (h2 : z13 < V.heap.size) (hB : Below V.heap.size V V') : C12 V' z11 z13 P := ⟨cells6_later h.1 h1 hB, cells6_later h.2 h2 hB⟩
def O3 (w V : World) (z11 z13 : Nat) (o P : LOpts) (A : Option Addr) (n c : Nat) (F : Option Addr) (f : Nat) (x : Int) (D : Option Addr) (k d : Nat) (Ab : Option Addr) (nb cb : Nat) (lb : List UInt8) : Prop :=
  C12 V z11 z13 P ∧
  Calls Try.prog 47 #[vO P] V.drew fun e w5 => e = .returned (vO P) ∧ C12 w5 z11 z13 P ∧
    Calls Try.prog 33 #[.slice F n f, .slice A n c] w5 fun e w6 => e = .returned (.bool true) ∧ C12 w6 z11 z13 P ∧
      Calls Try.prog 48 #[.int .i64 x] w6 fun e w7 => ∃ D2 k2 d2, e = .returned (.slice D2 k2 d2) ∧ C12 w7 z11 z13 P ∧
        Calls Try.prog 34 #[.slice D k d, .slice D2 k2 d2] w7 fun e w8 => e = .returned (.bool true) ∧ C12 w8 z11 z13 P ∧
          (Calls Try.prog 49 #[.slice Ab nb cb] w8 fun e w9 => e = .returned (.int .i64 (mth lb)) ∧ C12 w9 z11 z13 P ∧ Calls Try.prog 50 #[.slice Ab nb cb] w9 fun e w10 => e = .returned (.int .i64 (mth lb)) ∧ C12 w10 z11 z13 P ∧ O4 w w10 o D k d) ∧
          (Calls Try.prog 50 #[.slice Ab nb cb] w8 fun e w9 => e = .returned (.int .i64 (mth lb)) ∧ C12 w9 z11 z13 P ∧ Calls Try.prog 49 #[.slice Ab nb cb] w9 fun e w10 => e = .returned (.int .i64 (mth lb)) ∧ C12 w10 z11 z13 P ∧ O4 w w10 o D k d)
theorem o3 {w V : World} {o : LOpts} (h : OS w V o) (z11 z13 : Nat) (P : LOpts) (A : Option Addr) (n c : Nat) (s : List Opt) (F : Option Addr) (f : Nat) (x : Int) (D : Option Addr) (k d : Nat) (Ab : Option Addr) (nb cb : Nat) (lb : List UInt8)
    (hC : C12 V z11 z13 P) (l11 : z11 < V.heap.size) (l13 : z13 < V.heap.size) (hr : OptRd w w.heap.size A n s) (hn : n ≤ 300) (hown : OptRd V V.heap.size F n s) {base : Nat} (ha : Own V base (.slice D k d) (authB x)) (hba : base ≤ V.heap.size) (hwb : w.heap.size < base) (hrb : Rd w w.heap.size Ab nb lb) (hnb : nb ≤ 140737488351232) :
    O3 w V z11 z13 o P A n c F f x D k d Ab nb cb lb := by
  refine ⟨hC, (taken_any P V.drew).mono ?_⟩
  rintro e w5 ⟨rfl, b5⟩
  have b5' := below_undrew' b5
  have h5 := h.later b5'
  have s5 := b5'.size
  have c5 := hC.later l11 l13 b5'
  refine ⟨rfl, c5, (rsame_yes F A n f c w5.heap.size s w5 ((hown.below b5' (Nat.le_refl _)).wide s5) ((hr.below h5.1 (Nat.le_refl _)).wide h5.1.size) (Nat.le_refl _) (by omega)).mono ?_⟩
  rintro e w6 ⟨rfl, b6⟩
  have h6 := h5.later b6
  have s6 := b6.size
  have c6 := c5.later (by omega) (by omega) b6
  refine ⟨rfl, c6, (rauth_any x w6).mono ?_⟩
  rintro e w7 ⟨D2, k2, d2, rfl, ho2, b7, -⟩
  have h7 := h6.later b7
  have s7 := b7.size
  have a5 := ha.later b5'
  have a6 := a5.later b6
  have a7 := a6.later b7
  have la := authB_len x
  have e1 := a7.len.1
  have e2 := ho2.len.1
  have c7 := c6.later (by omega) (by omega) b7
  refine ⟨D2, k2, d2, rfl, c7, (same_any D D2 k k2 d d2 (authB x) (authB x) w7 w7.heap.size a7.rdAll ho2.rdAll (by unfold maxLen; omega) (by unfold maxLen; omega)).mono ?_⟩
  rintro e w8 ⟨rfl, q, rfl⟩
  have h8 := h7.drewn q
  have a8 : Own (w7.drewN q) base (.slice D k d) (authB x) := a7
  have hb7 : base ≤ w7.heap.size := by omega
  have c8 : C12 (w7.drewN q) z11 z13 P := c7
  have s8 : (w7.drewN q).heap.size = w7.heap.size := rfl
  refine ⟨by rw [decide_eq_true rfl], c8, ?_, ?_⟩
  · refine (method_any Ab nb cb w.heap.size lb _ (hrb.below h8.1) h8.1.size).mono ?_
    rintro e w9 ⟨rfl, b9⟩
    have h9 := h8.later b9
    have s9 : w7.heap.size ≤ w9.heap.size := b9.size
    have c9 := c8.later (by omega) (by omega) b9
    refine ⟨rfl, c9, (rmethod_any Ab nb cb w.heap.size lb _ (hrb.below h9.1) h9.1.size).mono ?_⟩
    rintro e w10 ⟨rfl, b10⟩
    have s10 := b10.size
    exact ⟨rfl, c9.later (by omega) (by omega) b10, o4 (h9.later b10) ((a8.later b9).later b10) (by omega) hwb la⟩
  · refine (rmethod_any Ab nb cb w.heap.size lb _ (hrb.below h8.1) h8.1.size).mono ?_
    rintro e w9 ⟨rfl, b9⟩
    have h9 := h8.later b9
    have s9 : w7.heap.size ≤ w9.heap.size := b9.size
    have c9 := c8.later (by omega) (by omega) b9
    refine ⟨rfl, c9, (method_any Ab nb cb w.heap.size lb _ (hrb.below h9.1) h9.1.size).mono ?_⟩
    rintro e w10 ⟨rfl, b10⟩
    have s10 := b10.size
    exact ⟨rfl, c9.later (by omega) (by omega) b10, o4 (h9.later b10) ((a8.later b9).later b10) (by omega) hwb la⟩
def O2 (w V : World) (o P : LOpts) (E : Int) (A : Option Addr) (n c : Nat) (x : Int) (Ab : Option Addr) (nb cb : Nat) (lb : List UInt8) : Prop :=
  Calls Try.prog 43 #[.slice A n c] V fun e v6 => ∃ F f, e = .returned (.slice F n f) ∧
    Calls Try.prog 44 #[.slice F n f] v6 fun e v7 => e = .returned (.tuple #[vO P, .int .i64 E]) ∧ ∃ V7, v7.alloc (.cells #[.int .i64 P.mru, .int .i64 P.accm, .int .i64 P.auth, .int .u32 P.magic, .bool P.pfc, .bool P.acfc] 76) = V7 ∧
      Calls Try.prog 45 #[.slice A n c] V7 fun e v8 => e = .returned (.tuple #[vO P, .int .i64 E]) ∧ ∃ V8, v8.alloc (.cells #[.int .i64 P.mru, .int .i64 P.accm, .int .i64 P.auth, .int .u32 P.magic, .bool P.pfc, .bool P.acfc] 74) = V8 ∧
        Calls Try.prog 46 #[.int .i64 x] V8 fun e v9 => ∃ D k d, e = .returned (.slice D k d) ∧ O3 w v9 v7.heap.size v8.heap.size o P A n c F f x D k d Ab nb cb lb
theorem o2 {w V : World} {o : LOpts} (h : OS w V o) (A : Option Addr) (n c : Nat) (s : List Opt) (x : Int) (Ab : Option Addr) (nb cb : Nat) (lb : List UInt8) (hr : OptRd w w.heap.size A n s) (hK : okK s) (hn : n ≤ 300) (hrb : Rd w w.heap.size Ab nb lb) (hnb : nb ≤ 140737488351232) :
    O2 w V o (readO s) (readE s) A n c x Ab nb cb lb := by
  have hlen := hr.1
  refine (olent_any A n c V.heap.size s V ((hr.below h.1 (Nat.le_refl _)).wide h.1.size) (Nat.le_refl _) (by omega)).mono ?_
  rintro e v6 ⟨F, f, rfl, hox, b6⟩
  have h6 := h.later b6
  have hown : OptRd v6 v6.heap.size F n s := by
    obtain ⟨A', c', e, hh, -⟩ := hox.rd hr.bytes
    injection e with e1 e2 e3
    subst e1
    rw [hlen] at hh
    exact hh
  have RA := read_any F n f s v6 hown hK (by omega)
  have RR : ∀ W, OS w W o → Calls Try.prog 45 #[.slice A n c] W fun e w' => e = .returned (rv (readO s) (readE s)) ∧ Below W.heap.size W w' := fun W hW => rread_any A n c s W ((hr.below hW.1 (Nat.le_refl _)).wide hW.1.size) hK (by omega)
  generalize readO s = P at RA RR ⊢
  generalize readE s = E at RA RR ⊢
  refine ⟨F, f, rfl, RA.mono ?_⟩
  rintro e v7 ⟨rfl, b7⟩
  have h7 := h6.later b7
  have BA : Below v7.heap.size v7 (v7.alloc (.cells #[.int .i64 P.mru, .int .i64 P.accm, .int .i64 P.auth, .int .u32 P.magic, .bool P.pfc, .bool P.acfc] 76)) := (Below.refl _ _).alloc (Nat.le_refl _) _
  have k7 := cells6_new v7 76 P
  have sA : (v7.alloc (.cells #[.int .i64 P.mru, .int .i64 P.accm, .int .i64 P.auth, .int .u32 P.magic, .bool P.pfc, .bool P.acfc] 76)).heap.size = v7.heap.size + 1 := by simp
  refine ⟨rfl, _, rfl, ?_⟩
  generalize v7.alloc (.cells #[.int .i64 P.mru, .int .i64 P.accm, .int .i64 P.auth, .int .u32 P.magic, .bool P.pfc, .bool P.acfc] 76) = V7 at BA k7 sA ⊢
  have hV7 := h7.later BA
  refine (RR V7 hV7).mono ?_
  rintro e v8 ⟨rfl, b8⟩
  have h8 := hV7.later b8
  have s8 := b8.size
  have BB : Below v8.heap.size v8 (v8.alloc (.cells #[.int .i64 P.mru, .int .i64 P.accm, .int .i64 P.auth, .int .u32 P.magic, .bool P.pfc, .bool P.acfc] 74)) := (Below.refl _ _).alloc (Nat.le_refl _) _
  have k8 := cells6_new v8 74 P
  have sB : (v8.alloc (.cells #[.int .i64 P.mru, .int .i64 P.accm, .int .i64 P.auth, .int .u32 P.magic, .bool P.pfc, .bool P.acfc] 74)).heap.size = v8.heap.size + 1 := by simp
  refine ⟨rfl, _, rfl, ?_⟩
  generalize v8.alloc (.cells #[.int .i64 P.mru, .int .i64 P.accm, .int .i64 P.auth, .int .u32 P.magic, .bool P.pfc, .bool P.acfc] 74) = V8 at BB k8 sB ⊢
  have hV8 := h8.later BB
  refine (auth_any x V8).mono ?_
  rintro e v9 ⟨D, k, d, rfl, ho, b9, -⟩
  have s9 := b9.size
  have B78 : Below V7.heap.size V7 V8 := b8.trans (BB.mono s8)
  have B79 : Below V7.heap.size V7 v9 := B78.trans (b9.mono B78.size)
  have s7 := b7.size
  have hw9 : OptRd v9 v9.heap.size F n s := by
    have B69 : Below v6.heap.size v6 v9 := b7.trans ((BA.trans (B79.mono (by omega))).mono s7)
    exact (hown.below B69 (Nat.le_refl _)).wide B69.size
  have hwv : w.heap.size < V8.heap.size := hV8.2.2
  exact ⟨D, k, d, rfl, o3 (hV8.later b9) v7.heap.size v8.heap.size P A n c s F f x D k d Ab nb cb lb ⟨cells6_later k7 (by omega) B79, cells6_later k8 (by omega) b9⟩ (by have := B78.size; omega) (by omega) hr hn hw9 ho s9 hwv hrb hnb⟩
def O1 (w V : World) (o P : LOpts) (E : Int) (A : Option Addr) (n c : Nat) (x : Int) (Ab : Option Addr) (nb cb : Nat) (lb : List UInt8) : Prop :=
  Calls Try.prog 40 #[vO o] V fun e v1 => e = .returned (vO o) ∧
    Calls Try.prog 39 #[vO o] v1 fun e v2 => ∃ X nx cx, e = .returned (.slice X nx cx) ∧ cells6 v2 w.heap.size o ∧
      Calls Try.prog 41 #[vO o] v2 fun e v3 => ∃ Y cy, e = .returned (.slice Y nx cy) ∧
        Calls Try.prog 33 #[.slice X nx cx, .slice Y nx cy] v3 fun e v4 => e = .returned (.bool true) ∧
          Calls Try.prog 42 #[.slice X nx cx] v4 fun e v5 => e = .returned (.tuple #[]) ∧ O2 w v5 o P E A n c x Ab nb cb lb
theorem optsOf_bytes (o : LOpts) : ∀ y ∈ optsOf o, y.2.length ≤ 140737488351232 := fun y hy => by have := (optsOf_each o y hy).2; omega
theorem own_opts {W : World} {base n c : Nat} {X : Option Addr} {o : LOpts} (h : OwnL W base (.slice X n c) (optsOf o)) : OptRd W W.heap.size X n (optsOf o) := by
  obtain ⟨A', c', e, hh, -⟩ := h.rd (optsOf_bytes o)
  injection e with e1 e2 e3
  subst e1 e2
  exact hh
theorem o1 {w V : World} {o : LOpts} (hw : o.wf) (h : OS w V o) (A : Option Addr) (n c : Nat) (s : List Opt) (x : Int) (Ab : Option Addr) (nb cb : Nat) (lb : List UInt8) (hr : OptRd w w.heap.size A n s) (hK : okK s) (hn : n ≤ 300) (hrb : Rd w w.heap.size Ab nb lb) (hnb : nb ≤ 140737488351232) :
    O1 w V o (readO s) (readE s) A n c x Ab nb cb lb := by
  refine (given_any o V).mono ?_
  rintro e v1 ⟨rfl, b1⟩
  have h1 := h.later b1
  refine ⟨rfl, (options_lcp o v1 hw).mono ?_⟩
  rintro e v2 ⟨X, nx, cx, rfl, hnx, hox, b2⟩
  have h2 := h1.later b2
  refine ⟨X, nx, cx, rfl, h2.2.1, (roptions_any o v2 hw).mono ?_⟩
  rintro e v3 ⟨Y, ny, cy, rfl, hny, hoy, b3⟩
  have h3 := h2.later b3
  obtain rfl : ny = nx := by omega
  have hlen := optsOf_len o
  have hx3 := hox.later b3
  refine ⟨Y, cy, rfl, (rsame_yes X Y ny cx cy v3.heap.size (optsOf o) v3 (own_opts hx3) (own_opts hoy) (Nat.le_refl _) (by omega)).mono ?_⟩
  rintro e v4 ⟨rfl, b4⟩
  have h4 := h3.later b4
  have hx4 := hx3.later b4
  have s2 := b2.size
  have s3 := b3.size
  have s4 := b4.size
  have hsp := hx4.owns (fun y hy => by have := optsOf_bytes o y hy; omega)
  rw [← hnx] at hsp
  refine ⟨rfl, (ospoil_any _ ny v1.heap.size v4 hsp (by omega) (by omega)).mono ?_⟩
  rintro e v5 ⟨rfl, b5⟩
  exact ⟨rfl, o2 (h4.below b5 h1.2.2) A n c s x Ab nb cb lb hr hK hn hrb hnb⟩
end Go.Proofs.Ytonbdcajepmgbaa
