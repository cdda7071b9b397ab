/-
  LcpEchoes: the walk.
-/
import Derived.Test.YtonbdcajepmgbaaLcEchoes
import Derived.Deep.Cut
namespace Go.Proofs.Ytonbdcajepmgbaa
open Go.RowKit
set_option maxRecDepth 100000
set_option maxHeartbeats 4000000
set_option linter.unusedSimpArgs false
set_option linter.unusedVariables false

/-- the cells that are read where Echo is called -/
def S9 (W : World) (b m : Nat) (C I : Int) (S : Value) (o : LOpts) : Prop := PkC W b C I S ∧ cells6 W m o
/-- Echo's answer -/
def ER (w : World) (M b g cap : Nat) (C I : Int) (A : Option Addr) (n c : Nat) (l : List UInt8) (o : LOpts) (bs : Nat) (e : Ending) (w2 : World) : Prop :=
  ∃ P1 P2 D k d ok E, e = .returned (.tuple #[.agg #[.int .i64 P1, .int .i64 P2, .slice D k d], .bool ok, .int .i64 E]) ∧ S9 w2 b (w.heap.size + 1) C I (.slice (some ⟨g, 0, none⟩) n cap) o ∧
    (EI w w2 M b g cap C I A n c l o ∧ Own w2 bs (.slice D k d) (ecV C I o.magic l).2.2.1 ∧ M ≤ bs ∧ bs ≤ w2.heap.size ∧ P1 = (ecV C I o.magic l).1 ∧ P2 = (ecV C I o.magic l).2.1 ∧ ok = (ecV C I o.magic l).2.2.2.1 ∧ E = (ecV C I o.magic l).2.2.2.2)
/-- behind the statement -/
def Fin (w W : World) (M b g cap : Nat) (C I : Int) (A : Option Addr) (n c : Nat) (l : List UInt8) (o : LOpts) (a : Nat) (D : Option Addr) (k d : Nat) : Prop :=
  EI w W M b g cap C I A n c l o ∧ PkC W a (ecV C I o.magic l).1 (ecV C I o.magic l).2.1 (.slice D k d) ∧ a < W.heap.size ∧ ∃ base, M ≤ base ∧ base ≤ W.heap.size ∧ Own W base (.slice D k d) (ecV C I o.magic l).2.2.1
def EG (w V : World) (M b g cap : Nat) (C I : Int) (A : Option Addr) (n c : Nat) (l : List UInt8) (o : LOpts) (Ex : World → Prop) : Prop :=
  Calls Try.prog 40 #[.agg #[.int .i64 o.mru, .int .i64 o.accm, .int .i64 o.auth, .int .u32 o.magic, .bool o.pfc, .bool o.acfc]] V fun e w1 => e = .returned (.agg #[.int .i64 o.mru, .int .i64 o.accm, .int .i64 o.auth, .int .u32 o.magic, .bool o.pfc, .bool o.acfc]) ∧ S9 w1 b (w.heap.size + 1) C I (.slice (some ⟨g, 0, none⟩) n cap) o ∧
    (Calls Try.prog 55 #[.agg #[.int .i64 C, .int .i64 I, .slice (some ⟨g, 0, none⟩) n cap], .agg #[.int .i64 o.mru, .int .i64 o.accm, .int .i64 o.auth, .int .u32 o.magic, .bool o.pfc, .bool o.acfc]] w1 fun e w2 => ER w M b g cap C I A n c l o V.heap.size e w2 ∧ Ex w2) ∧
    (Calls Try.prog 55 #[.agg #[.int .i64 C, .int .i64 I, .slice (some ⟨g, 0, none⟩) n cap], .agg #[.int .i64 o.mru, .int .i64 o.accm, .int .i64 o.auth, .int .u32 o.magic, .bool o.pfc, .bool o.acfc]] (w1.alloc (.cells #[.int .i64 0, .int .i64 0, .slice none 0 0] 54)) fun e w2 => ER w M b g cap C I A n c l o (w1.heap.size + 1) e w2 ∧ Blk w2 w1.heap.size 54 [.int .i64 0, .int .i64 0, .slice none 0 0] ∧ w.heap.size ≤ w1.heap.size ∧ M ≤ w1.heap.size)
section
variable {w W W' : World} {M b g cap : Nat} {C I : Int} {A : Option Addr} {n c : Nat} {l : List UInt8} {o : LOpts}
theorem EI.nine (h : EI w W M b g cap C I A n c l o) : S9 W b (w.heap.size + 1) C I (.slice (some ⟨g, 0, none⟩) n cap) o := ⟨h.q, h.m⟩
theorem echo_at (h : EI w W M b g cap C I A n c l o) (hl : l.length = n) (hn : n ≤ 140737488351232) (ho : 0 ≤ o.magic ∧ o.magic < 4294967296) (bs : Nat) (hb : bs ≤ W.heap.size) (hM : M ≤ bs) (Ex : World → Prop) (hEx : ∀ w2, Below W.heap.size W w2 → Ex w2) :
    Calls Try.prog 55 #[.agg #[.int .i64 C, .int .i64 I, .slice (some ⟨g, 0, none⟩) n cap], .agg #[.int .i64 o.mru, .int .i64 o.accm, .int .i64 o.auth, .int .u32 o.magic, .bool o.pfc, .bool o.acfc]] W fun e w2 => ER w M b g cap C I A n c l o bs e w2 ∧ Ex w2 := by
  refine (echo_any C I o _ n cap W.heap.size l W ho (h.lentRd hl) (Nat.le_refl _) (fun e => by cases e) h.fits hn).mono ?_
  rintro e w2 ⟨D, k, d, rfl, hown, hB⟩
  have h2 := h.later hB
  exact ⟨⟨_, _, D, k, d, _, _, rfl, h2.nine, h2, hown.base_le hb, hM, by have := hB.size; omega, rfl, rfl, rfl, rfl⟩, hEx w2 hB⟩
theorem eg (h : EI w W M b g cap C I A n c l o) (hl : l.length = n) (hn : n ≤ 140737488351232) (ho : 0 ≤ o.magic ∧ o.magic < 4294967296) (Ex : World → Prop) (hEx : ∀ w2, Below W.heap.size W w2 → Ex w2) : EG w W M b g cap C I A n c l o Ex := by
  refine (given_any o W).mono ?_
  rintro e w1 ⟨rfl, hB⟩
  have h1 := h.later hB
  have s1 := hB.size
  have h4 := h.m4
  refine ⟨rfl, h1.nine, echo_at h1 hl hn ho W.heap.size s1 h4 Ex (fun w2 hB2 => hEx w2 (hB.trans (hB2.mono s1))), ?_⟩
  have BA : Below w1.heap.size w1 (w1.alloc (.cells #[.int .i64 0, .int .i64 0, .slice none 0 0] 54)) := (Below.refl _ _).alloc (Nat.le_refl _) _
  have kn := blk_new w1 54 [.int .i64 0, .int .i64 0, .slice none 0 0]
  have h5 := h.bel.size
  exact echo_at (h1.later BA) hl hn ho (w1.heap.size + 1) (by simp) (by omega) (fun w2 => Blk w2 w1.heap.size 54 [.int .i64 0, .int .i64 0, .slice none 0 0] ∧ w.heap.size ≤ w1.heap.size ∧ M ≤ w1.heap.size) (fun w2 hB2 => ⟨(hB2.block _ kn.lt).trans kn, by omega, by omega⟩)
theorem EI.drewn (h : EI w W M b g cap C I A n c l o) (k : Nat) : EI w (W.drewN k) M b g cap C I A n c l o := h.kept (fun i _ => rfl) (below_drewN h.bel k) (Nat.le_refl _)
theorem eg_alloc (h : EI w W M b g cap C I A n c l o) (hl : l.length = n) (hn : n ≤ 140737488351232) (ho : 0 ≤ o.magic ∧ o.magic < 4294967296) :
    EG w (W.alloc (.cells #[.int .i64 0, .int .i64 0, .slice none 0 0] 54)).drew M b g cap C I A n c l o (fun w2 => Blk w2 W.heap.size 54 [.int .i64 0, .int .i64 0, .slice none 0 0]) := by
  have BA : Below W.heap.size W (W.alloc (.cells #[.int .i64 0, .int .i64 0, .slice none 0 0] 54)) := (Below.refl _ _).alloc (Nat.le_refl _) _
  have kn := blk_new W 54 [.int .i64 0, .int .i64 0, .slice none 0 0]
  exact eg ((h.later BA).drewn 1) hl hn ho _ (fun w2 hB2 => (hB2.block _ kn.lt).trans kn)
theorem set3_blk {W : World} {z t : Nat} {u : List Value} (h : Blk W z t u) (hl : u.length = 3) (a b c : Value) : Blk (set3 W z a b c) z t [a, b, c] := by
  match u, hl with
  | [x0, x1, x2], _ =>
    unfold set3
    exact ((h.set_ 0 a).set_ 1 b).set_ 2 c
/-- laid out in front of Echo -/
theorem fin_set (h : EI w W M b g cap C I A n c l o) {z : Nat} {D : Option Addr} {k d : Nat} (hz : Blk W z 54 [.int .i64 0, .int .i64 0, .slice none 0 0]) (hM : M ≤ z) (hown : Own W (z + 1) (.slice D k d) (ecV C I o.magic l).2.2.1) :
    Fin w (set3 W z (.int .i64 (ecV C I o.magic l).1) (.int .i64 (ecV C I o.magic l).2.1) (.slice D k d)) M b g cap C I A n c l o z D k d := by
  have G := set3_grown W z (.int .i64 (ecV C I o.magic l).1) (.int .i64 (ecV C I o.magic l).2.1) (.slice D k d)
  have K := set3_blk hz rfl (.int .i64 (ecV C I o.magic l).1) (.int .i64 (ecV C I o.magic l).2.1) (.slice D k d)
  have O := set3_own hown (.int .i64 (ecV C I o.magic l).1) (.int .i64 (ecV C I o.magic l).2.1) (.slice D k d)
  have hs := G.size
  exact ⟨h.grown G (fun q e => by injection e; omega), PkC.of K, K.lt, z, hM, by have := hz.lt; omega, O⟩
/-- .. behind it -/
theorem fin_alloc (h : EI w W M b g cap C I A n c l o) {D : Option Addr} {k d base : Nat} (hM : M ≤ base) (hb : base ≤ W.heap.size) (hown : Own W base (.slice D k d) (ecV C I o.magic l).2.2.1) :
    Fin w (W.alloc (.cells #[.int .i64 (ecV C I o.magic l).1, .int .i64 (ecV C I o.magic l).2.1, .slice D k d] 54)) M b g cap C I A n c l o W.heap.size D k d := by
  have BA : Below W.heap.size W (W.alloc (.cells #[.int .i64 (ecV C I o.magic l).1, .int .i64 (ecV C I o.magic l).2.1, .slice D k d] 54)) := (Below.refl _ _).alloc (Nat.le_refl _) _
  exact ⟨h.later BA, PkC.of (blk_new W _ _), by simp, base, hM, by simp; omega, hown.alloc _⟩
end
/-- the bytes are lent, the packet is copied -/
def EcH (w : World) (C I : Int) (A : Option Addr) (n c : Nat) (l : List UInt8) (o : LOpts) : Prop :=
  Calls Try.prog 54 #[.slice A n c] ((w.alloc (.cells #[.int .i64 C, .int .i64 I, .slice A n c] 54)).alloc (.cells #[.int .i64 o.mru, .int .i64 o.accm, .int .i64 o.auth, .int .u32 o.magic, .bool o.pfc, .bool o.acfc] 74)) fun e w3 => ∃ g cap W4, e = .returned (.slice (some ⟨g, 0, none⟩) n cap) ∧ PkC w3 w.heap.size C I (.slice A n c) ∧
    w3.alloc (.cells #[.int .i64 C, .int .i64 I, .slice (some ⟨g, 0, none⟩) n cap] 54) = W4 ∧ EI w W4 (w3.heap.size + 1) w3.heap.size g cap C I A n c l o
theorem ech (w : World) (C I : Int) (A : Option Addr) (n c : Nat) (l : List UInt8) (o : LOpts) (ha : PArg w A n c l) : EcH w C I A n c l o := by
  obtain ⟨hr, hnil, hnc, hn⟩ := ha
  have k1 := blk_new w 54 [.int .i64 C, .int .i64 I, .slice A n c]
  obtain ⟨V1, hV1⟩ : ∃ V, V = w.alloc (.cells #[.int .i64 C, .int .i64 I, .slice A n c] 54) := ⟨_, rfl⟩
  have t1 : V1.heap.size = w.heap.size + 1 := by rw [hV1]; simp
  have k1' : Blk V1 w.heap.size 54 [.int .i64 C, .int .i64 I, .slice A n c] := by rw [hV1]; exact k1
  have B1 : Below w.heap.size w V1 := by rw [hV1]; exact (Below.refl _ _).alloc (Nat.le_refl _) _
  unfold EcH
  rw [← hV1]
  have B2 : Below V1.heap.size V1 (V1.alloc (.cells #[.int .i64 o.mru, .int .i64 o.accm, .int .i64 o.auth, .int .u32 o.magic, .bool o.pfc, .bool o.acfc] 74)) := (Below.refl _ _).alloc (Nat.le_refl _) _
  have m2 := cells6_new V1 74 o
  have t2 : (V1.alloc (.cells #[.int .i64 o.mru, .int .i64 o.accm, .int .i64 o.auth, .int .u32 o.magic, .bool o.pfc, .bool o.acfc] 74)).heap.size = V1.heap.size + 1 := by simp
  generalize V1.alloc (.cells #[.int .i64 o.mru, .int .i64 o.accm, .int .i64 o.auth, .int .u32 o.magic, .bool o.pfc, .bool o.acfc] 74) = V2 at B2 m2 t2 ⊢
  rw [t1] at m2
  have k2 : Blk V2 w.heap.size 54 [.int .i64 C, .int .i64 I, .slice A n c] := (B2.block _ k1'.lt).trans k1'
  have B02 := B1.trans (B2.mono (by omega))
  refine (lent_any A n c l V2 ((hr.below B02).wide B02.size) hnil (by omega)).mono ?_
  rintro e w3 ⟨g, cap, rfl, hown, hB⟩
  have k3 : Blk w3 w.heap.size 54 [.int .i64 C, .int .i64 I, .slice A n c] := (hB.block _ k2.lt).trans k2
  have m3 := cells6_later m2 (by omega) hB
  have s3 := hB.size
  have hg := hown.block g rfl
  have BA : Below w3.heap.size w3 (w3.alloc (.cells #[.int .i64 C, .int .i64 I, .slice (some ⟨g, 0, none⟩) n cap] 54)) := (Below.refl _ _).alloc (Nat.le_refl _) _
  refine ⟨g, cap, _, rfl, PkC.of k3, rfl, ?_⟩
  exact ⟨(PkC.of k3).later k3.lt BA, cells6_later m3 (by omega) BA, PkC.of (blk_new w3 _ _), (hown.alloc _).base_le (by omega), B02.trans ((hB.trans (BA.mono s3)).mono B02.size), by omega, by omega, by omega, by simp⟩
theorem lcpechoes_walk (C I code magic : Int) (A : Option Addr) (n c : Nat) (l : List UInt8) (o : LOpts) (w : World) (ha : PArg w A n c l) (hw : o.wf) (hm0 : 0 ≤ magic) (hm1 : magic < 4294967296) :
    Calls Try.prog 9 #[.agg #[.int .i64 C, .int .i64 I, .slice A n c], o.val, .int .i64 code, .int .u32 magic] w fun e w' => e = .returned (.bool true) ∧ Below w.heap.size w w' := by
  have hmg := hw.2.2.2
  have hl := ha.1.1
  have hn := Nat.le_trans ha.2.2.1 ha.2.2.2
  have H := Lib.hid (ech w C I A n c l o ha)
  unfold EcH at H
  have HA := Lib.hid ha
  unfold LOpts.val
  clear ha
  go_enter Try.func9, Try.ntmps9
  go_upto_region 4 with (go_at_call 54; ((with_reducible refine H.out.mono ?_); rintro e w3 ⟨g, cap, W4, rfl, ⟨q0, q1, q2⟩, hw4, hei⟩; have HW := Lib.hid hw4; have HE := Lib.hid hei; clear hw4 hei))
  rw [HW.out]
  have G1a : EG w W4.drew (w3.heap.size + 1) w3.heap.size g cap C I A n c l o (fun _ => True) := eg (HE.out.drewn 1) hl hn hmg _ (fun _ _ => trivial)
  have G2a : EG w (W4.alloc (.cells #[.int .i64 0, .int .i64 0, .slice none 0 0] 54)).drew (w3.heap.size + 1) w3.heap.size g cap C I A n c l o (fun w2 => Blk w2 W4.heap.size 54 [.int .i64 0, .int .i64 0, .slice none 0 0]) := eg_alloc HE.out hl hn hmg
  unfold EG ER S9 PkC cells6 at G1a G2a
  have G1 := Lib.hid G1a
  have G2 := Lib.hid G2a
  obtain ⟨⟨a1, a2, a3⟩, ⟨a4, a5, a6, a7, a8, a9⟩⟩ := HE.out.nine
  have t0 := World.new_ne W4 _ a1
  have t00 := World.new_ne W4 _ a4
  clear G1a G2a
  go_cut [11, 12, 13] from 25 (fun v11 v12 v13 W => ∃ a D k d, v11 = .pointer (some ⟨a, 0, none⟩) ∧ v12 = .bool (ecV C I o.magic l).2.2.2.1 ∧ v13 = .int .i64 (ecV C I o.magic l).2.2.2.2 ∧ Fin w W (w3.heap.size + 1) w3.heap.size g cap C I A n c l o a D k d)
  case first =>
    go_region_held3 (fun w' => w'.cell? ⟨w3.heap.size, 0, none⟩ = some (.int .i64 C) ∧ w'.cell? ⟨w3.heap.size, 1, none⟩ = some (.int .i64 I) ∧ w'.cell? ⟨w3.heap.size, 2, none⟩ = some (.slice (some ⟨g, 0, none⟩) n cap) ∧ w'.cell? ⟨w.heap.size + 1, 0, none⟩ = some (.int .i64 o.mru) ∧ w'.cell? ⟨w.heap.size + 1, 1, none⟩ = some (.int .i64 o.accm) ∧ w'.cell? ⟨w.heap.size + 1, 2, none⟩ = some (.int .i64 o.auth) ∧ w'.cell? ⟨w.heap.size + 1, 3, none⟩ = some (.int .u32 o.magic) ∧ w'.cell? ⟨w.heap.size + 1, 4, none⟩ = some (.bool o.pfc) ∧ w'.cell? ⟨w.heap.size + 1, 5, none⟩ = some (.bool o.acfc)) (go_keep) (first
      | (go_at_call 40; (with_reducible refine G1.out.mono ?_); rintro e w1 ⟨rfl, ⟨⟨b1, b2, b3⟩, b4, b5, b6, b7, b8, b9⟩, e1, e2⟩; have E1 := Lib.hid e1; have E2 := Lib.hid e2; have t1 := World.new_ne w1 _ b1; have t4 := World.new_ne w1 _ b4; clear e1 e2)
      | (go_at_call 40; (with_reducible refine G2.out.mono ?_); rintro e w1 ⟨rfl, ⟨⟨b1, b2, b3⟩, b4, b5, b6, b7, b8, b9⟩, e1, -⟩; have E3 := Lib.hid e1; clear e1)
      | (go_at_call 55; (with_reducible refine E1.out.mono ?_); rintro e w2 ⟨⟨P1, P2, D, k, d, ok, E, rfl, ⟨⟨c1, c2, c3⟩, c4, c5, c6, c7, c8, c9⟩, h2⟩, hx⟩; have H2 := Lib.hid h2; have u1 := World.new_ne w2 _ c1; have u4 := World.new_ne w2 _ c4; clear h2)
      | (go_at_call 55; (with_reducible refine E2.out.mono ?_); rintro e w2 ⟨⟨P1, P2, D, k, d, ok, E, rfl, ⟨⟨c1, c2, c3⟩, c4, c5, c6, c7, c8, c9⟩, h2⟩, hx⟩; have H2 := Lib.hid h2; have u1 := World.new_ne w2 _ c1; have u4 := World.new_ne w2 _ c4; clear h2; obtain ⟨hx, hx3⟩ := hx; have HX3 := Lib.hid hx3; clear hx3; have x0 := hx.cell 0; have x1 := hx.cell 1; have x2 := hx.cell 2; have f0 := hx.frozen 0; have f1 := hx.frozen 1; have f2 := hx.frozen 2; have HX := Lib.hid hx; clear hx)
      | (go_at_call 55; (with_reducible refine E3.out.mono ?_); rintro e w2 ⟨⟨P1, P2, D, k, d, ok, E, rfl, ⟨⟨c1, c2, c3⟩, c4, c5, c6, c7, c8, c9⟩, h2⟩, hx⟩; have H2 := Lib.hid h2; have u1 := World.new_ne w2 _ c1; have u4 := World.new_ne w2 _ c4; clear h2; have x0 := hx.cell 0; have x1 := hx.cell 1; have x2 := hx.cell 2; have f0 := hx.frozen 0; have f1 := hx.frozen 1; have f2 := hx.frozen 2; have HX := Lib.hid hx; clear hx))
    all_goals
      go_wp2_with fail
      go_meet
      case rel =>
        obtain ⟨hei, hown, hM, hb, rfl, rfl, rfl, rfl⟩ := H2.out
        first
          | exact ⟨_, D, k, d, rfl, rfl, rfl, fin_alloc hei hM hb hown⟩
          | exact ⟨_, D, k, d, rfl, rfl, rfl, fin_set hei HX.out HX3.out.2 hown⟩
          | exact ⟨_, D, k, d, rfl, rfl, rfl, fin_set hei HX.out HE.out.m4 (hown.base_le (by show _ ≤ (W4.alloc _).heap.size; simp))⟩
  case rest =>
    obtain ⟨a, D, k, d, rfl, rfl, rfl, hei, hq, haW, base, hM, hb, hown⟩ := hcut
    have N0 := ec3 hei HA.out code magic hm0 hm1 hmg a base D k d hq haW hM hb hown
    obtain ⟨⟨p0, p1, p2⟩, ⟨m0, m1, m2, m3, m4, m5⟩⟩ := And.intro hei.p hei.m
    obtain ⟨r0, r1, r2⟩ := hq
    clear hei haW hM hb hown H HE HW G1 G2 a1 a2 a3 a4 a5 a6 a7 a8 a9 t0 t00
    generalize ecV C I o.magic l = x at *
    obtain ⟨P1, P2, L, ok, E⟩ := x
    simp only at *
    unfold EC3 EC4 EC5 EC6 PkC at N0
    have N := Lib.hid N0
    clear N0
    go_wp2_with (first
      | (go_at_call 56; ((with_reducible refine N.out.mono ?_); rintro e w5 ⟨F, f, W5, rfl, hw5, ⟨s0, s1, s2⟩, ⟨s3, s4, s5⟩, n1⟩; have HW5 := Lib.hid hw5; have N1 := Lib.hid n1; clear hw5 n1))
      | (rw [HW5.out])
      | (go_at_call 29; ((with_reducible refine N1.out.mono ?_); rintro e w6 ⟨rfl, ⟨s6, s7, s8⟩, n2⟩; have N2 := Lib.hid n2; clear n2))
      | (go_at_call 51; ((with_reducible refine N2.out.mono ?_); rintro e w7 ⟨rfl, ⟨s9, s10, s11⟩, n3⟩; have N3 := Lib.hid n3; clear n3))
      | (go_at_call 57; ((with_reducible refine N3.out.mono ?_); rintro e w8 ⟨P3, P4, D2, k2, d2, E2, W8, rfl, hw8, ⟨y0, y1, y2⟩, n4⟩; have HW8 := Lib.hid hw8; have N4 := Lib.hid n4; clear hw8 n4))
      | (rw [HW8.out])
      | (go_at_call 58; ((with_reducible refine N4.out.mono ?_); rintro e w9 ⟨F2, f2, W9, rfl, hw9, ⟨y3, y4, y5⟩, ⟨y6, y7, y8⟩, n5⟩; have HW9 := Lib.hid hw9; have N5 := Lib.hid n5; clear hw9 n5))
      | (rw [HW9.out])
      | (go_at_call 29; ((with_reducible refine N5.out.mono ?_); rintro e w10 ⟨rfl, ⟨z0, z1, z2⟩, n6⟩; have N6 := Lib.hid n6; clear n6))
      | (go_at_call 51; ((with_reducible refine N6.out.mono ?_); rintro e w11 ⟨rfl, ⟨z3, z4, z5⟩, n7⟩; have N7 := Lib.hid n7; clear n7))
      | (go_at_call 59; ((with_reducible refine N7.out.mono ?_); rintro e w12 ⟨N8, J, rfl, ⟨z6, z7, z8⟩, n8⟩; have M8 := Lib.hid n8; clear n8))
      | (go_at_call 60; ((with_reducible refine M8.out.mono ?_); rintro e w13 ⟨rfl, ⟨z9, z10, z11⟩, n9⟩; have M9 := Lib.hid n9; clear n9))
      | (go_at_call 61; ((with_reducible refine M9.out.mono ?_); rintro e w14 ⟨rfl, n10⟩; have M10 := Lib.hid n10; clear n10))
      | (go_at_call 38; ((with_reducible refine M10.out.mono ?_); rintro e w15 ⟨rfl, hb⟩; have HB := Lib.hid hb; clear hb)))
    go_ret
    exact ⟨rfl, HB.out⟩
end Go.Proofs.Ytonbdcajepmgbaa
