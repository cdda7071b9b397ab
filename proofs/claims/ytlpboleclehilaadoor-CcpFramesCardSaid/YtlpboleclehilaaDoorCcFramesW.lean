/-
  CcpFrames: the law's calls, and its walk.
-/
import Derived.Test.YtlpboleclehilaaDoorCcAwake
import Derived.Test.YtlpboleclehilaaDoorCcRFrame
namespace Go.Proofs.YtlpboleclehilaaDoor
open Go.RowKit
set_option maxRecDepth 100000
set_option maxHeartbeats 8000000
set_option linter.unusedSimpArgs false
set_option linter.unusedVariables false

/-- what stays while the told frame's bytes are written over -/
structure FJ (w V : World) (zu b4 : Nat) (Q : Int) (U : Option Addr) (nU cU : Nat) (X : Option Addr) (n1 : Nat) (L : List UInt8) (g n : Nat) (l : List UInt8) (A : Option Addr) (P : Int) (D : Option Addr) (m d : Nat) (lf : List UInt8) : Prop where
  own : ∃ cs, V.ownsRow b4 5 1 (.slice U nU cU) nU cs
  box : Blk V zu 53 [.int .i64 Q, .slice U nU cU]
  bel : Below w.heap.size w V
  rx : Rd V b4 X n1 L
  rg : Rd V b4 (some ⟨g, 0, none⟩) (n + 1) (l ++ [77])
  rb : Rd V b4 A n l
  rf : Rd V b4 D m lf
  bf : Blk V w.heap.size 53 [.int .i64 P, .slice D m d]
  lo : w.heap.size < b4
  hi : b4 ≤ V.heap.size
  sm : nU ≤ 140737488355328
section
variable {w V : World} {zu b4 : Nat} {Q : Int} {U : Option Addr} {nU cU : Nat} {X : Option Addr} {n1 : Nat} {L : List UInt8} {g n : Nat} {l : List UInt8} {A : Option Addr} {P : Int} {D : Option Addr} {m d : Nat} {lf : List UInt8}
theorem FJ.cell (h : FJ w V zu b4 Q U nU cU X n1 L g n l A P D m d lf) (k : Nat) (hk : k < nU) : ∃ q, U = some ⟨q, 0, none⟩ ∧ (∃ v, V.cell? ⟨q, k, none⟩ = some v) ∧ V.frozen? ⟨q, k, none⟩ = false ∧ nU ≤ cU := by
  obtain ⟨cs, ho⟩ := h.own
  have h1 := ho.1
  rcases ho.2 with ⟨e, h0⟩ | ⟨q, cap, cur, e, hb, hg, hn, _⟩
  · omega
  · injection e with e1 e2 e3
    subst e1 e3
    refine ⟨q, rfl, ⟨_, (World.ownsRow.cellAt ho k (by omega)).trans (List.getElem?_eq_getElem (by omega))⟩, World.ownsRow.frozenAt ho k, hn⟩
theorem FJ.write {q : Nat} (h : FJ w V zu b4 Q (some ⟨q, 0, none⟩) nU cU X n1 L g n l A P D m d lf) (k : Nat) (v : Value) : FJ w (V.setCell ⟨q, k, none⟩ v) zu b4 Q (some ⟨q, 0, none⟩) nU cU X n1 L g n l A P D m d lf := by
  obtain ⟨cs, ho⟩ := h.own
  obtain ⟨h1, h2⟩ := World.ownsRow.stored ho k v
  have hq := (World.ownsRow.lt ho q rfl).1
  have hrow : ∀ p, some q = some p → b4 ≤ p := fun p e => by injection e; omega
  have hne : zu ≠ q := by
    intro e
    subst e
    rcases ho.2 with ⟨e, _⟩ | ⟨q', cap, cur, e, _, hg, _⟩
    · cases e
    · simp only [Value.slice.injEq, Option.some.injEq, Addr.mk.injEq, and_true, true_and] at e
      obtain ⟨rfl, rfl⟩ := e
      have hb := h.box
      unfold Blk at hb
      rw [hb] at hg
      injection hg with hg
      injection hg with e1 e2 e3
      exact absurd e2 (by decide)
  have hi := h.hi
  have lo := h.lo
  refine ⟨⟨_, h1⟩, (h2.block _ (Blk.lt h.box) (fun e => hne (by injection e))).trans h.box, h.bel.grown h2 (by omega) (fun p e => by have := hrow p e; omega), h.rx.grown h2 hi hrow, h.rg.grown h2 hi hrow, h.rb.grown h2 hi hrow, h.rf.grown h2 hi hrow, (h2.block _ (Blk.lt h.bf) (fun e => by injection e; omega)).trans h.bf, lo, by have := h2.size; omega, h.sm⟩
theorem FJ.drewN (h : FJ w V zu b4 Q U nU cU X n1 L g n l A P D m d lf) (k : Nat) : FJ w (V.drewN k) zu b4 Q U nU cU X n1 L g n l A P D m d lf := ⟨h.own, h.box, below_drewN h.bel k, h.rx, h.rg, h.rb, h.rf, h.bf, h.lo, h.hi, h.sm⟩
end
theorem frL_len (l : List UInt8) : (frL l).length ≤ l.length := by
  unfold frL
  split
  · rw [List.length_drop]; omega
  · simp
/-- the law's calls, one behind the other -/
def FgC (w W1 : World) (P : Int) (D : Option Addr) (m d : Nat) (lf : List UInt8) (A : Option Addr) (n c : Nat) (l : List UInt8) : Prop :=
  Calls Tryd.prog 21 #[.agg #[.int .i64 P, .slice D m d]] W1 fun e w1 => ∃ X n1 c1, e = .returned (.tuple #[.slice X n1 c1, .int .i64 (btE P lf.length)]) ∧ n1 ≤ c1 ∧ (X = none → c1 = 0) ∧ (w1.cell? ⟨w.heap.size, 0, none⟩ = some (.int .i64 P) ∧ w1.cell? ⟨w.heap.size, 1, none⟩ = some (.slice D m d)) ∧
    Hid (Calls Tryd.prog 22 #[.agg #[.int .i64 P, .slice D m d]] w1 fun e w2 => ∃ Y n2 c2, e = .returned (.tuple #[.slice Y n2 c2, .int .i64 (btE P lf.length)]) ∧
      ∃ v3 w3, Hid ((Builtin.append_ #[51, 51] 51 #[.slice none 0 0, .slice A n c]).run Tryd.prog w2 = .ok v3 w3) ∧ ∃ g cap w4, Hid ((Builtin.append_ #[51, 51] 51 #[v3, .slice (some ⟨w3.heap.size, 0, none⟩) 1 1]).run Tryd.prog (w3.alloc (.cells #[.int .u8 77] 5)) = .ok (.slice (some ⟨g, 0, none⟩) (n + 1) cap) w4) ∧ n + 1 ≤ cap ∧
        Hid (Calls Tryd.prog 23 #[.slice (some ⟨g, 0, none⟩) n cap] w4 fun e w5 => ∃ U nU cU, e = .returned (.tuple #[.agg #[.int .i64 (frQ l), .slice U nU cU], .int .i64 (frE l)]) ∧
          Hid (Calls Tryd.prog 24 #[.slice A n c] (w5.alloc (.cells #[.int .i64 (frQ l), .slice U nU cU] 53)) fun e w6 => ∃ V' nV cV, e = .returned (.tuple #[.agg #[.int .i64 (frQ l), .slice V' nV cV], .int .i64 (frE l)]) ∧
            ∃ w7, Hid (w6.alloc (.cells #[.int .i64 (frQ l), .slice V' nV cV] 53) = w7) ∧ (w7.cell? ⟨w5.heap.size, 0, none⟩ = some (.int .i64 (frQ l)) ∧ w7.cell? ⟨w5.heap.size, 1, none⟩ = some (.slice U nU cU) ∧ w7.cell? ⟨w6.heap.size, 0, none⟩ = some (.int .i64 (frQ l)) ∧ w7.cell? ⟨w6.heap.size, 1, none⟩ = some (.slice V' nV cV)) ∧
              ((convert 51 9 (.slice X n1 c1)).run Tryd.prog w7 = .ok (.string (strOf (btL P lf))) w7 ∧ (convert 51 9 (.slice Y n2 c2)).run Tryd.prog w7 = .ok (.string (strOf (btL P lf))) w7) ∧
              Hid (Calls Tryd.prog 25 #[.agg #[.int .i64 (frQ l), .slice U nU cU], .agg #[.int .i64 (frQ l), .slice V' nV cV]] w7 fun e w8 => e = .returned (.bool true) ∧ w8.cell? ⟨w5.heap.size, 1, none⟩ = some (.slice U nU cU) ∧
                Hid (FJ w w8 w5.heap.size w4.heap.size (frQ l) U nU cU X n1 (btL P lf) g n l A P D m d lf)))))
theorem fg_c {w W1 : World} {P : Int} {D : Option Addr} {m d : Nat} {lf : List UInt8} {A : Option Addr} {n c : Nat} {l : List UInt8} (hW : w.alloc (.cells #[.int .i64 P, .slice D m d] 53) = W1) (hf : Rd w w.heap.size D m lf) (hD : D = none → d = 0) (hmd : m ≤ d) (hm : m ≤ 140737488351232)
    (hb : Rd w w.heap.size A n l) (hA : A = none → c = 0) (hnc : n ≤ c) (hn : n ≤ 140737488351232) : FgC w W1 P D m d lf A n c l := by
  have k1 : Blk W1 w.heap.size 53 [.int .i64 P, .slice D m d] := by rw [← hW]; exact blk_new w _ _
  have B1 : Below w.heap.size w W1 := by rw [← hW]; exact (Below.refl _ _).alloc (Nat.le_refl _) _
  have s1 : W1.heap.size = w.heap.size + 1 := by rw [← hW]; simp
  clear hW
  unfold FgC
  refine (bytes_any P D m d w.heap.size lf W1 (hf.below B1) (by omega) hD hmd hm).mono ?_
  rintro e w1 ⟨X, n1, c1, rfl, hx, hX, hn1, b1⟩
  have t1 := b1.size
  have C1 := B1.trans (b1.mono (by omega))
  have kf1 : Blk w1 w.heap.size 53 [.int .i64 P, .slice D m d] := (b1.block _ (by omega)).trans k1
  refine ⟨X, n1, c1, rfl, hn1, hX, ⟨kf1.cell 0, kf1.cell 1⟩, Lib.hid ?_⟩
  refine (rbytes_any P D m d w.heap.size lf w1 (hf.below C1) C1.size hD hmd hm).mono ?_
  rintro e w2 ⟨Y, n2, c2, rfl, hy, hY, hn2, b2⟩
  have t2 := b2.size
  have C2 := C1.trans (b2.mono (by omega))
  have hl := hb.1
  obtain ⟨v3, w3, r3, o3, g3, q3⟩ := append_run (Own.nil w2 w2.heap.size) c (hb.below C2) hA (by simp; omega) (Nat.le_refl _)
  have b3 : Below w2.heap.size w2 w3 := (Below.refl _ _).grown g3 (Nat.le_refl _) (by simp [Value.ownBlock])
  obtain ⟨v4, w4, r4, o4, g4, q4⟩ := append_run (o3.alloc (.cells #[.int .u8 77] 5)) 1 (rd_one w3 77 77 rfl) (by simp) (by simp; omega) (by have := b3.size; simp; omega)
  have b4 : Below w2.heap.size w2 w4 := (b3.alloc b3.size _).grown g4 (by have := b3.size; simp; omega) (fun k hk => (o3.block k hk).1)
  rw [List.nil_append] at o4
  have hv4 : ∃ g cap, v4 = .slice (some ⟨g, 0, none⟩) (n + 1) cap ∧ n + 1 ≤ cap := by
    rcases o4.2 with ⟨_, e⟩ | ⟨g, cap, cur, e, _, _, h1, _⟩
    · simp at e
    · refine ⟨g, cap, ?_, ?_⟩
      · rw [e]
        simp [hl]
      · simpa [hl] using h1
  obtain ⟨g, cap, rfl, hcap⟩ := hv4
  have t4 := b4.size
  have C4 := C2.trans (b4.mono (by omega))
  refine ⟨Y, n2, c2, rfl, v3, w3, Lib.hid r3, g, cap, w4, Lib.hid r4, hcap, Lib.hid ?_⟩
  have hlen : n + 1 = (l ++ [77]).length := by simp [hl]
  have rg := o4.rd hlen (n + 1) (Nat.le_refl _)
  rw [List.take_of_length_le (by omega)] at rg
  have rgn := o4.rd hlen n (by omega)
  rw [List.take_append_of_le_length (by omega), List.take_of_length_le (by omega)] at rgn
  refine (frame_any (some ⟨g, 0, none⟩) n cap w4.heap.size l w4 rgn (Nat.le_refl _) (by omega) (fun e => by cases e) (by omega)).mono ?_
  rintro e w5 ⟨U, nU, cU, rfl, ou, b5⟩
  have t5 := b5.size
  have C5 := C4.trans (b5.mono (by omega))
  refine ⟨U, nU, cU, rfl, Lib.hid ?_⟩
  obtain ⟨w5', hw5⟩ : ∃ V, w5.alloc (.cells #[.int .i64 (frQ l), .slice U nU cU] 53) = V := ⟨_, rfl⟩
  have ku5 : Blk w5' w5.heap.size 53 [.int .i64 (frQ l), .slice U nU cU] := by rw [← hw5]; exact blk_new w5 _ _
  have b5' : Below w5.heap.size w5 w5' := by rw [← hw5]; exact (Below.refl _ _).alloc (Nat.le_refl _) _
  have t5' : w5'.heap.size = w5.heap.size + 1 := by rw [← hw5]; simp
  rw [hw5]
  have C5' := C5.trans (b5'.mono (by omega))
  refine (rframe_any A n c w.heap.size l w5' (hb.below C5') C5'.size hnc hA (by omega)).mono ?_
  rintro e w6 ⟨V', nV, cV, rfl, rv, hV, hnV, b6⟩
  have t6 := b6.size
  have C6 := C5'.trans (b6.mono (by omega))
  obtain ⟨w7, hw7⟩ : ∃ V, w6.alloc (.cells #[.int .i64 (frQ l), .slice V' nV cV] 53) = V := ⟨_, rfl⟩
  have kv7 : Blk w7 w6.heap.size 53 [.int .i64 (frQ l), .slice V' nV cV] := by rw [← hw7]; exact blk_new w6 _ _
  have b7 : Below w6.heap.size w6 w7 := by rw [← hw7]; exact (Below.refl _ _).alloc (Nat.le_refl _) _
  have t7 := b7.size
  have C7 := C6.trans (b7.mono (by omega))
  have b57 : Below w5'.heap.size w5' w7 := b6.trans (b7.mono (by omega))
  have ku7 : Blk w7 w5.heap.size 53 [.int .i64 (frQ l), .slice U nU cU] := (b57.block _ (by omega)).trans ku5
  have b47 : Below w4.heap.size w4 w7 := b5.trans ((b5'.mono (by omega)).trans (b57.mono (by omega)))
  have b27 : Below w2.heap.size w2 w7 := b4.trans (b47.mono (by omega))
  have b17 : Below w1.heap.size w1 w7 := b2.trans (b27.mono (by omega))
  have hx7 := hx.below b17
  have hy7 := hy.below b27
  have ou7 : Own w7 w4.heap.size (.slice U nU cU) (frL l) := (ou.later b5').later b57
  have hul : nU = (frL l).length := ou7.len.1
  have hvl : (frL l).length = nV := rv.1
  have hnn : nV = nU := by omega
  have ru7 := ou7.rdAll
  have rv7 := rv.below b7
  refine ⟨V', nV, cV, rfl, w7, Lib.hid hw7, ⟨ku7.cell 0, ku7.cell 1, kv7.cell 0, kv7.cell 1⟩, ⟨conv_run hx7 c1, conv_run hy7 c2⟩, Lib.hid ?_⟩
  subst hnn
  refine (fsame_yes (frQ l) U V' nV cU cV w7.heap.size (frL l) w7 ru7 (rv7.wide t7) (Nat.le_refl _)).mono ?_
  rintro e w8 ⟨rfl, b8⟩
  have t8 := b8.size
  have C8 := C7.trans (b8.mono (by omega))
  have ku8 : Blk w8 w5.heap.size 53 [.int .i64 (frQ l), .slice U nV cU] := (b8.block _ (Blk.lt ku7)).trans ku7
  have b48 : Below w4.heap.size w4 w8 := b47.trans (b8.mono (by omega))
  have b18 : Below w1.heap.size w1 w8 := b17.trans (b8.mono (by omega))
  have ou8 := ou7.later b8
  have hown : ∃ cs, w8.ownsRow w4.heap.size 5 1 (.slice U nV cU) nV cs := by
    refine ⟨(frL l).map cellOf, ?_⟩
    have := ou8
    unfold Own at this
    rw [← hul] at this
    exact this
  refine ⟨rfl, ku8.cell 1, Lib.hid ⟨hown, ku8, C8, (hx.below b18).wide (by omega), (rg.below b48), (hb.below C8).wide (by omega), (hf.below C8).wide (by omega), ?_, by omega, b48.size, by rw [hul]; have := frL_len l; omega⟩⟩
  exact (b18.block _ (by omega)).trans kf1
theorem ccpframes_walk (P : Int) (D : Option Addr) (m d : Nat) (lf : List UInt8) (A : Option Addr) (n c : Nat) (l : List UInt8) (w : World) (hf : Rd w w.heap.size D m lf) (hD : D = none → d = 0) (hmd : m ≤ d) (hm : m ≤ 140737488351232)
    (hb : Rd w w.heap.size A n l) (hA : A = none → c = 0) (hnc : n ≤ c) (hn : n ≤ 140737488351232) (hT : TabM w) :
    Calls Tryd.prog 5 #[.agg #[.int .i64 P, .slice D m d], .slice A n c] w fun e w' => e = .returned (.bool true) ∧ Below w.heap.size w w' := by
  obtain ⟨W1, hW1⟩ : ∃ W1, w.alloc (.cells #[.int .i64 P, .slice D m d] 53) = W1 := ⟨_, rfl⟩
  have F := fg_c hW1 hf hD hmd hm hb hA hnc hn
  have k1 : Blk W1 w.heap.size 53 [.int .i64 P, .slice D m d] := by rw [← hW1]; exact blk_new w _ _
  have c0 := k1.cell 0
  have c1 := k1.cell 1
  unfold FgC at F
  have F := Lib.hid F
  have HW := Lib.hid hW1
  have HT := Lib.hid hT
  have HL := Lib.hid hb.1
  have HLF := Lib.hid hf.1
  obtain ⟨E, hE⟩ : ∃ E, btE P lf.length = E := ⟨_, rfl⟩
  have HE := Lib.hid hE
  obtain ⟨L, hL⟩ : ∃ L, btL P lf = L := ⟨_, rfl⟩
  have HLL := Lib.hid hL
  rw [hE, hL] at F
  have q1 : ∀ z : List UInt8, (z != z) = false := by simp
  have q2 : ∀ z : Int, (z != z) = false := by simp
  generalize frQ l = Q at *
  generalize frE l = J at *
  clear hW1 hf hb hT k1 hE hL
  go_enter Tryd.func5, Tryd.ntmps5
  go_upto_region 1 with (fail)
  rw [HW.out]
  clear HW
  go_upto_region 10 with (first
    | (go_at_call 21; ((with_reducible refine F.out.mono ?_); rintro e w1 ⟨X, n1, x1, rfl, hn1, hX, ⟨y0, y1⟩, F1⟩))
    | (go_at_call 22; ((with_reducible refine F1.out.mono ?_); rintro e w2 ⟨Y, n2, x2, rfl, v3, w3, R3, g, cap, w4, R4, hcap, F2⟩))
    | (at_builtin; refine wpList_app rfl (.tmp 27) (.tmp 28) rfl _ _ rfl rfl _ _ R3.out ?_)
    | (at_builtin; refine wpList_app rfl (.tmp 30) (.tmp 31) rfl _ _ rfl rfl _ _ R4.out ?_)
    | (go_at_call 23; ((with_reducible refine F2.out.mono ?_); rintro e w5 ⟨U, nU, cU, rfl, F3⟩))
    | (go_at_call 24; ((with_reducible refine F3.out.mono ?_); rintro e w6 ⟨V', nV, cV, rfl, w7, HW7, ⟨u0, u1, u2, u3⟩, ⟨g0, g1⟩, F4⟩))
    | (rw [HW7.out])
    | (go_at_call 25; ((with_reducible refine F4.out.mono ?_); rintro e w8 ⟨rfl, z1, HJ⟩)))
  clear F F1 F2 F3 F4 R3 R4 HW7 u0 u1 u2 u3 g0 g1
  go_wp2
  go_loopw [70] (fun i wr => ∃ (V : World) (k : Nat), V = wr ∧ k ≤ nU ∧ i = .int .i64 k ∧ Hid (FJ w V w5.heap.size w4.heap.size Q U nU cU X n1 L g n l A P D m d lf)) (fun i _ => nU - (intOf i).toNat)
  case atStart => exact ⟨_, 0, rfl, Nat.zero_le _, rfl, HJ⟩
  case round =>
    clear HJ z1
    obtain ⟨V, k, rfl, hk, rfl, hJ⟩ := hrel
    have z1 : V.cell? ⟨w5.heap.size, 1, none⟩ = some (.slice U nU cU) := hJ.out.box.cell 1
    by_cases hlt : k < nU
    · obtain ⟨q, rfl, ⟨v0, hv0⟩, hfz, hnc'⟩ := hJ.out.cell k hlt
      have hsm := hJ.out.sm
      have HN := Lib.hid (hJ.out.write k (.int .u8 99))
      clear hJ
      go_wp2
      go_roundw
      case rel => exact ⟨_, k + 1, rfl, by omega, by go_num, HN⟩
      case measure => simp [intOf]; omega
    · have hle := hJ.out.hi
      have hlo := hJ.out.lo
      have hn77 : ∀ q, (V.drewN q).cell? ⟨g, n, none⟩ = some (.int .u8 77) := by
        intro q
        obtain ⟨b', off', e', hb', hc'⟩ := hJ.out.rg.2 (by omega)
        injection e' with e'
        injection e' with e1 e2
        subst e1 e2
        have := hc' n (by omega)
        rw [Nat.zero_add] at this
        rw [show byteAt (l ++ [77]) n = 77 by
          rw [byteAt_eq _ _ (by rw [List.length_append, HL.out]; simp)]
          simp [← HL.out]] at this
        exact this
      have hgn : Rd V w4.heap.size (some ⟨g, 0, none⟩) n l := by
        have hr := hJ.out.rg
        refine ⟨HL.out, fun h0 => ?_⟩
        obtain ⟨b', off', e', hb', hc'⟩ := hr.2 (by omega)
        refine ⟨b', off', e', hb', fun j hj => ?_⟩
        rw [hc' j (by omega)]
        congr 2
        rw [byteAt_eq _ _ (by rw [List.length_append, HL.out]; simp; omega), byteAt_eq _ _ (by rw [HL.out]; omega), List.getElem_append_left (by rw [HL.out]; omega)]
      have cv1 : ∀ q, (convert 51 9 (.slice (some ⟨g, 0, none⟩) n cap)).run Tryd.prog (V.drewN q) = .ok (.string (strOf l)) (V.drewN q) := fun q => conv_run (w := V.drewN q) (B := w4.heap.size) hgn cap
      have cv2 : ∀ q, (convert 51 9 (.slice A n c)).run Tryd.prog (V.drewN q) = .ok (.string (strOf l)) (V.drewN q) := fun q => conv_run (w := V.drewN q) (B := w4.heap.size) hJ.out.rb c
      have cv3 := cv1 0
      have cv4 := cv2 0
      have hncap : n ≤ cap := by omega
      have hnlt : (n : Int) < ((n + 1 : Nat) : Int) := by omega
      go_upto_region 15 with (fail)
      go_quiet (fail)
      clear cv1 cv2 cv3 cv4 hn77 hgn
      have J2 := Lib.hid (hJ.out.drewN nq)
      have c0' : (V.drewN nq).cell? ⟨w.heap.size, 0, none⟩ = some (.int .i64 P) := J2.out.bf.cell 0
      have c1' : (V.drewN nq).cell? ⟨w.heap.size, 1, none⟩ = some (.slice D m d) := J2.out.bf.cell 1
      obtain ⟨VV, hVV⟩ : ∃ VV, V.drewN nq = VV := ⟨_, rfl⟩
      rw [hVV] at J2 c0' c1' ⊢
      have AW := Lib.hid (fun (W : World) (h : Below w.heap.size w W) => awake_ccp W (HT.out.below h HT.out.lt))
      clear hJ hVV z1
      by_cases hE0 : E = 0
      · have hbe : btE P lf.length = 0 := HE.out.trans hE0
        obtain ⟨f1, f2, f3⟩ := fr_back hbe
        have hL2 : L = numL P ++ lf := by
          rw [← HLL.out]
          unfold btL
          rw [hbe]
          rfl
        have hQ2 : frQ L = P := by rw [hL2]; unfold frQ; rw [f1, f2]; rfl
        have hF2 : frL L = lf := by rw [hL2]; unfold frL; rw [f1]; exact f3
        have hE2 : frE L = 0 := by rw [hL2]; exact f1
        have hLn : L.length = n1 := J2.out.rx.1
        have hLm : L.length ≤ m + 2 := by
          rw [hL2, List.length_append, HLF.out]
          have := (numL_two P).1
          omega
        have FR : Hid (Calls Tryd.prog 23 #[.slice X n1 x1] VV fun e w9 => ∃ Z z, e = .returned (.tuple #[.agg #[.int .i64 P, .slice Z m z], .int .i64 0]) ∧ ∃ w10, Hid (w9.alloc (.cells #[.int .i64 P, .slice Z m z] 53) = w10) ∧
            (w10.cell? ⟨w9.heap.size, 0, none⟩ = some (.int .i64 P) ∧ w10.cell? ⟨w9.heap.size, 1, none⟩ = some (.slice Z m z) ∧ w10.cell? ⟨w.heap.size, 0, none⟩ = some (.int .i64 P) ∧ w10.cell? ⟨w.heap.size, 1, none⟩ = some (.slice D m d)) ∧
            Hid (Calls Tryd.prog 25 #[.agg #[.int .i64 P, .slice Z m z], .agg #[.int .i64 P, .slice D m d]] w10 fun e w11 => e = .returned (.bool true) ∧ Hid (Below w.heap.size w w11))) := by
          refine (frame_any X n1 x1 w4.heap.size L VV J2.out.rx J2.out.hi hn1 hX (by omega)).mono ?_
          rintro e w9 ⟨Z, mz, z, rfl, oz, b9⟩
          rw [hQ2, hE2]
          rw [hF2] at oz
          have hzl : mz = m := by have := oz.len.1; have := HLF.out; omega
          subst hzl
          have t9 := b9.size
          have C9 := J2.out.bel.trans (b9.mono J2.out.bel.size)
          obtain ⟨w10, hw10⟩ : ∃ V, w9.alloc (.cells #[.int .i64 P, .slice Z mz z] 53) = V := ⟨_, rfl⟩
          have k10 : Blk w10 w9.heap.size 53 [.int .i64 P, .slice Z mz z] := by rw [← hw10]; exact blk_new w9 _ _
          have b10 : Below w9.heap.size w9 w10 := by rw [← hw10]; exact (Below.refl _ _).alloc (Nat.le_refl _) _
          have C10 := C9.trans (b10.mono C9.size)
          have bf9 : Blk w10 w.heap.size 53 [.int .i64 P, .slice D mz d] := (b10.block _ (by have := Blk.lt J2.out.bf; omega)).trans ((b9.block _ (Blk.lt J2.out.bf)).trans J2.out.bf)
          have hb9 : Below VV.heap.size VV w10 := b9.trans (b10.mono t9)
          refine ⟨Z, z, rfl, w10, Lib.hid hw10, ⟨k10.cell 0, k10.cell 1, bf9.cell 0, bf9.cell 1⟩, Lib.hid ?_⟩
          refine (fsame_yes P Z D mz z d w10.heap.size lf w10 ((oz.later b10).rdAll) ((J2.out.rf.below (hb9.mono J2.out.hi)).wide (by have := hb9.size; have := J2.out.hi; omega)) (Nat.le_refl _)).mono ?_
          rintro e w11 ⟨rfl, b11⟩
          exact ⟨rfl, Lib.hid (C10.trans (b11.mono C10.size))⟩
        subst hE0
        clear f1 f2 f3 hL2 hQ2 hF2 hE2 hLn hLm hbe HE
        go_wp2_with (first
          | (go_at_call 23; ((with_reducible refine FR.out.mono ?_); rintro e w9 ⟨Z, z, rfl, w10, HW10, ⟨x0, x1', x2, x3⟩, FS⟩))
          | (rw [HW10.out])
          | (go_at_call 25; ((with_reducible refine FS.out.mono ?_); rintro e w11 ⟨rfl, HB11⟩))
          | (go_at_call 17; ((with_reducible refine (AW.out _ HB11.out).mono ?_); rintro e w12 ⟨rfl, hb12⟩; have HB12 := Lib.hid hb12; clear hb12)))
        go_ret
        exact ⟨rfl, HB11.out.trans (HB12.out.mono HB11.out.size)⟩
      · have eE : (E != 0) = true := by simpa using hE0
        have AV := Lib.hid (AW.out VV J2.out.bel)
        clear hE0
        go_wp2_with (go_at_call 17; ((with_reducible refine AV.out.mono ?_); rintro e w12 ⟨rfl, hb12⟩; have HB12 := Lib.hid hb12; clear hb12))
        go_ret
        exact ⟨rfl, J2.out.bel.trans (HB12.out.mono J2.out.bel.size)⟩
end Go.Proofs.YtlpboleclehilaaDoor
