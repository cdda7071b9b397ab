/-
  CcpEnds: the law's calls, and its walk (gen_ccends.py wrote it).
-/
import Derived.Test.YtlpboleclehilaaDoorCcEndsM
import Derived.Test.YtlpboleclehilaaDoorCcAwake
import Derived.Deep.RegionHeld3
namespace Go.Proofs.YtlpboleclehilaaDoor
open Go.RowKit
set_option maxRecDepth 100000
set_option maxHeartbeats 8000000
set_option linter.unusedSimpArgs false
set_option linter.unusedVariables false

def CRow (W : World) (z : Nat) (cv : Array Value) : Prop := W.heap[z]? = some (.cells cv 25 (0, 0))
theorem CRow.keep {W V : World} {z : Nat} {cv : Array Value} {r : Option Nat} (h : CRow W z cv) (hg : W.grownBy V r) (hr : some z ≠ r) : CRow V z cv := by
  unfold CRow at h ⊢
  rw [hg.block z (Array.getElem?_eq_some_iff.1 h).1 hr]
  exact h
theorem CRow.blk {W : World} {z : Nat} {cs : List Value} (h : CRow W z cs.toArray) : Blk W z 25 cs := h
theorem blk_range {W : World} {z t : Nat} {cs : List Value} (h : Blk W z t cs) : W.rangeAt z 0 cs := by
  intro j v hj
  rw [Nat.zero_add]
  exact (h.cell j).trans hj
/-- what lies in memory between the rounds -/
structure EJ (w V : World) (zo : Nat) (cv0 : Array Value) (cs : List Value) (d b : Int) : Prop where
  r0 : CRow V w.heap.size cv0
  r1 : CRow V (w.heap.size + 1) cs.toArray
  o : Blk V zo 27 (optC d b)
  bel : Below w.heap.size w V
  lo : w.heap.size + 1 < zo
section
variable {w V W : World} {zo : Nat} {cv0 : Array Value} {cs : List Value} {d b : Int}
theorem EJ.on (h : EJ w V zo cv0 cs d b) (hb : Below V.heap.size V W) : EJ w W zo cv0 cs d b :=
  ⟨h.r0.keep (only_of_below hb none) (by simp), h.r1.keep (only_of_below hb none) (by simp), (hb.block _ (Blk.lt h.o)).trans h.o, h.bel.trans (hb.mono h.bel.size), h.lo⟩
theorem EJ.set (h : EJ w V zo cv0 cs d b) (x y : Int) : EJ w ((V.setCell ⟨zo, 0, none⟩ (.int .i64 x)).setCell ⟨zo, 1, none⟩ (.int .i64 y)) zo cv0 cs x y := by
  have hg : V.grownBy ((V.setCell ⟨zo, 0, none⟩ (.int .i64 x)).setCell ⟨zo, 1, none⟩ (.int .i64 y)) (some zo) := only_then (only_set (p := ⟨zo, 0, none⟩) _) (only_set (p := ⟨zo, 1, none⟩) _) (fun g e => .inl e)
  have lo := h.lo
  exact ⟨h.r0.keep hg (fun e => by injection e; omega), h.r1.keep hg (fun e => by injection e; omega), Blk.set_ (Blk.set_ h.o 0 _) 1 _, h.bel.grown hg h.bel.size (fun q e => by injection e; omega), lo⟩
end
/-- a round's first two calls -/
def ErP (w V : World) (zo : Nat) (cv0 : Array Value) (cs : List Value) (d b naks k : Int) (L : List Opt) : Prop :=
  ∀ W, Below V.heap.size V W → Calls Tryd.prog 20 #[.agg #[.int .i64 d, .int .i64 b]] W fun e V1 => ∃ A n c, e = .returned (.slice A n c) ∧ Hid (V1.rangeAt (w.heap.size + 1) 0 cs ∧ V1.rangeAt zo 0 (optC d b)) ∧
    Hid (∀ W', Below V1.heap.size V1 W' → Calls Tryd.prog 7 #[.agg cs.toArray, .slice A n c, .int .i64 naks] W' fun e V2 => ∃ F m q, e = .returned (.tuple #[.int .i64 k, .slice F m q]) ∧ Hid (V2.rangeAt (w.heap.size + 1) 0 cs ∧ V2.rangeAt zo 0 (optC d b)) ∧
      Hid (EJ w V2 zo cv0 cs d b ∧ OptRd V2 V2.heap.size F m L ∧ m ≤ 2))
theorem er_p {w V : World} {zo : Nat} {cv0 : Array Value} {cs : List Value} {d b naks k D B mf : Int} {L : List Opt} (h : EJ w V zo cv0 cs d b) (hc : ConfC cs.toArray D B mf) (hT : TabM w) (hj : jdC mf D B (optsC d b) naks = (k, L)) (hL : L.length ≤ 2) (hLb : ∀ o ∈ L, o.2.length ≤ 2) : ErP w V zo cv0 cs d b naks k L := by
  intro W hW
  have e0 := h.on hW
  refine (options_ccp d b W (hT.below e0.bel hT.lt)).mono ?_
  rintro e V1 ⟨A, n, c, rfl, ho, b1⟩
  have e1 := e0.on b1
  have hbyte : ∀ o ∈ optsC d b, o.2.length ≤ 140737488351232 := by
    intro o ho
    have : o.2.length ≤ 2 := by
      unfold optsC optP at ho
      simp only [List.mem_append] at ho
      rcases ho with ho | ho <;> split at ho <;> simp at ho <;> subst ho <;> simp [dat]
    omega
  have hln := optP_len d b 2
  have hln : (optsC d b).length ≤ 2 := hln
  refine ⟨A, n, c, rfl, Lib.hid ⟨blk_range e1.r1.blk, blk_range e1.o⟩, Lib.hid fun W' hW' => ?_⟩
  have e2 := e1.on hW'
  obtain ⟨A', c', ee, hrd, _⟩ := (ho.later hW').rd hbyte
  injection ee with ee1 ee2 ee3
  subst ee1 ee2 ee3
  refine (judge_ccp cs.toArray D B mf A _ c W'.heap.size (optsC d b) naks W' hc hrd (Nat.le_refl _) (by omega)).mono ?_
  rintro e V2 ⟨F, m, q, k', L', rfl, hj', hm, ho2, b2⟩
  rw [hj] at hj'
  injection hj' with x1 x2
  subst x1 x2
  have e3 := e2.on b2
  obtain ⟨F', q', ee, hrd2, _⟩ := ho2.rd (fun o ho => by have := hLb o ho; omega)
  injection ee with ee1 ee2 ee3
  subst ee1 ee3
  subst hm
  exact ⟨F, _, q, rfl, Lib.hid ⟨blk_range e3.r1.blk, blk_range e3.o⟩, Lib.hid ⟨e3, hrd2, hL⟩⟩
/-- .. and what is asked behind a Nak -/
def NkP (w V2 : World) (zo : Nat) (cv0 : Array Value) (cs : List Value) (d b x y : Int) (F : Option Addr) (m q : Nat) : Prop :=
  Calls Tryd.prog 11 #[.agg cv0, .agg #[.int .i64 d, .int .i64 b], .slice F m q] V2 fun e V3 => e = .returned (.tuple #[.agg #[.int .i64 x, .int .i64 y], .bool true]) ∧ ∃ V4, Hid (V3.alloc (.cells #[.int .i64 x, .int .i64 y] 27) = V4) ∧
    (V4.cell? ⟨V3.heap.size, 0, none⟩ = some (.int .i64 x) ∧ V4.cell? ⟨V3.heap.size, 1, none⟩ = some (.int .i64 y) ∧ V4.cell? ⟨zo, 0, none⟩ = some (.int .i64 d) ∧ V4.cell? ⟨zo, 1, none⟩ = some (.int .i64 b) ∧ V4.frozen? ⟨zo, 0, none⟩ = false ∧ V4.frozen? ⟨zo, 1, none⟩ = false) ∧
    Hid (EJ w ((V4.setCell ⟨zo, 0, none⟩ (.int .i64 x)).setCell ⟨zo, 1, none⟩ (.int .i64 y)) zo cv0 cs x y)
theorem nk_p {w V2 : World} {zo : Nat} {cv0 : Array Value} {cs : List Value} {d b : Int} {F : Option Addr} {m q : Nat} {L : List Opt} (h : EJ w V2 zo cv0 cs d b) (hr : OptRd V2 V2.heap.size F m L) (hm : m ≤ 2)
    (hc : (!(nkC (lstK 26 L L.length) d == d) || !(nkC (lstK 21 L L.length) b == b)) = true) : NkP w V2 zo cv0 cs d b (nkC (lstK 26 L L.length) d) (nkC (lstK 21 L L.length) b) F m q := by
  unfold NkP
  refine (nak_ccp cv0 d b F m q V2.heap.size L V2 hr (Nat.le_refl _) (by omega)).mono ?_
  rintro e V3 ⟨rfl, hb⟩
  rw [hc]
  obtain ⟨V4, hV4⟩ : ∃ V4, V3.alloc (.cells #[.int .i64 (nkC (lstK 26 L L.length) d), .int .i64 (nkC (lstK 21 L L.length) b)] 27) = V4 := ⟨_, rfl⟩
  have kn : Blk V4 V3.heap.size 27 [.int .i64 (nkC (lstK 26 L L.length) d), .int .i64 (nkC (lstK 21 L L.length) b)] := by rw [← hV4]; exact blk_new V3 _ _
  have b4 : Below V3.heap.size V3 V4 := by rw [← hV4]; exact (Below.refl _ _).alloc (Nat.le_refl _) _
  have e4 := (h.on hb).on b4
  exact ⟨rfl, V4, Lib.hid hV4, ⟨kn.cell 0, kn.cell 1, e4.o.cell 0, e4.o.cell 1, e4.o.frozen 0, e4.o.frozen 1⟩, Lib.hid (e4.set _ _)⟩
/-- .. behind a Reject -/
def RjP (w V2 : World) (zo : Nat) (cv0 : Array Value) (cs : List Value) (d b x y : Int) (F : Option Addr) (m q : Nat) : Prop :=
  Calls Tryd.prog 14 #[.agg cv0, .agg #[.int .i64 d, .int .i64 b], .slice F m q] V2 fun e V3 => e = .returned (.tuple #[.agg #[.int .i64 x, .int .i64 y], .bool true]) ∧
    (V3.cell? ⟨zo, 0, none⟩ = some (.int .i64 d) ∧ V3.cell? ⟨zo, 1, none⟩ = some (.int .i64 b) ∧ V3.frozen? ⟨zo, 0, none⟩ = false ∧ V3.frozen? ⟨zo, 1, none⟩ = false) ∧
    Hid (EJ w ((V3.setCell ⟨zo, 0, none⟩ (.int .i64 x)).setCell ⟨zo, 1, none⟩ (.int .i64 y)) zo cv0 cs x y)
theorem rj_p {w V2 : World} {zo : Nat} {cv0 : Array Value} {cs : List Value} {d b : Int} {F : Option Addr} {m q : Nat} {L : List Opt} (h : EJ w V2 zo cv0 cs d b) (hr : OptRd V2 V2.heap.size F m L) (hm : m ≤ 2) : RjP w V2 zo cv0 cs d b (rjK 26 d L L.length) (rjK 21 b L L.length) F m q := by
  unfold RjP
  refine (reject_ccp cv0 d b F m q V2.heap.size L V2 hr (Nat.le_refl _) (by omega)).mono ?_
  rintro e V3 ⟨rfl, hb⟩
  have e4 := h.on hb
  exact ⟨rfl, ⟨e4.o.cell 0, e4.o.cell 1, e4.o.frozen 0, e4.o.frozen 1⟩, Lib.hid (e4.set _ _)⟩
theorem ccpends_walk (cv0 cv1 : Array Value) (D0 B0 mf0 D B mf : Int) (w : World) (h0 : ConfC cv0 D0 B0 mf0) (h1 : ConfC cv1 D B mf) (hT : TabM w) :
    Calls Tryd.prog 4 #[.agg cv0, .agg cv1] w fun e w' => e = .returned (.bool true) ∧ Below w.heap.size w w' := by
  obtain ⟨cs, rfl⟩ : ∃ cs : List Value, cv1 = cs.toArray := ⟨cv1.toList, by simp⟩
  obtain ⟨W1, hW1⟩ : ∃ W1, w.alloc (.cells cv0 25) = W1 := ⟨_, rfl⟩
  have k0 : CRow W1 w.heap.size cv0 := by
    have h := blk_new w 25 cv0.toList
    unfold Blk at h
    rw [← hW1]
    unfold CRow
    simpa using h
  have B1 : Below w.heap.size w W1 := by rw [← hW1]; exact (Below.refl _ _).alloc (Nat.le_refl _) _
  have s1 : W1.heap.size = w.heap.size + 1 := by rw [← hW1]; simp
  obtain ⟨W2, hW2⟩ : ∃ W2, W1.alloc (.cells cs.toArray 25) = W2 := ⟨_, rfl⟩
  have k1 : CRow W2 (w.heap.size + 1) cs.toArray := by
    have h := blk_new W1 25 cs
    unfold Blk at h
    rw [← hW2, ← s1]
    exact h
  have B2 : Below W1.heap.size W1 W2 := by rw [← hW2]; exact (Below.refl _ _).alloc (Nat.le_refl _) _
  have s2 : W2.heap.size = w.heap.size + 2 := by rw [← hW2]; simp [s1]
  have k02 := k0.keep (only_of_below B2 none) (by simp)
  have B02 := B1.trans (B2.mono (by omega))
  have cellsOf : ∀ (W : World) (z : Nat) (cv : Array Value) (X Y m : Int), ConfC cv X Y m → CRow W z cv → W.cell? ⟨z, 16, none⟩ = some (.int .i64 X) ∧ W.cell? ⟨z, 17, none⟩ = some (.int .i64 Y) := by
    intro W z cv X Y m hc hr
    have hb : Blk W z 25 cv.toList := by unfold CRow at hr; unfold Blk; simpa using hr
    exact ⟨by rw [hb.cell 16, Array.getElem?_toList]; exact hc.2.1, by rw [hb.cell 17, Array.getElem?_toList]; exact hc.2.2.1⟩
  obtain ⟨c16, c17⟩ := cellsOf W2 _ _ _ _ _ h0 k02
  have HCO := Lib.hid cellsOf
  have HW : Hid ((w.alloc (.cells cv0 25)).alloc (.cells cs.toArray 25) = W2) := by show _ = _; rw [hW1, hW2]
  have AW := Lib.hid (fun (W : World) (h : Below w.heap.size w W) => awake_ccp W (hT.below h hT.lt))
  have H0 := Lib.hid h0
  have H1 := Lib.hid h1
  have HT := Lib.hid hT
  have HB := Lib.hid B02
  have HK := Lib.hid (And.intro k02 k1)
  clear hW1 hW2 k0 k1 B1 B2 k02 B02 s1 h0 h1 hT cellsOf
  by_cases hf0 : fitQ D0 B0
  · have NW : Hid (Calls Tryd.prog 18 #[.agg #[.int .i64 D0, .int .i64 B0]] W2 fun e w' => ∃ g, e = .returned (.pointer (some ⟨g, 0, none⟩)) ∧ (w'.cell? ⟨w.heap.size + 1, 16, none⟩ = some (.int .i64 D) ∧ w'.cell? ⟨w.heap.size + 1, 17, none⟩ = some (.int .i64 B)) ∧ Hid (Below w.heap.size w w' ∧ CRow w' w.heap.size cv0 ∧ CRow w' (w.heap.size + 1) cs.toArray ∧ w.heap.size + 2 ≤ w'.heap.size)) := by
      refine (new22_yes D0 B0 W2 hf0).mono ?_
      rintro e w' ⟨g, rfl, hb⟩
      have r0 := HK.out.1.keep (only_of_below hb none) (by simp)
      have r1 := HK.out.2.keep (only_of_below hb none) (by simp)
      exact ⟨g, rfl, HCO.out _ _ _ _ _ _ H1.out r1, Lib.hid ⟨HB.out.trans (hb.mono HB.out.size), r0, r1, by have := hb.size; omega⟩⟩
    by_cases hf1 : fitQ D B
    · have NX : Hid (∀ W, Below w.heap.size w W ∧ CRow W w.heap.size cv0 ∧ CRow W (w.heap.size + 1) cs.toArray ∧ w.heap.size + 2 ≤ W.heap.size → Calls Tryd.prog 18 #[.agg #[.int .i64 D, .int .i64 B]] W fun e w' => ∃ g, e = .returned (.pointer (some ⟨g, 0, none⟩)) ∧ Hid (w'.heap[w.heap.size]? = some (.cells cv0 25 (0, 0))) ∧
          Hid (Calls Tryd.prog 19 #[.agg cv0] w' fun e w2 => e = .returned (.agg #[.int .i64 D0, .int .i64 B0]) ∧ ∃ W3, Hid (w2.alloc (.cells #[.int .i64 D0, .int .i64 B0] 27) = W3) ∧ Hid (EJ w W3 w2.heap.size cv0 cs D0 B0))) := by
        intro W hW
        refine (new22_yes D B W hf1).mono ?_
        rintro e w' ⟨g, rfl, hb⟩
        have r0 := hW.2.1.keep (only_of_below hb none) (by simp)
        have r1 := hW.2.2.1.keep (only_of_below hb none) (by simp)
        have Bw := hW.1.trans (hb.mono hW.1.size)
        refine ⟨g, rfl, Lib.hid r0, Lib.hid ((want_ccp cv0 D0 B0 mf0 w' H0.out).mono ?_)⟩
        rintro e w2 ⟨rfl, hb2⟩
        have r02 := r0.keep (only_of_below hb2 none) (by simp)
        have r12 := r1.keep (only_of_below hb2 none) (by simp)
        obtain ⟨W3, hW3⟩ : ∃ W3, w2.alloc (.cells #[.int .i64 D0, .int .i64 B0] 27) = W3 := ⟨_, rfl⟩
        have ko : Blk W3 w2.heap.size 27 (optC D0 B0) := by rw [← hW3]; exact blk_new w2 _ _
        have b3 : Below w2.heap.size w2 W3 := by rw [← hW3]; exact (Below.refl _ _).alloc (Nat.le_refl _) _
        have z1 := hb.size
        have z2 := hb2.size
        refine ⟨rfl, W3, Lib.hid hW3, Lib.hid ⟨r02.keep (only_of_below b3 none) (by simp), r12.keep (only_of_below b3 none) (by simp), ko, Bw.trans ((hb2.mono Bw.size).trans (b3.mono (by have := Bw.size; omega))), ?_⟩⟩
        have := hW.2.2.2
        omega
      have IC : Hid ((Tryd.prog.info? 25).map (·.size) = some cv0.size) := by show _ = _; rw [H0.out.1]; exact infoC
      have IL : Hid ((Tryd.prog.info? 25).map (·.size) = some cs.length) := by
        show _ = _
        have h33 : cs.length = 33 := by simpa using H1.out.1
        rw [h33]
        exact infoC
      have HJ0 : Hid (JE 0 D B D0 B0) := ⟨hf0.1, hf0.2, fun h => absurd h (by omega), fun h => absurd h (by omega)⟩
      have HF1 := Lib.hid hf1
      clear hf0 hf1 HK HB
      go_enter Tryd.func4, Tryd.ntmps4
      go_upto_region 1 with (fail)
      rw [HW.out]
      clear HW
      go_wp2_with (first
        | (go_at_call 18; ((with_reducible refine NW.out.mono ?_); rintro e w1 ⟨g, rfl, ⟨x16, x17⟩, HX⟩))
        | (go_at_call 18; ((with_reducible refine (NX.out _ HX.out).mono ?_); rintro e w2 ⟨g2, rfl, HR0, WT⟩))
        | ((with_reducible refine step_confC (.tmp 2) w.heap.size cv0 HR0.out IC.out ?_ rfl rfl ?_); rotate_left; rfl)
        | (go_at_call 19; ((with_reducible refine WT.out.mono ?_); rintro e w3 ⟨rfl, W3, HW3, HE⟩))
        | (rw [HW3.out]))
      obtain ⟨zo, hzo⟩ : ∃ zo, w3.heap.size = zo := ⟨_, rfl⟩
      rw [hzo] at HE ⊢
      clear hzo NW NX HX HR0 WT HW3 c16 c17 x16 x17
      go_loopw [6, 7] (fun u i wr => ∃ (V : World) (r N : Nat) (d b : Int), V = wr ∧ u = .int .i64 N ∧ i = .int .i64 r ∧ r ≤ 2 ∧ N ≤ r ∧ Hid (EJ w V zo cv0 cs d b ∧ JE r D B d b)) (fun _ i _ => 4 - (intOf i).toNat)
      case atStart => exact ⟨_, 0, 0, D0, B0, rfl, rfl, rfl, by omega, by omega, HE.out, HJ0.out⟩
      case round =>
        clear HE HJ0
        obtain ⟨V, r, N, d, b, rfl, rfl, rfl, hr2, hNr, hS⟩ := hrel
        have hr4 : (r : Int) < 4 := by omega
        have HBV1 : Hid (Below V.heap.size V V.drew) := below_drewN (Below.refl V.heap.size V) 1
        have HS := Lib.hid (And.intro (blk_range hS.out.1.r1.blk) (blk_range hS.out.1.o))
        have hoo := hS.out.1.o
        rcases ends_round (naks := (N : Int)) (mf := mf) HF1.out.1 HF1.out.2 hS.out.2 with ⟨hj, hle1, hle2⟩ | ⟨hr, f, g, x, y, hj, hJE, hch, hx, hy⟩ | ⟨hr, f, g, x, y, hj, hJE, hx, hy⟩
        · have HER := Lib.hid (er_p hS.out.1 H1.out HT.out hj (optP_len d b 2) (by
            intro o ho
            unfold optsC optP at ho
            simp only [List.mem_append] at ho
            rcases ho with ho | ho <;> split at ho <;> simp at ho <;> subst ho <;> simp [dat]))
          unfold ErP at HER
          clear hS hj hoo
          go_upto_region 8 with (fail)
          refine wp_region_held_drew (S := fun w' => w'.rangeAt (w.heap.size + 1) 0 cs ∧ w'.rangeAt zo 0 (optC d b)) (by kernel_rfl) ?_ (fun hHeld => ?_)
          · exact HS.out
          refine' wpAnyH_take (i := 0) (oi := _) (v := _) rfl (by kernel_rfl) (by kernel_rfl) (by kernel_rfl) (fun _ _ _ h => h) (yieldsIf_load_mid (by kernel_rfl) _ _ rfl _ _ rfl cs _ (fun _ h => h.1) Tryd.underlying25 rfl IL.out) hHeld ?_
          try simp only [Act.put, List.setIfInBounds_toArray, List.set_cons_zero, List.set_cons_succ]
          refine' wpAnyH_take (i := 1) (oi := _) (v := _) rfl (by kernel_rfl) (by kernel_rfl) (by kernel_rfl) (fun _ _ _ h => h) (yieldsIf_load_mid (by kernel_rfl) _ _ rfl _ _ rfl (optC d b) _ (fun _ h => h.2) Tryd.underlying27 rfl (by kernel_rfl)) hHeld ?_
          try simp only [Act.put, List.setIfInBounds_toArray, List.set_cons_zero, List.set_cons_succ]
          refine wpAnyH_take (i := 3) (oi := _) (v := ?_) rfl (by kernel_rfl) (by kernel_rfl) (by kernel_rfl) (fun _ _ _ h => h) (Or.inl ⟨by kernel_rfl, ?_⟩) hHeld ?_
          rotate_left
          · intro w5 hSw
            go_simp
            try with_reducible rfl
          try simp only [Act.put, List.setIfInBounds_toArray, List.set_cons_zero, List.set_cons_succ]
          refine wpAnyH_ready (rs := [2]) (by kernel_rfl) (by decide) (AllReadyH.cons (o := _) rfl (fun K hK => ?_) AllReadyH.nil)
          go_simp
          refine (HER.out _ HBV1.out).mono ?_
          rintro e V1 ⟨A, n, c, rfl, HC1, HE1⟩
          dsimp only
          refine hK.out _ _ HC1.out (fun hHeld => ?_)
          clear hK K
          try simp only [Act.put, List.setIfInBounds_toArray, List.set_cons_zero, List.set_cons_succ]
          refine wpAnyH_ready (rs := [4]) (by kernel_rfl) (by decide) (AllReadyH.cons (o := _) rfl (fun K hK => ?_) AllReadyH.nil)
          go_simp
          refine (HE1.out _ (Below.refl _ _)).mono ?_
          rintro e V2 ⟨F, m, q, rfl, HC2, HN⟩
          dsimp only
          refine hK.out _ _ HC2.out (fun hHeld => ?_)
          clear hK K
          try simp only [Act.put, List.setIfInBounds_toArray, List.set_cons_zero, List.set_cons_succ]
          refine wpAnyH_take (i := 5) (oi := _) (v := ?_) rfl (by kernel_rfl) (by kernel_rfl) (by kernel_rfl) (fun _ _ _ h => h) (Or.inl ⟨by kernel_rfl, ?_⟩) hHeld ?_
          rotate_left
          · intro w5 hSw
            go_simp
            try with_reducible rfl
          try simp only [Act.put, List.setIfInBounds_toArray, List.set_cons_zero, List.set_cons_succ]
          refine wpAnyH_take (i := 6) (oi := _) (v := ?_) rfl (by kernel_rfl) (by kernel_rfl) (by kernel_rfl) (fun _ _ _ h => h) (Or.inl ⟨by kernel_rfl, ?_⟩) hHeld ?_
          rotate_left
          · intro w5 hSw
            go_simp
            try with_reducible rfl
          try simp only [Act.put, List.setIfInBounds_toArray, List.set_cons_zero, List.set_cons_succ]
          refine wpAnyH_take (i := 7) (oi := _) (v := ?_) rfl (by kernel_rfl) (by kernel_rfl) (by kernel_rfl) (fun _ _ _ h => h) (Or.inl ⟨by kernel_rfl, ?_⟩) hHeld ?_
          rotate_left
          · intro w5 hSw
            go_simp
            try with_reducible rfl
          try simp only [Act.put, List.setIfInBounds_toArray, List.set_cons_zero, List.set_cons_succ]
          refine wpAnyH_take (i := 8) (oi := _) (v := ?_) rfl (by kernel_rfl) (by kernel_rfl) (by kernel_rfl) (fun _ _ _ h => h) (Or.inl ⟨by kernel_rfl, ?_⟩) hHeld ?_
          rotate_left
          · intro w5 hSw
            go_simp
            try with_reducible rfl
          try simp only [Act.put, List.setIfInBounds_toArray, List.set_cons_zero, List.set_cons_succ]
          refine wpAnyH_take (i := 9) (oi := _) (v := ?_) rfl (by kernel_rfl) (by kernel_rfl) (by kernel_rfl) (fun _ _ _ h => h) (Or.inl ⟨by kernel_rfl, ?_⟩) hHeld ?_
          rotate_left
          · intro w5 hSw
            go_simp
            try with_reducible rfl
          try simp only [Act.put, List.setIfInBounds_toArray, List.set_cons_zero, List.set_cons_succ]
          refine wpAnyH_done (by kernel_rfl) ?_ _
          try simp only [List.getElem_toArray, List.getElem_cons_succ, List.getElem_cons_zero, List.set_cons_zero, List.set_cons_succ]
          have hEJ := HN.out.1
          obtain ⟨t16, t17⟩ := HCO.out _ _ _ _ _ _ H1.out hEJ.r1
          have o0 : V2.cell? ⟨zo, 0, none⟩ = some (.int .i64 d) := hEJ.o.cell 0
          have o1 : V2.cell? ⟨zo, 1, none⟩ = some (.int .i64 b) := hEJ.o.cell 1
          have AV := Lib.hid (AW.out V2 hEJ.bel)
          have HBL := Lib.hid hEJ.bel
          clear hEJ HN
          go_wp2_with (go_at_call 17; ((with_reducible refine AV.out.mono ?_); rintro e w9 ⟨rfl, hb9⟩; have HB9 := Lib.hid hb9; clear hb9))
          go_ret
          exact ⟨rfl, HBL.out.trans (HB9.out.mono HBL.out.size)⟩
        · have HER := Lib.hid (er_p hS.out.1 H1.out HT.out hj (sub_len f g x y) (by
            intro o ho
            unfold subL at ho
            simp only [List.mem_append] at ho
            rcases ho with ho | ho <;> split at ho <;> simp at ho <;> subst ho <;> assumption))
          unfold ErP at HER
          have HJE := Lib.hid hJE
          have HCH := Lib.hid hch
          clear hS hj hoo hJE hch hx hy
          go_upto_region 8 with (fail)
          refine wp_region_held_drew (S := fun w' => w'.rangeAt (w.heap.size + 1) 0 cs ∧ w'.rangeAt zo 0 (optC d b)) (by kernel_rfl) ?_ (fun hHeld => ?_)
          · exact HS.out
          refine' wpAnyH_take (i := 0) (oi := _) (v := _) rfl (by kernel_rfl) (by kernel_rfl) (by kernel_rfl) (fun _ _ _ h => h) (yieldsIf_load_mid (by kernel_rfl) _ _ rfl _ _ rfl cs _ (fun _ h => h.1) Tryd.underlying25 rfl IL.out) hHeld ?_
          try simp only [Act.put, List.setIfInBounds_toArray, List.set_cons_zero, List.set_cons_succ]
          refine' wpAnyH_take (i := 1) (oi := _) (v := _) rfl (by kernel_rfl) (by kernel_rfl) (by kernel_rfl) (fun _ _ _ h => h) (yieldsIf_load_mid (by kernel_rfl) _ _ rfl _ _ rfl (optC d b) _ (fun _ h => h.2) Tryd.underlying27 rfl (by kernel_rfl)) hHeld ?_
          try simp only [Act.put, List.setIfInBounds_toArray, List.set_cons_zero, List.set_cons_succ]
          refine wpAnyH_take (i := 3) (oi := _) (v := ?_) rfl (by kernel_rfl) (by kernel_rfl) (by kernel_rfl) (fun _ _ _ h => h) (Or.inl ⟨by kernel_rfl, ?_⟩) hHeld ?_
          rotate_left
          · intro w5 hSw
            go_simp
            try with_reducible rfl
          try simp only [Act.put, List.setIfInBounds_toArray, List.set_cons_zero, List.set_cons_succ]
          refine wpAnyH_ready (rs := [2]) (by kernel_rfl) (by decide) (AllReadyH.cons (o := _) rfl (fun K hK => ?_) AllReadyH.nil)
          go_simp
          refine (HER.out _ HBV1.out).mono ?_
          rintro e V1 ⟨A, n, c, rfl, HC1, HE1⟩
          dsimp only
          refine hK.out _ _ HC1.out (fun hHeld => ?_)
          clear hK K
          try simp only [Act.put, List.setIfInBounds_toArray, List.set_cons_zero, List.set_cons_succ]
          refine wpAnyH_ready (rs := [4]) (by kernel_rfl) (by decide) (AllReadyH.cons (o := _) rfl (fun K hK => ?_) AllReadyH.nil)
          go_simp
          refine (HE1.out _ (Below.refl _ _)).mono ?_
          rintro e V2 ⟨F, m, q, rfl, HC2, HN⟩
          dsimp only
          refine hK.out _ _ HC2.out (fun hHeld => ?_)
          clear hK K
          try simp only [Act.put, List.setIfInBounds_toArray, List.set_cons_zero, List.set_cons_succ]
          refine wpAnyH_take (i := 5) (oi := _) (v := ?_) rfl (by kernel_rfl) (by kernel_rfl) (by kernel_rfl) (fun _ _ _ h => h) (Or.inl ⟨by kernel_rfl, ?_⟩) hHeld ?_
          rotate_left
          · intro w5 hSw
            go_simp
            try with_reducible rfl
          try simp only [Act.put, List.setIfInBounds_toArray, List.set_cons_zero, List.set_cons_succ]
          refine wpAnyH_take (i := 6) (oi := _) (v := ?_) rfl (by kernel_rfl) (by kernel_rfl) (by kernel_rfl) (fun _ _ _ h => h) (Or.inl ⟨by kernel_rfl, ?_⟩) hHeld ?_
          rotate_left
          · intro w5 hSw
            go_simp
            try with_reducible rfl
          try simp only [Act.put, List.setIfInBounds_toArray, List.set_cons_zero, List.set_cons_succ]
          refine wpAnyH_take (i := 7) (oi := _) (v := ?_) rfl (by kernel_rfl) (by kernel_rfl) (by kernel_rfl) (fun _ _ _ h => h) (Or.inl ⟨by kernel_rfl, ?_⟩) hHeld ?_
          rotate_left
          · intro w5 hSw
            go_simp
            try with_reducible rfl
          try simp only [Act.put, List.setIfInBounds_toArray, List.set_cons_zero, List.set_cons_succ]
          refine wpAnyH_take (i := 8) (oi := _) (v := ?_) rfl (by kernel_rfl) (by kernel_rfl) (by kernel_rfl) (fun _ _ _ h => h) (Or.inl ⟨by kernel_rfl, ?_⟩) hHeld ?_
          rotate_left
          · intro w5 hSw
            go_simp
            try with_reducible rfl
          try simp only [Act.put, List.setIfInBounds_toArray, List.set_cons_zero, List.set_cons_succ]
          refine wpAnyH_take (i := 9) (oi := _) (v := ?_) rfl (by kernel_rfl) (by kernel_rfl) (by kernel_rfl) (fun _ _ _ h => h) (Or.inl ⟨by kernel_rfl, ?_⟩) hHeld ?_
          rotate_left
          · intro w5 hSw
            go_simp
            try with_reducible rfl
          try simp only [Act.put, List.setIfInBounds_toArray, List.set_cons_zero, List.set_cons_succ]
          refine wpAnyH_done (by kernel_rfl) ?_ _
          try simp only [List.getElem_toArray, List.getElem_cons_succ, List.getElem_cons_zero, List.set_cons_zero, List.set_cons_succ]
          have NK := nk_p HN.out.1 HN.out.2.1 HN.out.2.2 HCH.out (q := q)
          unfold NkP at NK
          have HR0 : Hid (V2.heap[w.heap.size]? = some (.cells cv0 25 (0, 0))) := HN.out.1.r0
          have o0 : V2.cell? ⟨zo, 0, none⟩ = some (.int .i64 d) := HN.out.1.o.cell 0
          have o1 : V2.cell? ⟨zo, 1, none⟩ = some (.int .i64 b) := HN.out.1.o.cell 1
          obtain ⟨X, hX⟩ : ∃ X, nkC (lstK 26 (subL f g x y) (subL f g x y).length) d = X := ⟨_, rfl⟩
          obtain ⟨Y, hY⟩ : ∃ Y, nkC (lstK 21 (subL f g x y) (subL f g x y).length) b = Y := ⟨_, rfl⟩
          rw [hX, hY] at NK HJE
          have NK := Lib.hid NK
          clear hX hY HCH HN HC1 HC2 HE1 HS HER
          go_wp2_with (first
            | ((with_reducible refine step_confC (.tmp 2) w.heap.size cv0 HR0.out IC.out ?_ rfl rfl ?_); rotate_left; rfl)
            | (go_at_call 11; ((with_reducible refine NK.out.mono ?_); rintro e V3 ⟨rfl, V4, HV4, ⟨y0, y1, y2, y3, g0, g1⟩, HEJ⟩))
            | (rw [HV4.out]))
          go_roundw
          case rel => exact ⟨_, r + 1, N + 1, X, Y, rfl, by go_num, by go_num, by omega, by omega, HEJ.out, HJE.out⟩
          case measure => simp [intOf]; omega
        · have HER := Lib.hid (er_p hS.out.1 H1.out HT.out hj (sub_len f g x y) (by
            intro o ho
            unfold subL at ho
            simp only [List.mem_append] at ho
            rcases ho with ho | ho <;> split at ho <;> simp at ho <;> subst ho <;> assumption))
          unfold ErP at HER
          have HJE := Lib.hid hJE
          clear hS hj hoo hJE hx hy
          go_upto_region 8 with (fail)
          refine wp_region_held_drew (S := fun w' => w'.rangeAt (w.heap.size + 1) 0 cs ∧ w'.rangeAt zo 0 (optC d b)) (by kernel_rfl) ?_ (fun hHeld => ?_)
          · exact HS.out
          refine' wpAnyH_take (i := 0) (oi := _) (v := _) rfl (by kernel_rfl) (by kernel_rfl) (by kernel_rfl) (fun _ _ _ h => h) (yieldsIf_load_mid (by kernel_rfl) _ _ rfl _ _ rfl cs _ (fun _ h => h.1) Tryd.underlying25 rfl IL.out) hHeld ?_
          try simp only [Act.put, List.setIfInBounds_toArray, List.set_cons_zero, List.set_cons_succ]
          refine' wpAnyH_take (i := 1) (oi := _) (v := _) rfl (by kernel_rfl) (by kernel_rfl) (by kernel_rfl) (fun _ _ _ h => h) (yieldsIf_load_mid (by kernel_rfl) _ _ rfl _ _ rfl (optC d b) _ (fun _ h => h.2) Tryd.underlying27 rfl (by kernel_rfl)) hHeld ?_
          try simp only [Act.put, List.setIfInBounds_toArray, List.set_cons_zero, List.set_cons_succ]
          refine wpAnyH_take (i := 3) (oi := _) (v := ?_) rfl (by kernel_rfl) (by kernel_rfl) (by kernel_rfl) (fun _ _ _ h => h) (Or.inl ⟨by kernel_rfl, ?_⟩) hHeld ?_
          rotate_left
          · intro w5 hSw
            go_simp
            try with_reducible rfl
          try simp only [Act.put, List.setIfInBounds_toArray, List.set_cons_zero, List.set_cons_succ]
          refine wpAnyH_ready (rs := [2]) (by kernel_rfl) (by decide) (AllReadyH.cons (o := _) rfl (fun K hK => ?_) AllReadyH.nil)
          go_simp
          refine (HER.out _ HBV1.out).mono ?_
          rintro e V1 ⟨A, n, c, rfl, HC1, HE1⟩
          dsimp only
          refine hK.out _ _ HC1.out (fun hHeld => ?_)
          clear hK K
          try simp only [Act.put, List.setIfInBounds_toArray, List.set_cons_zero, List.set_cons_succ]
          refine wpAnyH_ready (rs := [4]) (by kernel_rfl) (by decide) (AllReadyH.cons (o := _) rfl (fun K hK => ?_) AllReadyH.nil)
          go_simp
          refine (HE1.out _ (Below.refl _ _)).mono ?_
          rintro e V2 ⟨F, m, q, rfl, HC2, HN⟩
          dsimp only
          refine hK.out _ _ HC2.out (fun hHeld => ?_)
          clear hK K
          try simp only [Act.put, List.setIfInBounds_toArray, List.set_cons_zero, List.set_cons_succ]
          refine wpAnyH_take (i := 5) (oi := _) (v := ?_) rfl (by kernel_rfl) (by kernel_rfl) (by kernel_rfl) (fun _ _ _ h => h) (Or.inl ⟨by kernel_rfl, ?_⟩) hHeld ?_
          rotate_left
          · intro w5 hSw
            go_simp
            try with_reducible rfl
          try simp only [Act.put, List.setIfInBounds_toArray, List.set_cons_zero, List.set_cons_succ]
          refine wpAnyH_take (i := 6) (oi := _) (v := ?_) rfl (by kernel_rfl) (by kernel_rfl) (by kernel_rfl) (fun _ _ _ h => h) (Or.inl ⟨by kernel_rfl, ?_⟩) hHeld ?_
          rotate_left
          · intro w5 hSw
            go_simp
            try with_reducible rfl
          try simp only [Act.put, List.setIfInBounds_toArray, List.set_cons_zero, List.set_cons_succ]
          refine wpAnyH_take (i := 7) (oi := _) (v := ?_) rfl (by kernel_rfl) (by kernel_rfl) (by kernel_rfl) (fun _ _ _ h => h) (Or.inl ⟨by kernel_rfl, ?_⟩) hHeld ?_
          rotate_left
          · intro w5 hSw
            go_simp
            try with_reducible rfl
          try simp only [Act.put, List.setIfInBounds_toArray, List.set_cons_zero, List.set_cons_succ]
          refine wpAnyH_take (i := 8) (oi := _) (v := ?_) rfl (by kernel_rfl) (by kernel_rfl) (by kernel_rfl) (fun _ _ _ h => h) (Or.inl ⟨by kernel_rfl, ?_⟩) hHeld ?_
          rotate_left
          · intro w5 hSw
            go_simp
            try with_reducible rfl
          try simp only [Act.put, List.setIfInBounds_toArray, List.set_cons_zero, List.set_cons_succ]
          refine wpAnyH_take (i := 9) (oi := _) (v := ?_) rfl (by kernel_rfl) (by kernel_rfl) (by kernel_rfl) (fun _ _ _ h => h) (Or.inl ⟨by kernel_rfl, ?_⟩) hHeld ?_
          rotate_left
          · intro w5 hSw
            go_simp
            try with_reducible rfl
          try simp only [Act.put, List.setIfInBounds_toArray, List.set_cons_zero, List.set_cons_succ]
          refine wpAnyH_done (by kernel_rfl) ?_ _
          try simp only [List.getElem_toArray, List.getElem_cons_succ, List.getElem_cons_zero, List.set_cons_zero, List.set_cons_succ]
          have NK := rj_p HN.out.1 HN.out.2.1 HN.out.2.2 (q := q)
          unfold RjP at NK
          have HR0 : Hid (V2.heap[w.heap.size]? = some (.cells cv0 25 (0, 0))) := HN.out.1.r0
          have o0 : V2.cell? ⟨zo, 0, none⟩ = some (.int .i64 d) := HN.out.1.o.cell 0
          have o1 : V2.cell? ⟨zo, 1, none⟩ = some (.int .i64 b) := HN.out.1.o.cell 1
          obtain ⟨X, hX⟩ : ∃ X, rjK 26 d (subL f g x y) (subL f g x y).length = X := ⟨_, rfl⟩
          obtain ⟨Y, hY⟩ : ∃ Y, rjK 21 b (subL f g x y) (subL f g x y).length = Y := ⟨_, rfl⟩
          rw [hX, hY] at NK HJE
          have NK := Lib.hid NK
          clear hX hY HN HC1 HC2 HE1 HS HER
          go_wp2_with (first
            | ((with_reducible refine step_confC (.tmp 2) w.heap.size cv0 HR0.out IC.out ?_ rfl rfl ?_); rotate_left; rfl)
            | (go_at_call 14; ((with_reducible refine NK.out.mono ?_); rintro e V3 ⟨rfl, ⟨y2, y3, g0, g1⟩, HEJ⟩)))
          go_roundw
          case rel => exact ⟨_, r + 1, N, X, Y, rfl, rfl, by go_num, by omega, by omega, HEJ.out, HJE.out⟩
          case measure => simp [intOf]; omega
    · have NX : Hid (∀ W, Below w.heap.size w W ∧ CRow W w.heap.size cv0 ∧ CRow W (w.heap.size + 1) cs.toArray ∧ w.heap.size + 2 ≤ W.heap.size → Calls Tryd.prog 18 #[.agg #[.int .i64 D, .int .i64 B]] W fun e w' => e = .returned (.pointer none) ∧ Hid (Below w.heap.size w w')) := by
        intro W hW
        refine (new22_no D B W hf1).mono ?_
        rintro e w' ⟨rfl, hb⟩
        exact ⟨rfl, Lib.hid (hW.1.trans (hb.mono hW.1.size))⟩
      clear hf0 hf1 HK HB
      go_enter Tryd.func4, Tryd.ntmps4
      go_upto_region 1 with (fail)
      rw [HW.out]
      clear HW
      go_wp2_with (first
        | (go_at_call 18; ((with_reducible refine NW.out.mono ?_); rintro e w1 ⟨g, rfl, ⟨x16, x17⟩, HX⟩))
        | (go_at_call 18; ((with_reducible refine (NX.out _ HX.out).mono ?_); rintro e w2 ⟨rfl, HB2⟩))
        | (go_at_call 17; ((with_reducible refine (AW.out _ HB2.out).mono ?_); rintro e w9 ⟨rfl, hb9⟩; have HB9 := Lib.hid hb9; clear hb9)))
      go_ret
      exact ⟨rfl, HB2.out.trans (HB9.out.mono HB2.out.size)⟩
  · have NW : Hid (Calls Tryd.prog 18 #[.agg #[.int .i64 D0, .int .i64 B0]] W2 fun e w' => e = .returned (.pointer none) ∧ Hid (Below w.heap.size w w')) := by
      refine (new22_no D0 B0 W2 hf0).mono ?_
      rintro e w' ⟨rfl, hb⟩
      exact ⟨rfl, Lib.hid (HB.out.trans (hb.mono HB.out.size))⟩
    clear hf0 HK HB
    go_enter Tryd.func4, Tryd.ntmps4
    go_upto_region 1 with (fail)
    rw [HW.out]
    clear HW
    go_wp2_with (first
      | (go_at_call 18; ((with_reducible refine NW.out.mono ?_); rintro e w1 ⟨rfl, HB2⟩))
      | (go_at_call 17; ((with_reducible refine (AW.out _ HB2.out).mono ?_); rintro e w9 ⟨rfl, hb9⟩; have HB9 := Lib.hid hb9; clear hb9)))
    go_ret
    exact ⟨rfl, HB2.out.trans (HB9.out.mono HB2.out.size)⟩
end Go.Proofs.YtlpboleclehilaaDoor
