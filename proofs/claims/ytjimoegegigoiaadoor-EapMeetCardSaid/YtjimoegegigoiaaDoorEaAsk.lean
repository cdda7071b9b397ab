/-
  eap's ends that are not there.
  eap's authenticator: what it holds; request, ask.
  eap.NewServer, eap.NewPeer.
  eap's authenticator: ask, challenge, Start.
-/
import Derived.Test.YtjimoegegigoiaaDoorEaWord
import Derived.Lib.ConvBytes
import Derived.Test.YtjimoegegigoiaaDoorMdAw0
import Derived.Lib.SlBytesConst
import Derived.BigRegion
namespace Go.Proofs.YtjimoegegigoiaaDoor
open Go.RowKit Go.Shelf
set_option maxRecDepth 100000
set_option maxHeartbeats 1000000
set_option linter.unusedSimpArgs false
set_option linter.unusedVariables false

/-- two blocks, one behind the other -/
theorem alloc_two (w : World) (a b : Array Value) (s t : Nat) : ∃ V, (w.alloc (.cells a s)).alloc (.cells b t) = V ∧ Below w.heap.size w V ∧ V.heap[w.heap.size]? = some (.cells a s (0, 0)) ∧ V.heap[w.heap.size + 1]? = some (.cells b t (0, 0)) := by
  refine ⟨_, rfl, ((Below.refl _ _).alloc (Nat.le_refl _) _).alloc (by simp) _, (Below.heap_alloc _ _ _ (by simp)).trans (heap_alloc_new w _), ?_⟩
  have h := heap_alloc_new (w.alloc (.cells a s)) (.cells b t)
  rw [World.size_alloc] at h
  exact h
theorem snil_start (w : World) : Calls Tryd.prog 20 #[.pointer none] w fun e w' => e = .returned (.tuple #[.agg #[.int .i64 0, .int .i64 0, .slice none 0 0], .int .i64 2]) ∧ Below w.heap.size w w' := by
  obtain ⟨V, hV⟩ : ∃ V, w.alloc (.cells #[.int .i64 0, .int .i64 0, .slice none 0 0] 24) = V := ⟨_, rfl⟩
  have bV : Below w.heap.size w V := by rw [← hV]; exact (Below.refl _ _).alloc (Nat.le_refl _) _
  have h0 : Blk V w.heap.size 24 [.int .i64 0, .int .i64 0, .slice none 0 0] := by rw [← hV]; exact heap_alloc_new w _
  have r0 := h0.cell 0
  have r1 := h0.cell 1
  have r2 := h0.cell 2
  have e0 := h0.frozen 0
  have e1 := h0.frozen 1
  have e2 := h0.frozen 2
  have lr := Blk.lt h0
  have hb4 := blk3 (x := .int .i64 0) (y := .int .i64 0) (z := .slice none 0 0) h0
  have p0 := hb4.cell 0
  have p1 := hb4.cell 1
  have p2 := hb4.cell 2
  have FN : Hid (Below w.heap.size w (((V.setCell ⟨w.heap.size, 0, none⟩ (.int .i64 0)).setCell ⟨w.heap.size, 1, none⟩ (.int .i64 0)).setCell ⟨w.heap.size, 2, none⟩ (.slice none 0 0))) := below_row bV (gset3 _ _ _ _ _) (Nat.le_refl _)
  have HV := Lib.hid hV
  clear hV bV h0 hb4
  go_enter Tryd.func20, Tryd.ntmps20
  go_wp2_with (rw [HV.out])
  exact bodyPost_ret (v := .tuple #[.agg #[.int .i64 0, .int .i64 0, .slice none 0 0], .int .i64 2]) (by simp [results, Tryd.results20, go_sem, p0, p1, p2]) rfl ⟨rfl, FN.out⟩
theorem snil_again (A : Option Addr) (n d : Nat) (w : World) : Calls Tryd.prog 31 #[.pointer none, .slice A n d] w fun e w' => e = .returned (.tuple #[.agg #[.int .i64 0, .int .i64 0, .slice none 0 0], .bool false, .int .i64 2]) ∧ Below w.heap.size w w' := by
  obtain ⟨V, hV⟩ : ∃ V, w.alloc (.cells #[.int .i64 0, .int .i64 0, .slice none 0 0] 24) = V := ⟨_, rfl⟩
  have bV : Below w.heap.size w V := by rw [← hV]; exact (Below.refl _ _).alloc (Nat.le_refl _) _
  have h0 : Blk V w.heap.size 24 [.int .i64 0, .int .i64 0, .slice none 0 0] := by rw [← hV]; exact heap_alloc_new w _
  have r0 := h0.cell 0
  have r1 := h0.cell 1
  have r2 := h0.cell 2
  have e0 := h0.frozen 0
  have e1 := h0.frozen 1
  have e2 := h0.frozen 2
  have lr := Blk.lt h0
  have hb4 := blk3 (x := .int .i64 0) (y := .int .i64 0) (z := .slice none 0 0) h0
  have p0 := hb4.cell 0
  have p1 := hb4.cell 1
  have p2 := hb4.cell 2
  have FN : Hid (Below w.heap.size w (((V.setCell ⟨w.heap.size, 0, none⟩ (.int .i64 0)).setCell ⟨w.heap.size, 1, none⟩ (.int .i64 0)).setCell ⟨w.heap.size, 2, none⟩ (.slice none 0 0))) := below_row bV (gset3 _ _ _ _ _) (Nat.le_refl _)
  have HV := Lib.hid hV
  clear hV bV h0 hb4
  go_enter Tryd.func31, Tryd.ntmps31
  go_wp2_with (rw [HV.out])
  exact bodyPost_ret (v := .tuple #[.agg #[.int .i64 0, .int .i64 0, .slice none 0 0], .bool false, .int .i64 2]) (by simp [results, Tryd.results31, go_sem, p0, p1, p2]) rfl ⟨rfl, FN.out⟩
theorem snil_prove (A : Option Addr) (n d : Nat) (w : World) : Calls Tryd.prog 29 #[.pointer none, .slice A n d] w fun e w' => e = .returned (.tuple #[.agg #[.int .i64 0, .int .i64 0, .slice none 0 0], .int .i64 2]) ∧ Below w.heap.size w w' := by
  obtain ⟨V, hV⟩ : ∃ V, w.alloc (.cells #[.int .i64 0, .int .i64 0, .slice none 0 0] 24) = V := ⟨_, rfl⟩
  have bV : Below w.heap.size w V := by rw [← hV]; exact (Below.refl _ _).alloc (Nat.le_refl _) _
  have h0 : Blk V w.heap.size 24 [.int .i64 0, .int .i64 0, .slice none 0 0] := by rw [← hV]; exact heap_alloc_new w _
  have r0 := h0.cell 0
  have r1 := h0.cell 1
  have r2 := h0.cell 2
  have e0 := h0.frozen 0
  have e1 := h0.frozen 1
  have e2 := h0.frozen 2
  have lr := Blk.lt h0
  have hb4 := blk3 (x := .int .i64 0) (y := .int .i64 0) (z := .slice none 0 0) h0
  have p0 := hb4.cell 0
  have p1 := hb4.cell 1
  have p2 := hb4.cell 2
  have FN : Hid (Below w.heap.size w (((V.setCell ⟨w.heap.size, 0, none⟩ (.int .i64 0)).setCell ⟨w.heap.size, 1, none⟩ (.int .i64 0)).setCell ⟨w.heap.size, 2, none⟩ (.slice none 0 0))) := below_row bV (gset3 _ _ _ _ _) (Nat.le_refl _)
  have HV := Lib.hid hV
  clear hV bV h0 hb4
  go_enter Tryd.func29, Tryd.ntmps29
  go_wp2_with (rw [HV.out])
  exact bodyPost_ret (v := .tuple #[.agg #[.int .i64 0, .int .i64 0, .slice none 0 0], .int .i64 2]) (by simp [results, Tryd.results29, go_sem, p0, p1, p2]) rfl ⟨rfl, FN.out⟩
theorem snil_take (c i : Int) (A : Option Addr) (n d : Nat) (A2 : Option Addr) (n2 d2 : Nat) (w : World) : Calls Tryd.prog 21 #[.pointer none, .agg #[.int .i64 c, .int .i64 i, .slice A n d], .slice A2 n2 d2] w fun e w' => e = .returned (.tuple #[.agg #[.int .i64 0, .int .i64 0, .slice none 0 0], .bool false, .int .i64 2]) ∧ Below w.heap.size w w' := by
  obtain ⟨V, hV, bV, -, h0⟩ := alloc_two w #[.int .i64 c, .int .i64 i, .slice A n d] #[.int .i64 0, .int .i64 0, .slice none 0 0] 24 24
  have h0 : Blk V (w.heap.size + 1) 24 [.int .i64 0, .int .i64 0, .slice none 0 0] := h0
  have r0 := h0.cell 0
  have r1 := h0.cell 1
  have r2 := h0.cell 2
  have e0 := h0.frozen 0
  have e1 := h0.frozen 1
  have e2 := h0.frozen 2
  have lr := Blk.lt h0
  have hb4 := blk3 (x := .int .i64 0) (y := .int .i64 0) (z := .slice none 0 0) h0
  have p0 := hb4.cell 0
  have p1 := hb4.cell 1
  have p2 := hb4.cell 2
  have FN : Hid (Below w.heap.size w (((V.setCell ⟨w.heap.size + 1, 0, none⟩ (.int .i64 0)).setCell ⟨w.heap.size + 1, 1, none⟩ (.int .i64 0)).setCell ⟨w.heap.size + 1, 2, none⟩ (.slice none 0 0))) := below_row bV (gset3 _ _ _ _ _) (by omega)
  have HV := Lib.hid hV
  clear hV bV h0 hb4
  go_enter Tryd.func21, Tryd.ntmps21
  go_wp2_with (rw [HV.out])
  exact bodyPost_ret (v := .tuple #[.agg #[.int .i64 0, .int .i64 0, .slice none 0 0], .bool false, .int .i64 2]) (by simp [results, Tryd.results21, go_sem, p0, p1, p2]) rfl ⟨rfl, FN.out⟩
theorem pnil_take (c i : Int) (A : Option Addr) (n d : Nat) (w : World) : Calls Tryd.prog 28 #[.pointer none, .agg #[.int .i64 c, .int .i64 i, .slice A n d]] w fun e w' => e = .returned (.tuple #[.agg #[.int .i64 0, .int .i64 0, .slice none 0 0], .bool false, .int .i64 2]) ∧ Below w.heap.size w w' := by
  obtain ⟨V, hV, bV, -, h0⟩ := alloc_two w #[.int .i64 c, .int .i64 i, .slice A n d] #[.int .i64 0, .int .i64 0, .slice none 0 0] 24 24
  have h0 : Blk V (w.heap.size + 1) 24 [.int .i64 0, .int .i64 0, .slice none 0 0] := h0
  have r0 := h0.cell 0
  have r1 := h0.cell 1
  have r2 := h0.cell 2
  have e0 := h0.frozen 0
  have e1 := h0.frozen 1
  have e2 := h0.frozen 2
  have lr := Blk.lt h0
  have hb4 := blk3 (x := .int .i64 0) (y := .int .i64 0) (z := .slice none 0 0) h0
  have p0 := hb4.cell 0
  have p1 := hb4.cell 1
  have p2 := hb4.cell 2
  have FN : Hid (Below w.heap.size w (((V.setCell ⟨w.heap.size + 1, 0, none⟩ (.int .i64 0)).setCell ⟨w.heap.size + 1, 1, none⟩ (.int .i64 0)).setCell ⟨w.heap.size + 1, 2, none⟩ (.slice none 0 0))) := below_row bV (gset3 _ _ _ _ _) (by omega)
  have HV := Lib.hid hV
  clear hV bV h0 hb4
  go_enter Tryd.func28, Tryd.ntmps28
  go_wp2_with (rw [HV.out])
  exact bodyPost_ret (v := .tuple #[.agg #[.int .i64 0, .int .i64 0, .slice none 0 0], .bool false, .int .i64 2]) (by simp [results, Tryd.results28, go_sem, p0, p1, p2]) rfl ⟨rfl, FN.out⟩
theorem snil_state (w : World) : Calls Tryd.prog 24 #[.pointer none] w fun e w' => e = .returned (.int .i64 0) ∧ w = w' := by
  go_enter Tryd.func24, Tryd.ntmps24
  go_wp2
  go_ret
  exact ⟨rfl, rfl⟩
theorem snil_who (w : World) : Calls Tryd.prog 26 #[.pointer none] w fun e w' => e = .returned (.string ⟨#[]⟩) ∧ w = w' := by
  go_enter Tryd.func26, Tryd.ntmps26
  go_wp2
  go_ret
  exact ⟨rfl, rfl⟩
theorem pnil_state (w : World) : Calls Tryd.prog 30 #[.pointer none] w fun e w' => e = .returned (.int .i64 0) ∧ w = w' := by
  go_enter Tryd.func30, Tryd.ntmps30
  go_wp2
  go_ret
  exact ⟨rfl, rfl⟩
theorem pnil_notice (w : World) : Calls Tryd.prog 32 #[.pointer none] w fun e w' => e = .returned (.string ⟨#[]⟩) ∧ w = w' := by
  go_enter Tryd.func32, Tryd.ntmps32
  go_wp2
  go_ret
  exact ⟨rfl, rfl⟩
end Go.Proofs.YtjimoegegigoiaaDoor
namespace Go.Proofs.YtjimoegegigoiaaDoor
open Go.RowKit Go.Shelf
set_option maxRecDepth 100000
set_option maxHeartbeats 1000000
set_option linter.unusedSimpArgs false
set_option linter.unusedVariables false

theorem own_rd {w : World} {base n c : Nat} {A : Option Addr} {l : List UInt8} (h : Own w base (.slice A n c) l) : Rd w w.heap.size A n l ∧ n ≤ c ∧ (A = none → c = 0) := by
  rcases h.2 with ⟨e, h0⟩ | ⟨g, cap, cur, e, hb, hg, hc, hm, _⟩
  · injection e with e1 e2 e3
    subst e1; subst e2; subst e3
    rw [List.eq_nil_of_length_eq_zero h0]
    exact ⟨Rd.nil, Nat.le_refl _, fun _ => rfl⟩
  · injection e with e1 e2 e3
    subst e1; subst e2; subst e3
    refine ⟨?_, hc, fun h => by cases h⟩
    have r := Own.rd h rfl l.length (Nat.le_refl _)
    rwa [List.take_length] at r
theorem below_some {W W' : World} {g : Nat} (h : Below W.heap.size W W') : W.grownBy W' (some g) := below_only h
theorem grown_new {w W W' : World} {g : Nat} (h : w.grownBy W (some g)) (k : W.grownBy W' (some w.heap.size)) : w.grownBy W' (some g) :=
  ⟨k.os.trans h.os, k.tape.trans h.tape, k.output.trans h.output, Nat.le_trans h.size k.size, fun i hi hne => (k.block i (Nat.lt_of_lt_of_le hi h.size) (by intro e; injection e with e; omega)).trans (h.block i hi hne)⟩
theorem SecRd.of_lo {w : World} {lo B n : Nat} {A : Option Addr} {ss : List Sec} (h : SecLo w lo B A n ss) (hB : B ≤ w.heap.size) : SecRd w w.heap.size A n ss := h.rd.wide hB
theorem tabL_at {W : World} {lo B tb : Nat} {ss : List Sec} (h : TabL W lo B tb ss) (hB : B ≤ W.heap.size) : TableAt W tb ss := by
  obtain ⟨A, n, c, mb, h1, h2, h3, h4, h5, h6, h7⟩ := h
  exact ⟨A, n, c, mb, h3, h4.rd.wide hB, h7⟩
/-- an authenticator's cells -/
def svC (name : ByteArray) (tb : Nat) (tries st lc li : Int) (s : Value) (tried : Int) (cl who : ByteArray) : List Value :=
  [.string name, .pointer (some ⟨tb, 0, none⟩), .int .i64 tries, .int .i64 st, .int .i64 lc, .int .i64 li, s, .int .i64 tried, .string cl, .string who]
/-- what becomes of an authenticator -/
structure SvS where
  st : Int
  lc : Int
  li : Int
  L : List UInt8
  tried : Int
  cl : ByteArray
  who : ByteArray
structure SvAt (W : World) (lo g tb : Nat) (name : ByteArray) (tries : Int) (ss : List Sec) (s : SvS) : Prop where
  blk : ∃ D k d, Blk W g 95 (svC name tb tries s.st s.lc s.li (.slice D k d) s.tried s.cl s.who) ∧ Own W (g + 1) (.slice D k d) s.L
  tab : TabL W lo g tb ss
  tk : TabK W
  ts : TabS W
theorem SvAt.lt {W : World} {lo g tb : Nat} {name : ByteArray} {tries : Int} {ss : List Sec} {s : SvS} (h : SvAt W lo g tb name tries ss s) : g < W.heap.size := by
  obtain ⟨D, k, d, hb, _⟩ := h.blk
  exact Blk.lt hb
theorem SvAt.later {W W' : World} {lo g tb : Nat} {name : ByteArray} {tries : Int} {ss : List Sec} {s : SvS} (h : SvAt W lo g tb name tries ss s) (hB : Below W.heap.size W W') : SvAt W' lo g tb name tries ss s := by
  have hl := h.lt
  obtain ⟨⟨D, k, d, hb, ho⟩, ht, hk, hs⟩ := h
  exact ⟨⟨D, k, d, past_same hb hB, ho.later hB⟩, ht.same fun i _ hi => hB.block i (Nat.lt_trans hi hl), hk.kept hB, hs.kept hB⟩
theorem row_off {w w' : World} {b g t : Nat} {s : ByteArray} {cs : List Value} {k : IntKind} {z : Int} (h : w.cell? ⟨b, 0, none⟩ = some (.int k z)) (hb : Blk w g t (.string s :: cs)) (hG : w.grownBy w' (some g)) (i : Nat) : w'.cell? ⟨b, i, none⟩ = w.cell? ⟨b, i, none⟩ := by
  have hl : b < w.heap.size := World.block_lt_of_cell? _ _ h
  have hne : b ≠ g := by
    rintro rfl
    rw [hb.cell] at h
    simp at h
  exact World.cell?_of_block (hG.block b hl (by simpa using hne))
theorem TabK.row {w w' : World} {g t : Nat} {s : ByteArray} {cs : List Value} (h : TabK w) (hb : Blk w g t (.string s :: cs)) (hG : w.grownBy w' (some g)) : TabK w' := fun i hi => (row_off (h 0 (by omega)) hb hG i).trans (h i hi)
theorem TabS.row {w w' : World} {g t : Nat} {s : ByteArray} {cs : List Value} (h : TabS w) (hb : Blk w g t (.string s :: cs)) (hG : w.grownBy w' (some g)) : TabS w' := fun i hi => (row_off (h 0 (by omega)) hb hG i).trans (h i hi)
theorem request_c (g : Nat) (name : ByteArray) (tb : Nat) (tries st lc li tried : Int) (cl who : ByteArray) (D : Option Addr) (k d B : Nat) (l : List UInt8) (w : World) (h : Blk w g 95 (svC name tb tries st lc li (.slice D k d) tried cl who)) (hr : Rd w B D k l) (hB : B ≤ w.heap.size) (hnil : D = none → d = 0) (hk : k ≤ 140737488355328) :
    Calls Tryd.prog 57 #[.pointer (some ⟨g, 0, none⟩)] w fun e w' => ∃ D' k' d', e = .returned (.agg #[.int .i64 lc, .int .i64 li, .slice D' k' d']) ∧ Own w' w.heap.size (.slice D' k' d') l ∧ Below w.heap.size w w' := by
  obtain ⟨V, hV⟩ : ∃ V, w.alloc (.cells #[.int .i64 0, .int .i64 0, .slice none 0 0] 24) = V := ⟨_, rfl⟩
  have bV : Below w.heap.size w V := by rw [← hV]; exact (Below.refl _ _).alloc (Nat.le_refl _) _
  have zV : V.heap.size = w.heap.size + 1 := by rw [← hV]; simp
  have h0 : Blk V w.heap.size 24 [.int .i64 0, .int .i64 0, .slice none 0 0] := by rw [← hV]; exact heap_alloc_new w _
  have hg : Blk V g 95 (svC name tb tries st lc li (.slice D k d) tried cl who) := past_same h bV
  obtain ⟨U, hU⟩ : ∃ U, V.alloc (.cells #[.int .i64 lc, .int .i64 li, .slice D k d] 24) = U := ⟨_, rfl⟩
  have bU : Below V.heap.size V U := by rw [← hU]; exact (Below.refl _ _).alloc (Nat.le_refl _) _
  have zU : U.heap.size = V.heap.size + 1 := by rw [← hU]; simp
  have h1 : Blk U V.heap.size 24 [.int .i64 lc, .int .i64 li, .slice D k d] := by rw [← hU]; exact heap_alloc_new V _
  have BU := step_to bV bU
  have c4 : V.cell? ⟨g, 4, none⟩ = some (.int .i64 lc) := hg.cell 4
  have c5 : V.cell? ⟨g, 5, none⟩ = some (.int .i64 li) := hg.cell 5
  have c6 : V.cell? ⟨g, 6, none⟩ = some (.slice D k d) := hg.cell 6
  have u2 : U.cell? ⟨V.heap.size, 2, none⟩ = some (.slice D k d) := h1.cell 2
  have CL : Hid (Calls Tryd.prog 63 #[.slice D k d] U fun e w1 => ∃ D' k' d', e = .returned (.slice D' k' d') ∧ Blk w1 w.heap.size 24 [.int .i64 0, .int .i64 0, .slice none 0 0] ∧ ∃ w2, w1.setCell ⟨V.heap.size, 2, none⟩ (.slice D' k' d') = w2 ∧ Blk w1 V.heap.size 24 [.int .i64 lc, .int .i64 li, .slice D k d] ∧
      Blk w2 V.heap.size 24 [.int .i64 lc, .int .i64 li, .slice D' k' d'] ∧ Blk w2 w.heap.size 24 [.int .i64 0, .int .i64 0, .slice none 0 0] ∧ w.heap.size ≠ V.heap.size ∧
      ∀ W', w2.grownBy W' (some w.heap.size) → Own W' w.heap.size (.slice D' k' d') l ∧ Below w.heap.size w W') := by
    refine (bclone_any D k d B l U (hr.below (BU.mono hB)) (Nat.le_trans hB BU.size) hnil hk).mono ?_
    rintro e w1 ⟨v, rfl, o1, b1⟩
    obtain ⟨D', d', hv⟩ : ∃ D' d', v = .slice D' l.length d' := by
      rcases o1.form with ⟨e, hh⟩ | ⟨g', cap, e, _⟩
      · exact ⟨none, 0, by rw [e, hh]; rfl⟩
      · exact ⟨_, _, e⟩
    subst hv
    have k1 := past_same h1 b1
    have k0 := past_same (past_same h0 bU) b1
    have gs := gset' w1 V.heap.size 2 (.slice D' l.length d')
    refine ⟨D', _, d', rfl, k0, _, rfl, k1, Blk.set_ k1 2 _, blk_off k0 gs (by omega), by omega, fun W' gW => ?_⟩
    have hob := o1.block
    have hne : ∀ q, q < U.heap.size → (Value.slice D' l.length d').ownBlock = none ∨ (Value.slice D' l.length d').ownBlock ≠ some q := fun q hq => .inr fun e => by have := (hob q e).1; omega
    have h6 := (o1.grown gs (hne _ (by omega))).grown gW (hne _ (by omega))
    refine ⟨⟨h6.1, ?_⟩, below_row (below_row (step_to BU b1) gs (by omega)) gW (Nat.le_refl _)⟩
    rcases h6.2 with h | ⟨g', cap', cur, e1, e2, e3⟩
    · exact .inl h
    · exact .inr ⟨g', cap', cur, e1, by omega, e3⟩
  have HV := Lib.hid hV
  have HU := Lib.hid hU
  have lg : g < V.heap.size := Blk.lt hg
  clear h hV bV h0 hg hU bU zU h1 BU hr hB hnil hk zV
  go_enter Tryd.func57, Tryd.ntmps57
  go_wp2_with (first
    | (rw [HV.out])
    | (rw [HU.out])
    | (go_at_call 63; ((with_reducible refine CL.out.mono ?_); rintro e w1 ⟨D', k', d', rfl, k0, w2, hw2, k1, k2, k3, hne, f1⟩; have HW2 := Lib.hid hw2; have q0 := k1.cell 0; have q1 := k1.cell 1; have q2 := k1.cell 2; have g2 := k1.frozen 2; have l1 := Blk.lt k1; have s0 := k2.cell 0; have s1 := k2.cell 1; have s2 := k2.cell 2; have r0 := k3.cell 0; have r1 := k3.cell 1; have r2 := k3.cell 2; have f0 := k3.frozen 0; have f3 := k3.frozen 1; have f4 := k3.frozen 2; have l3 := Blk.lt k3; have K3 := Lib.hid k3; have F1 := Lib.hid f1; clear k0 k1 k2 k3 f1 hw2))
    | (rw [HW2.out]))
  have hb4 := blk3 (x := .int .i64 lc) (y := .int .i64 li) (z := .slice D' k' d') K3.out
  have p0 := hb4.cell 0
  have p1 := hb4.cell 1
  have p2 := hb4.cell 2
  obtain ⟨ff1, ff2⟩ := F1.out _ (gset3 w2 w.heap.size (.int .i64 lc) (.int .i64 li) (.slice D' k' d'))
  exact bodyPost_ret (v := .agg #[.int .i64 lc, .int .i64 li, .slice D' k' d']) (by simp [results, Tryd.results57, go_sem, p0, p1, p2]) rfl ⟨D', k', d', rfl, ff1, ff2⟩
/-- the last request once more -/
def ReqR (w : World) (lc li : Int) (L : List UInt8) (e : Ending) (w' : World) : Prop := ∃ D k d, e = .returned (.agg #[.int .i64 lc, .int .i64 li, .slice D k d]) ∧ Own w' w.heap.size (.slice D k d) L ∧ Below w.heap.size w w'
theorem request_any (lo g tb : Nat) (name : ByteArray) (tries : Int) (ss : List Sec) (s : SvS) (w : World) (h : SvAt w lo g tb name tries ss s) (hL : s.L.length ≤ 140737488355328) :
    Calls Tryd.prog 57 #[.pointer (some ⟨g, 0, none⟩)] w (ReqR w s.lc s.li s.L) := by
  obtain ⟨D, k, d, hb, ho⟩ := h.blk
  have hr := own_rd ho
  exact request_c g name tb tries s.st s.lc s.li s.tried s.cl s.who D k d w.heap.size s.L w hb hr.1 (Nat.le_refl _) hr.2.2 (by have := hr.1.1; omega)
end Go.Proofs.YtjimoegegigoiaaDoor
namespace Go.Proofs.YtjimoegegigoiaaDoor
open Go.RowKit Go.Shelf
set_option maxRecDepth 100000
set_option maxHeartbeats 1000000
set_option linter.unusedSimpArgs false
set_option linter.unusedVariables false

def trB (z : Int) : Bool := decide (1 ≤ z) && decide (z ≤ 255)
def sv0 : SvS := ⟨0, 0, 0, [], 0, ⟨#[]⟩, ⟨#[]⟩⟩
/-- what NewServer answers -/
def NsR (w : World) (name : ByteArray) (tries : Int) (ss : List Sec) (e : Ending) (w' : World) : Prop :=
  Below w.heap.size w w' ∧ ((nameB name = false ∧ e = .returned (.tuple #[.pointer none, .int .i64 60, .int .i64 0])) ∨ (nameB name = true ∧ trB tries = false ∧ e = .returned (.tuple #[.pointer none, .int .i64 1, .int .i64 0])) ∨
    (nameB name = true ∧ trB tries = true ∧ (chk ss).1 ≠ 0 ∧ e = .returned (.tuple #[.pointer none, .int .i64 (chk ss).1, .int .i64 (chk ss).2])) ∨
    (nameB name = true ∧ trB tries = true ∧ (chk ss).1 = 0 ∧ ∃ g tb, w.heap.size ≤ tb ∧ tb < g ∧ e = .returned (.tuple #[.pointer (some ⟨g, 0, none⟩), .int .i64 0, .int .i64 0]) ∧ SvAt w' w.heap.size g tb name tries ss sv0))
theorem newServer_any (name : ByteArray) (tries : Int) (A : Option Addr) (n c B : Nat) (ss : List Sec) (w : World) (hn : name.size ≤ maxLen) (h : SecRd w B A n ss) (hB : B ≤ w.heap.size) (hK : TabK w) (hS : TabS w) :
    Calls Tryd.prog 19 #[.string name, .slice A n c, .int .i64 tries] w (NsR w name tries ss) := by
  have NM := Lib.hid (fun W => name_any name W hn)
  have NW := new_any A n c B ss w h hB
  cases hb : nameB name
  · have RES : Hid (NsR w name tries ss (.returned (.tuple #[.pointer none, .int .i64 60, .int .i64 0])) w) := ⟨Below.refl _ _, .inl ⟨hb, rfl⟩⟩
    rw [hb] at NM
    clear h NW hb hK hS
    go_enter Tryd.func19, Tryd.ntmps19
    go_wp2_with (go_at_call 46; ((with_reducible refine (NM.out _).mono ?_); rintro e w' ⟨rfl, rfl⟩))
    exact bodyPost_ret (v := .tuple #[.pointer none, .int .i64 60, .int .i64 0]) (by simp [results, Tryd.results19, go_sem]) rfl RES.out
  rw [hb] at NM
  cases ht : trB tries
  · have RES : Hid (NsR w name tries ss (.returned (.tuple #[.pointer none, .int .i64 1, .int .i64 0])) w) := ⟨Below.refl _ _, .inr (.inl ⟨hb, ht, rfl⟩)⟩
    unfold trB at ht
    by_cases h1 : tries < 1
    · clear h NW hb hK hS ht
      go_enter Tryd.func19, Tryd.ntmps19
      go_wp2_with (go_at_call 46; ((with_reducible refine (NM.out _).mono ?_); rintro e w' ⟨rfl, rfl⟩))
      exact bodyPost_ret (v := .tuple #[.pointer none, .int .i64 1, .int .i64 0]) (by simp [results, Tryd.results19, go_sem]) rfl RES.out
    · have h2 : 255 < tries := by
        rw [decide_eq_true (by omega)] at ht
        simpa using ht
      clear h NW hb hK hS ht
      go_enter Tryd.func19, Tryd.ntmps19
      go_wp2_with (go_at_call 46; ((with_reducible refine (NM.out _).mono ?_); rintro e w' ⟨rfl, rfl⟩))
      exact bodyPost_ret (v := .tuple #[.pointer none, .int .i64 1, .int .i64 0]) (by simp [results, Tryd.results19, go_sem]) rfl RES.out
  have ht2 := ht
  unfold trB at ht2
  have h1 : ¬ tries < 1 := by simp at ht2; omega
  have h2 : ¬ 255 < tries := by simp at ht2; omega
  clear ht2
  obtain ⟨q1, hq1⟩ : ∃ q1, (chk ss).1 = q1 := ⟨_, rfl⟩
  obtain ⟨q2, hq2⟩ : ∃ q2, (chk ss).2 = q2 := ⟨_, rfl⟩
  by_cases h0 : q1 = 0
  · subst h0
    have C : Hid (Calls Tryd.prog 47 #[.slice A n c] w fun e w1 => ∃ tb, e = .returned (.tuple #[.pointer (some ⟨tb, 0, none⟩), .int .i64 0, .int .i64 0]) ∧ NsR w name tries ss (.returned (.tuple #[.pointer (some ⟨w1.heap.size, 0, none⟩), .int .i64 0, .int .i64 0])) (w1.alloc (.cells (svC name tb tries 0 0 0 (.slice none 0 0) 0 ⟨#[]⟩ ⟨#[]⟩).toArray 95))) := by
      refine NW.mono ?_
      rintro e w1 ⟨b1, ⟨h, -⟩ | ⟨-, tb, hg, rfl, htb, htl2⟩⟩
      · exact absurd hq1 h
      · refine ⟨tb, rfl, ?_⟩
        have hBa : Below w1.heap.size w1 (w1.alloc (.cells (svC name tb tries 0 0 0 (.slice none 0 0) 0 ⟨#[]⟩ ⟨#[]⟩).toArray 95)) := (Below.refl _ _).alloc (Nat.le_refl _) _
        have htl : tb < w1.heap.size := by obtain ⟨A', n', c', mb, hbk, _⟩ := htb; exact Blk.lt hbk
        have BW := step_to b1 hBa
        exact ⟨BW, .inr (.inr (.inr ⟨hb, ht, hq1, w1.heap.size, tb, hg, htl, rfl, ⟨⟨none, 0, 0, heap_alloc_new w1 _, Own.nil _ _⟩, htl2.same fun i _ hi => hBa.block i hi, hK.kept BW, hS.kept BW⟩⟩))⟩
    unfold svC at C
    clear h NW hb ht hq1 hq2 hK hS
    go_enter Tryd.func19, Tryd.ntmps19
    go_wp2_with (first
      | (go_at_call 46; ((with_reducible refine (NM.out _).mono ?_); rintro e w' ⟨rfl, rfl⟩))
      | (go_at_call 47; ((with_reducible refine C.out.mono ?_); rintro e w1 ⟨tb, rfl, h1⟩; have H1 := Lib.hid h1; clear h1)))
    exact bodyPost_ret (v := .tuple #[.pointer (some ⟨w1.heap.size, 0, none⟩), .int .i64 0, .int .i64 0]) (by simp [results, Tryd.results19, go_sem]) rfl H1.out
  · have C : Hid (Calls Tryd.prog 47 #[.slice A n c] w fun e w1 => e = .returned (.tuple #[.pointer none, .int .i64 q1, .int .i64 q2]) ∧ NsR w name tries ss (.returned (.tuple #[.pointer none, .int .i64 q1, .int .i64 q2])) w1) := by
      refine NW.mono ?_
      rintro e w1 ⟨b1, ⟨h, rfl⟩ | ⟨h, -⟩⟩
      · rw [hq1, hq2]
        exact ⟨rfl, b1, .inr (.inr (.inl ⟨hb, ht, h, by rw [hq1, hq2]⟩))⟩
      · exact absurd (hq1.symm.trans h) h0
    clear h NW hb ht hq1 hq2 hK hS
    go_enter Tryd.func19, Tryd.ntmps19
    go_wp2_with (first
      | (go_at_call 46; ((with_reducible refine (NM.out _).mono ?_); rintro e w' ⟨rfl, rfl⟩))
      | (go_at_call 47; ((with_reducible refine C.out.mono ?_); rintro e w1 ⟨rfl, h1⟩; have H1 := Lib.hid h1; clear h1)))
    exact bodyPost_ret (v := .tuple #[.pointer none, .int .i64 q1, .int .i64 q2]) (by simp [results, Tryd.results19, go_sem]) rfl H1.out
/-- a peer's cells -/
def pvC (name : ByteArray) (tb : Nat) (st : Int) (no : ByteArray) : List Value := [.string name, .pointer (some ⟨tb, 0, none⟩), .int .i64 st, .string no]
structure PvAt (W : World) (lo g tb : Nat) (name : ByteArray) (ss : List Sec) (st : Int) (no : ByteArray) : Prop where
  blk : Blk W g 102 (pvC name tb st no)
  tab : TabL W lo g tb ss
  tk : TabK W
  ts : TabS W
theorem PvAt.lt {W : World} {lo g tb : Nat} {name : ByteArray} {ss : List Sec} {st : Int} {no : ByteArray} (h : PvAt W lo g tb name ss st no) : g < W.heap.size := Blk.lt h.blk
theorem PvAt.later {W W' : World} {lo g tb : Nat} {name : ByteArray} {ss : List Sec} {st : Int} {no : ByteArray} (h : PvAt W lo g tb name ss st no) (hB : Below W.heap.size W W') : PvAt W' lo g tb name ss st no :=
  ⟨past_same h.blk hB, h.tab.same fun i _ hi => hB.block i (Nat.lt_trans hi h.lt), h.tk.kept hB, h.ts.kept hB⟩
/-- what NewPeer answers -/
def NpR (w : World) (name : ByteArray) (ss : List Sec) (e : Ending) (w' : World) : Prop :=
  Below w.heap.size w w' ∧ ((nameB name = false ∧ e = .returned (.tuple #[.pointer none, .int .i64 60, .int .i64 0])) ∨
    (nameB name = true ∧ (chk ss).1 ≠ 0 ∧ e = .returned (.tuple #[.pointer none, .int .i64 (chk ss).1, .int .i64 (chk ss).2])) ∨
    (nameB name = true ∧ (chk ss).1 = 0 ∧ ∃ g tb, w.heap.size ≤ tb ∧ tb < g ∧ e = .returned (.tuple #[.pointer (some ⟨g, 0, none⟩), .int .i64 0, .int .i64 0]) ∧ PvAt w' w.heap.size g tb name ss 0 ⟨#[]⟩))
theorem newPeer_any (name : ByteArray) (A : Option Addr) (n c B : Nat) (ss : List Sec) (w : World) (hn : name.size ≤ maxLen) (h : SecRd w B A n ss) (hB : B ≤ w.heap.size) (hK : TabK w) (hS : TabS w) :
    Calls Tryd.prog 27 #[.string name, .slice A n c] w (NpR w name ss) := by
  have NM := Lib.hid (fun W => name_any name W hn)
  have NW := new_any A n c B ss w h hB
  cases hb : nameB name
  · have RES : Hid (NpR w name ss (.returned (.tuple #[.pointer none, .int .i64 60, .int .i64 0])) w) := ⟨Below.refl _ _, .inl ⟨hb, rfl⟩⟩
    rw [hb] at NM
    clear h NW hb hK hS
    go_enter Tryd.func27, Tryd.ntmps27
    go_wp2_with (go_at_call 46; ((with_reducible refine (NM.out _).mono ?_); rintro e w' ⟨rfl, rfl⟩))
    exact bodyPost_ret (v := .tuple #[.pointer none, .int .i64 60, .int .i64 0]) (by simp [results, Tryd.results27, go_sem]) rfl RES.out
  rw [hb] at NM
  obtain ⟨q1, hq1⟩ : ∃ q1, (chk ss).1 = q1 := ⟨_, rfl⟩
  obtain ⟨q2, hq2⟩ : ∃ q2, (chk ss).2 = q2 := ⟨_, rfl⟩
  by_cases h0 : q1 = 0
  · subst h0
    have C : Hid (Calls Tryd.prog 47 #[.slice A n c] w fun e w1 => ∃ tb, e = .returned (.tuple #[.pointer (some ⟨tb, 0, none⟩), .int .i64 0, .int .i64 0]) ∧ NpR w name ss (.returned (.tuple #[.pointer (some ⟨w1.heap.size, 0, none⟩), .int .i64 0, .int .i64 0])) (w1.alloc (.cells (pvC name tb 0 ⟨#[]⟩).toArray 102))) := by
      refine NW.mono ?_
      rintro e w1 ⟨b1, ⟨h, -⟩ | ⟨-, tb, hg, rfl, htb, htl2⟩⟩
      · exact absurd hq1 h
      · refine ⟨tb, rfl, ?_⟩
        have hBa : Below w1.heap.size w1 (w1.alloc (.cells (pvC name tb 0 ⟨#[]⟩).toArray 102)) := (Below.refl _ _).alloc (Nat.le_refl _) _
        have htl : tb < w1.heap.size := by obtain ⟨A', n', c', mb, hbk, _⟩ := htb; exact Blk.lt hbk
        have BW := step_to b1 hBa
        exact ⟨BW, .inr (.inr ⟨hb, hq1, w1.heap.size, tb, hg, htl, rfl, ⟨heap_alloc_new w1 _, htl2.same fun i _ hi => hBa.block i hi, hK.kept BW, hS.kept BW⟩⟩)⟩
    unfold pvC at C
    clear h NW hb hq1 hq2 hK hS
    go_enter Tryd.func27, Tryd.ntmps27
    go_wp2_with (first
      | (go_at_call 46; ((with_reducible refine (NM.out _).mono ?_); rintro e w' ⟨rfl, rfl⟩))
      | (go_at_call 47; ((with_reducible refine C.out.mono ?_); rintro e w1 ⟨tb, rfl, h1⟩; have H1 := Lib.hid h1; clear h1)))
    exact bodyPost_ret (v := .tuple #[.pointer (some ⟨w1.heap.size, 0, none⟩), .int .i64 0, .int .i64 0]) (by simp [results, Tryd.results27, go_sem]) rfl H1.out
  · have C : Hid (Calls Tryd.prog 47 #[.slice A n c] w fun e w1 => e = .returned (.tuple #[.pointer none, .int .i64 q1, .int .i64 q2]) ∧ NpR w name ss (.returned (.tuple #[.pointer none, .int .i64 q1, .int .i64 q2])) w1) := by
      refine NW.mono ?_
      rintro e w1 ⟨b1, ⟨h, rfl⟩ | ⟨h, -⟩⟩
      · rw [hq1, hq2]
        exact ⟨rfl, b1, .inr (.inl ⟨hb, h, by rw [hq1, hq2]⟩)⟩
      · exact absurd (hq1.symm.trans h) h0
    clear h NW hb hq1 hq2 hK hS
    go_enter Tryd.func27, Tryd.ntmps27
    go_wp2_with (first
      | (go_at_call 46; ((with_reducible refine (NM.out _).mono ?_); rintro e w' ⟨rfl, rfl⟩))
      | (go_at_call 47; ((with_reducible refine C.out.mono ?_); rintro e w1 ⟨rfl, h1⟩; have H1 := Lib.hid h1; clear h1)))
    exact bodyPost_ret (v := .tuple #[.pointer none, .int .i64 q1, .int .i64 q2]) (by simp [results, Tryd.results27, go_sem]) rfl H1.out
end Go.Proofs.YtjimoegegigoiaaDoor
namespace Go.Proofs.YtjimoegegigoiaaDoor
open Go.RowKit Go.Shelf
set_option maxRecDepth 100000
set_option maxHeartbeats 1000000
set_option linter.unusedSimpArgs false
set_option linter.unusedVariables false

def askS (s : SvS) (st : Int) (L : List UInt8) : SvS := { s with st := st, lc := 1, li := (s.li + 1) % 256, L := L, tried := 1 }
/-- what follows on a call that asks -/
def AskR (w : World) (lo g tb : Nat) (name : ByteArray) (tries : Int) (ss : List Sec) (s : SvS) (e : Ending) (w' : World) : Prop :=
  ∃ D k d, e = .returned (.agg #[.int .i64 s.lc, .int .i64 s.li, .slice D k d]) ∧ Own w' w.heap.size (.slice D k d) s.L ∧ w.grownBy w' (some g) ∧ SvAt w' lo g tb name tries ss s ∧ ∃ E m f, Blk w' g 95 (svC name tb tries s.st s.lc s.li (.slice E m f) s.tried s.cl s.who) ∧ Own w' w.heap.size (.slice E m f) s.L
theorem SvAt.row {W W' : World} {lo g tb : Nat} {name : ByteArray} {tries : Int} {ss : List Sec} {s s' : SvS} (h : SvAt W lo g tb name tries ss s) (hG : W.grownBy W' (some g)) (hb : ∃ D k d, Blk W' g 95 (svC name tb tries s'.st s'.lc s'.li (.slice D k d) s'.tried s'.cl s'.who) ∧ Own W' (g + 1) (.slice D k d) s'.L) : SvAt W' lo g tb name tries ss s' := by
  have hl := h.lt
  obtain ⟨⟨D, k, d, hb0, ho⟩, ht, hk, hs⟩ := h
  exact ⟨hb, ht.same fun i _ hi => hG.block i (Nat.lt_trans hi hl) (by intro e; injection e with e; omega), hk.row hb0 hG, hs.row hb0 hG⟩
theorem ask_any (lo g tb : Nat) (name : ByteArray) (tries : Int) (ss : List Sec) (s : SvS) (st C I T : Int) (A : Option Addr) (n c B : Nat) (l : List UInt8) (t : ByteArray) (w : World) (h : SvAt w lo g tb name tries ss s) (i0 : 0 ≤ s.li) (i1 : s.li ≤ 255)
    (hr : Rd w B A n l) (hB : B ≤ w.heap.size) (hnil : A = none → c = 0) (hn : n ≤ 140737488351232) (hm : t.size ≤ 140737488351232) (he : wrE 1 ((s.li + 1) % 256) T n l t = 0) (hL : (dtL 1 T l t).length ≤ 140737488355328) :
    Calls Tryd.prog 48 #[.pointer (some ⟨g, 0, none⟩), .int .i64 st, msV C I T A n c t] w (AskR w lo g tb name tries ss (askS s st (dtL 1 T l t))) := by
  obtain ⟨D0, k0, d0, hb, ho⟩ := h.blk
  obtain ⟨I', hI⟩ : ∃ I', (s.li + 1) % 256 = I' := ⟨_, rfl⟩
  obtain ⟨L, hLe⟩ : ∃ L, dtL 1 T l t = L := ⟨_, rfl⟩
  have sS : askS s st L = { s with st := st, lc := 1, li := I', L := L, tried := 1 } := by unfold askS; rw [hI]
  rw [hLe] at hL
  rw [hI] at he
  rw [hLe, sS]
  have I0 : 0 ≤ I' := by omega
  have I1 : I' ≤ 255 := by omega
  have lg : g < w.heap.size := h.lt
  obtain ⟨V, hV, bV, m0, p0⟩ := alloc_two w #[.int .i64 C, .int .i64 I, .int .i64 T, .slice A n c, .string t] #[.int .i64 0, .int .i64 0, .slice none 0 0] 26 24
  have hm0 : Blk V w.heap.size 26 [.int .i64 C, .int .i64 I, .int .i64 T, .slice A n c, .string t] := m0
  have hp0 : Blk V (w.heap.size + 1) 24 [.int .i64 0, .int .i64 0, .slice none 0 0] := p0
  have hg := past_same hb bV
  have C1 : Hid (∀ X, w.grownBy X none ∧ Blk X (w.heap.size + 1) 24 [.int .i64 0, .int .i64 0, .slice none 0 0] → Calls Tryd.prog 14 #[.agg #[.int .i64 1, .int .i64 I', .int .i64 T, .slice A n c, .string t]] X fun e w1 => ∃ D1 k1 d1, e = .returned (.tuple #[.agg #[.int .i64 1, .int .i64 I', .slice D1 k1 d1], .int .i64 0]) ∧
      Blk w1 g 95 (svC name tb tries s.st s.lc s.li (.slice D0 k0 d0) s.tried s.cl s.who) ∧
      ∃ Y, ((((w1.setCell ⟨g, 4, none⟩ (.int .i64 1)).setCell ⟨g, 5, none⟩ (.int .i64 I')).setCell ⟨g, 6, none⟩ (.slice D1 k1 d1)).setCell ⟨g, 3, none⟩ (.int .i64 st)).setCell ⟨g, 7, none⟩ (.int .i64 1) = Y ∧
      Calls Tryd.prog 57 #[.pointer (some ⟨g, 0, none⟩)] Y fun e w3 => ∃ D k d, e = .returned (.agg #[.int .i64 1, .int .i64 I', .slice D k d]) ∧ Blk w3 (w.heap.size + 1) 24 [.int .i64 0, .int .i64 0, .slice none 0 0] ∧
        ∀ W', w3.grownBy W' (some (w.heap.size + 1)) → AskR w lo g tb name tries ss { s with st := st, lc := 1, li := I', L := L, tried := 1 } (.returned (.agg #[.int .i64 1, .int .i64 I', .slice D k d])) W') := by
    rintro X ⟨gX, pX⟩
    have bX : Below w.heap.size w X := ⟨gX.os, gX.tape, gX.output, gX.size, fun i hi => gX.block i hi (by simp)⟩
    have M := write_any 1 I' T A n c B l t X (hr.below (bX.mono hB)) (Nat.le_trans hB bX.size) hnil hn hm
    rw [he, hLe] at M
    refine M.mono ?_
    rintro e w1 ⟨b1, D1, k1, d1, rfl, o1⟩
    simp only [if_true] at o1 ⊢
    have B1 := step_to bX b1
    have g1 := past_same hb B1
    refine ⟨D1, k1, d1, rfl, g1, ?_⟩
    obtain ⟨Y, hY⟩ : ∃ Y, ((((w1.setCell ⟨g, 4, none⟩ (.int .i64 1)).setCell ⟨g, 5, none⟩ (.int .i64 I')).setCell ⟨g, 6, none⟩ (.slice D1 k1 d1)).setCell ⟨g, 3, none⟩ (.int .i64 st)).setCell ⟨g, 7, none⟩ (.int .i64 1) = Y := ⟨_, rfl⟩
    have gY : w1.grownBy Y (some g) := by
      rw [← hY]
      exact gtrans' (gtrans' (gtrans' (gtrans' (gset' _ _ _ _) (gset' _ _ _ _)) (gset' _ _ _ _)) (gset' _ _ _ _)) (gset' _ _ _ _)
    have kY : Blk Y g 95 (svC name tb tries st 1 I' (.slice D1 k1 d1) 1 s.cl s.who) := by
      rw [← hY]
      exact ((((g1.set_ 4 _).set_ 5 _).set_ 6 _).set_ 3 _).set_ 7 _
    have pY : Blk Y (w.heap.size + 1) 24 [.int .i64 0, .int .i64 0, .slice none 0 0] := blk_off (past_same pX b1) gY (by omega)
    have hob := o1.block
    have hsX := bX.size
    have hne : (Value.slice D1 k1 d1).ownBlock = none ∨ (Value.slice D1 k1 d1).ownBlock ≠ some g := .inr fun e => by have := (hob g e).1; omega
    have oY := o1.grown gY hne
    have RY := own_rd oY
    refine ⟨Y, hY, ?_⟩
    refine (request_c g name tb tries st 1 I' 1 s.cl s.who D1 k1 d1 Y.heap.size L Y kY RY.1 (Nat.le_refl _) RY.2.2 (by have := RY.1.1; omega)).mono ?_
    rintro e w3 ⟨D, k, d, rfl, o3, b3⟩
    refine ⟨D, k, d, rfl, past_same pY b3, fun W' hW => ?_⟩
    have lY : w.heap.size + 1 < Y.heap.size := Blk.lt pY
    have hne1 : (Value.slice D1 k1 d1).ownBlock = none ∨ (Value.slice D1 k1 d1).ownBlock ≠ some (w.heap.size + 1) := .inr fun e => by
      have h1 := (hob _ e).1
      have h2 := Blk.lt pX
      omega
    have hne3 : (Value.slice D k d).ownBlock = none ∨ (Value.slice D k d).ownBlock ≠ some (w.heap.size + 1) := .inr fun e => by have := (o3.block _ e).1; omega
    have G3 : w.grownBy w3 (some g) := gtrans' (gtrans' (below_some B1) gY) (below_some b3)
    have GW : w.grownBy W' (some g) := ⟨hW.os.trans G3.os, hW.tape.trans G3.tape, hW.output.trans G3.output, Nat.le_trans G3.size hW.size, fun i hi hne => (hW.block i (Nat.lt_of_lt_of_le hi G3.size) (by intro e; injection e with e; omega)).trans (G3.block i hi hne)⟩
    have kW := blk_off (past_same kY b3) hW (by omega)
    have oW := (oY.later b3).grown hW hne1
    exact ⟨D, k, d, rfl, eown_wide (o3.grown hW hne3) (by omega), GW, h.row GW ⟨D1, k1, d1, kW, eown_wide oW (by omega)⟩, D1, k1, d1, kW, eown_wide oW (by omega)⟩
  have gn : ∀ (a b : World) (f : Nat × Value), True := fun _ _ _ => trivial
  have GV : ∀ x y : Value, ∀ i j : Nat, w.grownBy (((V.setCell ⟨w.heap.size, i, none⟩ x).setCell ⟨w.heap.size, j, none⟩ y).drew) none ∧ Blk (((V.setCell ⟨w.heap.size, i, none⟩ x).setCell ⟨w.heap.size, j, none⟩ y).drew) (w.heap.size + 1) 24 [.int .i64 0, .int .i64 0, .slice none 0 0] := by
    intro x y i j
    have g2 := gtrans' (gset' V w.heap.size i x) (gset' (V.setCell ⟨w.heap.size, i, none⟩ x) w.heap.size j y)
    have b2 := below_row bV g2 (Nat.le_refl _)
    have b3 := below_drewS b2 1
    refine ⟨⟨b3.os, b3.tape, b3.output, b3.size, fun i hi _ => b3.block i hi⟩, ?_⟩
    have k2 := blk_off hp0 g2 (by omega)
    exact k2
  have H01 := Lib.hid (GV (.int .i64 1) (.int .i64 I') 0 1)
  have H10 := Lib.hid (GV (.int .i64 I') (.int .i64 1) 1 0)
  have c5 : V.cell? ⟨g, 5, none⟩ = some (.int .i64 s.li) := hg.cell 5
  have m0 := hm0.cell 0
  have m1 := hm0.cell 1
  have m2 := hm0.cell 2
  have m3 := hm0.cell 3
  have m4 := hm0.cell 4
  have f0 := hm0.frozen 0
  have f1 := hm0.frozen 1
  have lm := Blk.lt hm0
  have HV := Lib.hid hV
  obtain ⟨li, hli⟩ : ∃ li, s.li = li := ⟨_, rfl⟩
  rw [hli] at c5 hI i0 i1
  have w1 : IntKind.i64.wrap (li + 1) = li + 1 := by rw [IntKind.wrap_i64]; omega
  have w3 : (li + 1).tmod 256 = I' := by rw [Int.tmod_eq_emod_of_nonneg (by omega)]; exact hI
  have w4 : IntKind.i64.wrap I' = I' := by rw [IntKind.wrap_i64]; omega
  have NE := Lib.hid (show g ≠ w.heap.size by omega)
  clear gn GV bV p0 hm0 hp0 hg hb ho h hr hB hnil hn hm he hL hLe hV sS
  go_enter Tryd.func48, Tryd.ntmps48
  go_wp2_with (rw [HV.out])
  go_region
  go_wp2_with (first
    | (go_at_call 14; ((with_reducible refine (C1.out _ H01.out).mono ?_); rintro e w1 ⟨D1, k1, d1, rfl, g1, Y, hY, n1⟩; have HY := Lib.hid hY; have C2 := Lib.hid n1; have lg1 := Blk.lt g1; have u3 : w1.cell? ⟨g, 3, none⟩ = some (.int .i64 s.st) := g1.cell 3; have u4 : w1.cell? ⟨g, 4, none⟩ = some (.int .i64 s.lc) := g1.cell 4; have u5 : w1.cell? ⟨g, 5, none⟩ = some (.int .i64 s.li) := g1.cell 5; have u6 : w1.cell? ⟨g, 6, none⟩ = some (.slice D0 k0 d0) := g1.cell 6; have u7 : w1.cell? ⟨g, 7, none⟩ = some (.int .i64 s.tried) := g1.cell 7; have f3 := g1.frozen 3; have f4 := g1.frozen 4; have f5 := g1.frozen 5; have f6 := g1.frozen 6; have f7 := g1.frozen 7; clear n1 hY g1))
    | (rw [HY.out])
    | (go_at_call 57; ((with_reducible refine C2.out.mono ?_); rintro e w3 ⟨D, k, d, rfl, k3, f1⟩; have r0 := k3.cell 0; have r1 := k3.cell 1; have r2 := k3.cell 2; have e0 := k3.frozen 0; have e1 := k3.frozen 1; have e2 := k3.frozen 2; have l3 := Blk.lt k3; have K3 := Lib.hid k3; have F1 := Lib.hid f1; clear k3 f1)))
  have hb4 := blk3 (x := .int .i64 1) (y := .int .i64 I') (z := .slice D k d) K3.out
  have p0 := hb4.cell 0
  have p1 := hb4.cell 1
  have p2 := hb4.cell 2
  exact bodyPost_ret (v := .agg #[.int .i64 1, .int .i64 I', .slice D k d]) (by simp [results, Tryd.results48, go_sem, p0, p1, p2]) rfl (F1.out _ (gset3 _ _ _ _ _))
theorem dtL_chal (l : List UInt8) (t : ByteArray) : (dtL 1 4 l t).length = 2 + l.length + t.size := by
  unfold dtL
  rw [if_neg (by decide), if_neg (by decide), if_neg (by decide), if_neg (by decide), if_pos rfl]
  simp
  omega
theorem wrE_chal (li : Int) (n : Nat) (l : List UInt8) (t : ByteArray) (i0 : 0 ≤ li) (h1 : 1 ≤ n) (h2 : n ≤ 255) (hl : l.length = n) (hm : t.size ≤ 64) : wrE 1 ((li + 1) % 256) 4 n l t = 0 := by
  have hi : idB ((li + 1) % 256) = true := by unfold idB; simp; omega
  have hk : fkE 1 4 n t = 0 := by
    unfold fkE chB
    rw [if_neg (by decide), if_neg (by decide), if_neg (by decide), if_neg (by decide), if_pos rfl, if_pos (by simp; omega)]
  unfold wrE
  rw [if_neg (by rw [hi]; decide), if_neg (by decide), if_neg (by rw [hk]; simp), dtL_chal, if_neg (by omega)]
/-- what an authenticator has once it has asked can be -/
structure SvOk (s : SvS) : Prop where
  i0 : 0 ≤ s.li
  i1 : s.li ≤ 255
  c : s.cl.size ≤ maxLen
theorem challenge_any (lo g tb : Nat) (name : ByteArray) (tries : Int) (ss : List Sec) (s : SvS) (A : Option Addr) (n c B : Nat) (l : List UInt8) (w : World) (h : SvAt w lo g tb name tries ss s) (ok : SvOk s)
    (hr : Rd w B A n l) (hB : B ≤ w.heap.size) (hnil : A = none → c = 0) (hch : chB n = true) (hm : name.size ≤ 64) :
    Calls Tryd.prog 56 #[.pointer (some ⟨g, 0, none⟩), .slice A n c] w (AskR w lo g tb name tries ss (askS s 2 (dtL 1 4 l name))) := by
  have hl := hr.1
  unfold chB at hch
  have hn : 1 ≤ n ∧ n ≤ 255 := by simp at hch; omega
  have hdl := dtL_chal l name
  have he := wrE_chal s.li n l name ok.i0 hn.1 hn.2 hl hm
  obtain ⟨D0, k0, d0, hb, ho⟩ := h.blk
  obtain ⟨V, hV⟩ : ∃ V, w.alloc (.cells #[.int .i64 0, .int .i64 0, .slice none 0 0] 24) = V := ⟨_, rfl⟩
  have bV : Below w.heap.size w V := by rw [← hV]; exact (Below.refl _ _).alloc (Nat.le_refl _) _
  have h0 : Blk V w.heap.size 24 [.int .i64 0, .int .i64 0, .slice none 0 0] := by rw [← hV]; exact heap_alloc_new w _
  have hg := past_same hb bV
  have c0 : V.cell? ⟨g, 0, none⟩ = some (.string name) := hg.cell 0
  have lV := Blk.lt h0
  have lg := h.lt
  obtain ⟨s', hs'⟩ : ∃ s', askS s 2 (dtL 1 4 l name) = s' := ⟨_, rfl⟩
  have C1 : Hid (Calls Tryd.prog 48 #[.pointer (some ⟨g, 0, none⟩), .int .i64 2, .agg #[.int .i64 0, .int .i64 0, .int .i64 4, .slice A n c, .string name]] V fun e w3 => ∃ x y D k d, e = .returned (.agg #[.int .i64 x, .int .i64 y, .slice D k d]) ∧ Blk w3 w.heap.size 24 [.int .i64 0, .int .i64 0, .slice none 0 0] ∧
      ∀ W', w3.grownBy W' (some w.heap.size) → AskR w lo g tb name tries ss s' (.returned (.agg #[.int .i64 x, .int .i64 y, .slice D k d])) W') := by
    have M := ask_any lo g tb name tries ss s 2 0 0 4 A n c B l name V (h.later bV) ok.i0 ok.i1 (hr.below (bV.mono hB)) (Nat.le_trans hB bV.size) hnil (by omega) (by omega) he (by omega)
    rw [hs'] at M
    refine M.mono ?_
    rintro e w3 ⟨D, k, d, rfl, o3, g3, h3, D9, k9, d9, b9, o9⟩
    have p3 := blk_off h0 g3 (by omega)
    refine ⟨_, _, D, k, d, rfl, p3, fun W' hW => ?_⟩
    have hne3 : (Value.slice D k d).ownBlock = none ∨ (Value.slice D k d).ownBlock ≠ some w.heap.size := .inr fun e => by have := (o3.block _ e).1; omega
    have G3 : w.grownBy w3 (some g) := gtrans' (below_some bV) g3
    have GW := grown_new G3 hW
    have hne9 : (Value.slice D9 k9 d9).ownBlock = none ∨ (Value.slice D9 k9 d9).ownBlock ≠ some w.heap.size := .inr fun e => by have := (o9.block _ e).1; omega
    have kW := blk_off b9 hW (by omega)
    have oW := o9.grown hW hne9
    exact ⟨D, k, d, rfl, eown_wide (o3.grown hW hne3) (by omega), GW, h.row GW ⟨D9, k9, d9, kW, eown_wide oW (by omega)⟩, D9, k9, d9, kW, eown_wide oW (by omega)⟩
  rw [hs']
  have HV := Lib.hid hV
  clear hV bV h0 hg hb ho h hr hB hnil hch hm hl hn hdl he ok hs'
  go_enter Tryd.func56, Tryd.ntmps56
  go_wp2_with (first
    | (rw [HV.out])
    | (go_at_call 48; ((with_reducible refine C1.out.mono ?_); rintro e w3 ⟨x, y, D, k, d, rfl, k3, f1⟩; have r0 := k3.cell 0; have r1 := k3.cell 1; have r2 := k3.cell 2; have e0 := k3.frozen 0; have e1 := k3.frozen 1; have e2 := k3.frozen 2; have l3 := Blk.lt k3; have K3 := Lib.hid k3; have F1 := Lib.hid f1; clear k3 f1)))
  have hb4 := blk3 (x := .int .i64 x) (y := .int .i64 y) (z := .slice D k d) K3.out
  have p0 := hb4.cell 0
  have p1 := hb4.cell 1
  have p2 := hb4.cell 2
  exact bodyPost_ret (v := .agg #[.int .i64 x, .int .i64 y, .slice D k d]) (by simp [results, Tryd.results56, go_sem, p0, p1, p2]) rfl (F1.out _ (gset3 _ _ _ _ _))
theorem start_any (lo g tb : Nat) (name : ByteArray) (tries : Int) (ss : List Sec) (s : SvS) (w : World) (h : SvAt w lo g tb name tries ss s) (i0 : 0 ≤ s.li) (i1 : s.li ≤ 255) :
    Calls Tryd.prog 20 #[.pointer (some ⟨g, 0, none⟩)] w fun e w' => ∃ v, e = .returned (.tuple #[v, .int .i64 0]) ∧ AskR w lo g tb name tries ss (askS { s with cl := ⟨#[]⟩, who := ⟨#[]⟩ } 1 [1]) (.returned v) w' := by
  have he : wrE 1 ((s.li + 1) % 256) 1 0 [] ⟨#[]⟩ = 0 := by
    have hi : idB ((s.li + 1) % 256) = true := by unfold idB; simp; omega
    unfold wrE
    rw [if_neg (by rw [hi]; decide)]
    rfl
  obtain ⟨D0, k0, d0, hb, ho⟩ := h.blk
  obtain ⟨V, hV⟩ : ∃ V, w.alloc (.cells #[.int .i64 0, .int .i64 0, .slice none 0 0] 24) = V := ⟨_, rfl⟩
  have bV : Below w.heap.size w V := by rw [← hV]; exact (Below.refl _ _).alloc (Nat.le_refl _) _
  have h0 : Blk V w.heap.size 24 [.int .i64 0, .int .i64 0, .slice none 0 0] := by rw [← hV]; exact heap_alloc_new w _
  have hg := past_same hb bV
  have lV := Blk.lt h0
  have lg := h.lt
  obtain ⟨s', hs'⟩ : ∃ s', askS { s with cl := ⟨#[]⟩, who := ⟨#[]⟩ } 1 [1] = s' := ⟨_, rfl⟩
  obtain ⟨X, hX⟩ : ∃ X, (V.setCell ⟨g, 8, none⟩ (.string ⟨#[]⟩)).setCell ⟨g, 9, none⟩ (.string ⟨#[]⟩) = X := ⟨_, rfl⟩
  have gX : V.grownBy X (some g) := by
    rw [← hX]
    exact gtrans' (gset' _ _ _ _) (gset' _ _ _ _)
  have kX : Blk X g 95 (svC name tb tries s.st s.lc s.li (.slice D0 k0 d0) s.tried ⟨#[]⟩ ⟨#[]⟩) := by
    rw [← hX]
    exact (hg.set_ 8 _).set_ 9 _
  have C1 : Hid (Calls Tryd.prog 48 #[.pointer (some ⟨g, 0, none⟩), .int .i64 1, .agg #[.int .i64 0, .int .i64 0, .int .i64 1, .slice none 0 0, .string ⟨#[]⟩]] X fun e w3 => ∃ x y D k d, e = .returned (.agg #[.int .i64 x, .int .i64 y, .slice D k d]) ∧ Blk w3 w.heap.size 24 [.int .i64 0, .int .i64 0, .slice none 0 0] ∧
      ∀ W', w3.grownBy W' (some w.heap.size) → AskR w lo g tb name tries ss s' (.returned (.agg #[.int .i64 x, .int .i64 y, .slice D k d])) W') := by
    have GX : w.grownBy X (some g) := gtrans' (below_some bV) gX
    have hob := ho.block
    have hneX : (Value.slice D0 k0 d0).ownBlock = none ∨ (Value.slice D0 k0 d0).ownBlock ≠ some g := .inr fun e => by have := (hob _ e).1; omega
    have M := ask_any lo g tb name tries ss { s with cl := ⟨#[]⟩, who := ⟨#[]⟩ } 1 0 0 1 none 0 0 0 [] ⟨#[]⟩ X (h.row GX ⟨D0, k0, d0, kX, (ho.later bV).grown gX hneX⟩) i0 i1 Rd.nil (Nat.zero_le _) (fun _ => rfl) (by omega) (by decide) he (by decide)
    rw [show dtL 1 1 [] ⟨#[]⟩ = [1] from rfl, hs'] at M
    refine M.mono ?_
    rintro e w3 ⟨D, k, d, rfl, o3, g3, h3, D9, k9, d9, b9, o9⟩
    have p3 := blk_off (blk_off h0 gX (by omega)) g3 (by omega)
    have zX := gX.size
    refine ⟨_, _, D, k, d, rfl, p3, fun W' hW => ?_⟩
    have hne3 : (Value.slice D k d).ownBlock = none ∨ (Value.slice D k d).ownBlock ≠ some w.heap.size := .inr fun e => by have := (o3.block _ e).1; omega
    have G3 : w.grownBy w3 (some g) := gtrans' GX g3
    have GW := grown_new G3 hW
    have hne9 : (Value.slice D9 k9 d9).ownBlock = none ∨ (Value.slice D9 k9 d9).ownBlock ≠ some w.heap.size := .inr fun e => by have := (o9.block _ e).1; omega
    have kW := blk_off b9 hW (by omega)
    have oW := o9.grown hW hne9
    exact ⟨D, k, d, rfl, eown_wide (o3.grown hW hne3) (by omega), GW, h.row GW ⟨D9, k9, d9, kW, eown_wide oW (by omega)⟩, D9, k9, d9, kW, eown_wide oW (by omega)⟩
  have u8 : V.cell? ⟨g, 8, none⟩ = some (.string s.cl) := hg.cell 8
  have u9 : V.cell? ⟨g, 9, none⟩ = some (.string s.who) := hg.cell 9
  have f8 := hg.frozen 8
  have f9 := hg.frozen 9
  have lg1 := Blk.lt hg
  have HV := Lib.hid hV
  have HX := Lib.hid hX
  rw [hs']
  clear hV bV h0 hg hb ho h he hs' hX gX kX i0 i1
  go_enter Tryd.func20, Tryd.ntmps20
  go_wp2_with (first
    | (rw [HV.out])
    | (rw [HX.out])
    | (go_at_call 48; ((with_reducible refine C1.out.mono ?_); rintro e w3 ⟨x, y, D, k, d, rfl, k3, f1⟩; have r0 := k3.cell 0; have r1 := k3.cell 1; have r2 := k3.cell 2; have e0 := k3.frozen 0; have e1 := k3.frozen 1; have e2 := k3.frozen 2; have l3 := Blk.lt k3; have K3 := Lib.hid k3; have F1 := Lib.hid f1; clear k3 f1)))
  have hb4 := blk3 (x := .int .i64 x) (y := .int .i64 y) (z := .slice D k d) K3.out
  have p0 := hb4.cell 0
  have p1 := hb4.cell 1
  have p2 := hb4.cell 2
  exact bodyPost_ret (v := .tuple #[.agg #[.int .i64 x, .int .i64 y, .slice D k d], .int .i64 0]) (by simp [results, Tryd.results20, go_sem, p0, p1, p2]) rfl ⟨_, rfl, F1.out _ (gset3 _ _ _ _ _)⟩
end Go.Proofs.YtjimoegegigoiaaDoor
