/-
  secret.New, (*secret.Table).Find, Check.
-/
import Derived.Test.YtjimoegegigoiaaDoorSeOwn
import Derived.Deep.RegionHeld3
import Derived.Deep.RegionLaw
namespace Go.Proofs.YtjimoegegigoiaaDoor
open Go.RowKit Go.Shelf
set_option maxRecDepth 100000
set_option maxHeartbeats 4000000
set_option linter.unusedSimpArgs false
set_option linter.unusedVariables false

theorem step_appS (t t' : TypeId) {w : World} {ops : Array Oper} {o : Oper} {a : Act} {K : Act → World → Prop} {Q : Exit → Act → World → Prop} {E : Prop} (hgd : o.guard = none) (s x : Operand)
    (ho : o.op = .call { callee := .builtin .append, args := #[s, x], argTypes := #[t, t'] }) (v u : Value) (hs : a.eval s = v) (hx : a.eval x = u)
    (v' : Value) (w2 : World) (hrun : (Builtin.append_ #[t, t'] o.type #[v, u]).run Tryd.prog w = .ok v' w2)
    (h : K (a.put o.dst v') w2) : if Region.wanted o (yielded ops a.tmps) = true then Oper.wp Tryd.prog o a w K Q else E := by
  have hw : Region.wanted o (yielded ops a.tmps) = true := by simp [Region.wanted, hgd]
  rw [if_pos hw]
  unfold Oper.wp execOp
  simp only [ho, resolve, invoke, builtin, Sem.run_bind, Sem.run_pure, Result.andThen_ok, List.map_toArray, List.map_cons, List.map_nil, hs, hx, hrun]
  exact h
theorem below_drewS {B : Nat} {a b : World} (h : Below B a b) (n : Nat) : Below B a (b.drewN n) := ⟨h.os, h.tape, h.output, h.size, h.block⟩
/-- a table of secrets in a block -/
def TableAt (W : World) (g : Nat) (ss : List Sec) : Prop :=
  ∃ A n c mb, Blk W g 132 [.slice A n c, .map (some mb)] ∧ SecRd W W.heap.size A n ss ∧ MapP W mb n (fst ss)
theorem TableAt.later {W W' : World} {g : Nat} {ss : List Sec} (h : TableAt W g ss) (hB : Below W.heap.size W W') : TableAt W' g ss := by
  obtain ⟨A, n, c, mb, h1, h2, h3⟩ := h
  exact ⟨A, n, c, mb, (hB.block g (Blk.lt h1)).trans h1, (h2.below hB (Nat.le_refl _)).wide hB.size, h3.later hB⟩
/-- while New fills its table -/
structure NewJ (w : World) (g mb n : Nat) (ss : List Sec) (v : Value) (j : Nat) (wr : World) : Prop where
  blk : Blk wr g 132 [v, .map (some mb)]
  own : OwnS wr (g + 1) v (ss.take j)
  map : MapP wr mb n (fst ss)
  bel : Below w.heap.size w wr
  mg : mb < g
  wm : w.heap.size ≤ mb
theorem new_step {w : World} {g mb n : Nat} {ss : List Sec} {A : Option Addr} {j c : Nat} {wr : World} (h : NewJ w g mb n ss (.slice A j c) j wr) (x : Sec) (E : Option Addr) (m k B : Nat) (hx : ss[j]? = some x) (ho : okS x) (ha : AdRd wr B E m k x.ad) (hB : B ≤ wr.heap.size) (hj : j < 4398046511) :
    Calls Tryd.prog 71 #[.agg #[.string x.cl, .string x.sv, .string x.wd, .slice E m k]] wr fun e w3 => ∃ E' m' k', e = .returned (.agg #[.string x.cl, .string x.sv, .string x.wd, .slice E' m' k']) ∧ w3.cell? ⟨g, 0, none⟩ = some (.slice A j c) ∧ g < w3.heap.size ∧
      ∃ V A4 c4 w4, w3.alloc (.cells #[.string x.cl, .string x.sv, .string x.wd, .slice E' m' k'] 50) = V ∧ (Builtin.append_ #[41, 41] 41 #[.slice A j c, .slice (some ⟨w3.heap.size, 0, none⟩) 1 1]).run Tryd.prog V = .ok (.slice A4 (j + 1) c4) w4 ∧
        w4.cell? ⟨g, 0, none⟩ = some (.slice A j c) ∧ w4.frozen? ⟨g, 0, none⟩ = false ∧ NewJ w g mb n ss (.slice A4 (j + 1) c4) (j + 1) (w4.setCell ⟨g, 0, none⟩ (.slice A4 (j + 1) c4)) := by
  have hgl := Blk.lt h.blk
  have hwz := h.bel.size
  refine (sclone_any x E m k B wr ha hB).mono ?_
  rintro e w3 ⟨E', m', k', rfl, h1, h2, h3⟩
  have z3 := h3.size
  have hb3 : Blk w3 g 132 _ := (h3.block _ hgl).trans h.blk
  have hBV : Below w3.heap.size w3 (w3.alloc (.cells #[.string x.cl, .string x.sv, .string x.wd, .slice E' m' k'] 50)) := (Below.refl _ _).alloc (Nat.le_refl _) _
  have hnew : Blk (w3.alloc (.cells #[.string x.cl, .string x.sv, .string x.wd, .slice E' m' k'] 50)) w3.heap.size 50 (secV x E' m' k') := heap_alloc_new w3 _
  have zV : (w3.alloc (.cells #[.string x.cl, .string x.sv, .string x.wd, .slice E' m' k'] 50)).heap.size = w3.heap.size + 1 := by simp
  have hown := (h.own.later h3).later hBV
  have hob := h.own.block
  have hlen : (ss.take j).length = j := by rw [List.length_take]; have := (List.getElem?_eq_some_iff.1 hx).1; omega
  obtain ⟨v', w4, hrun, ho4, hg4, hv4⟩ := appS_own hown w3.heap.size 1 x E' m' k' (fun q u hu => by rw [hnew.cell q]; exact hu) ho ((h1.below hBV (Nat.le_refl _)).wide (by omega)) (fun b o e => ⟨fun e2 => by have := (hob b e2).2; have := (h2 b o none e).1; omega, by have := (h2 b o none e).2; omega, by have := (h2 b o none e).1; omega⟩) (by omega) (by omega)
  rw [← take_one hx] at ho4
  obtain ⟨A4, c4, hsl, _⟩ := ho4.slice
  have hl4 : (ss.take (j + 1)).length = j + 1 := by rw [take_one hx, List.length_append, hlen]; rfl
  rw [hl4] at hsl
  subst hsl
  have hbV : Blk (w3.alloc (.cells #[.string x.cl, .string x.sv, .string x.wd, .slice E' m' k'] 50)) g 132 _ := (hBV.block _ (Blk.lt hb3)).trans hb3
  have hobn : ∀ q, (Value.slice A j c).ownBlock = some q → g + 1 ≤ q := fun q e => (hob q e).1
  have hb4 : Blk w4 g 132 _ := (hg4.block g (by omega) (fun e => by have := hobn g e.symm; omega)).trans hbV
  have hgs : w4.grownBy (w4.setCell ⟨g, 0, none⟩ (.slice A4 (j + 1) c4)) (some g) := gset _ _ _ _
  have z4 := hg4.size
  have zs := hgs.size
  have mg := h.mg
  have wm := h.wm
  refine ⟨E', m', k', rfl, hb3.cell 0, Blk.lt hb3, _, A4, c4, w4, rfl, hrun, hb4.cell 0, hb4.frozen 0, hb4.set_ 0 _, ho4.grown hgs (fun q e => by cases e; exact .inl (by omega)), ?_, ?_, mg, wm⟩
  · exact ((((h.map.later h3).later hBV).kept hg4 (fun e => by have := hobn mb e.symm; omega))).kept hgs (by intro e; injection e with e; omega)
  · exact (((h.bel.trans (h3.mono hwz)).trans (hBV.mono (by omega))).grown hg4 (by omega) (fun q e => by have := hobn q e; omega)).grown hgs (by omega) (fun q e => by cases e; omega)
/-- a list of secrets that lies between two blocks, with all its numbers -/
def SecLo (w : World) (lo B : Nat) (A : Option Addr) (n : Nat) (ss : List Sec) : Prop :=
  ss.length = n ∧ n ≤ 4398046510976 ∧ (0 < n → ∃ b off, A = some ⟨b, off, none⟩ ∧ lo ≤ b ∧ b < B ∧ ∀ i x, ss[i]? = some x → okS x ∧ ∃ E m k, AdRd w B E m k x.ad ∧ (∀ b o, E = some ⟨b, o, none⟩ → lo ≤ b) ∧ ∀ j u, (secV x E m k)[j]? = some u → w.cell? ⟨b, off + i * 4 + j, none⟩ = some u)
theorem SecLo.rd {w : World} {lo B n : Nat} {A : Option Addr} {ss : List Sec} (h : SecLo w lo B A n ss) : SecRd w B A n ss := by
  obtain ⟨h1, h2, h3⟩ := h
  refine ⟨h1, h2, fun h0 => ?_⟩
  obtain ⟨b, off, e, _, hl, hc⟩ := h3 h0
  refine ⟨b, off, e, hl, fun i x hx => ?_⟩
  obtain ⟨ho, E, m, k, ha, _, hcs⟩ := hc i x hx
  exact ⟨ho, E, m, k, ha, hcs⟩
theorem cell_sameS {w w' : World} {b o : Nat} (h : w'.heap[b]? = w.heap[b]?) : w'.cell? ⟨b, o, none⟩ = w.cell? ⟨b, o, none⟩ := by
  unfold World.cell?
  rw [h]
theorem SecLo.same {w w' : World} {lo B n : Nat} {A : Option Addr} {ss : List Sec} (h : SecLo w lo B A n ss) (hb : ∀ i, lo ≤ i → i < B → w'.heap[i]? = w.heap[i]?) : SecLo w' lo B A n ss := by
  obtain ⟨h1, h2, h3⟩ := h
  refine ⟨h1, h2, fun h0 => ?_⟩
  obtain ⟨b, off, e, h4, hl, hc⟩ := h3 h0
  refine ⟨b, off, e, h4, hl, fun i x hx => ?_⟩
  obtain ⟨ho, E, m, k, ha, hE, hcs⟩ := hc i x hx
  refine ⟨ho, E, m, k, ?_, hE, fun j u hu => (cell_sameS (hb _ h4 hl)).trans (hcs j u hu)⟩
  obtain ⟨a1, a2, a3, a4, a5⟩ := ha
  refine ⟨a1, a2, a3, a4, fun h0 => ?_⟩
  obtain ⟨b', off', e', hl', hc'⟩ := a5 h0
  exact ⟨b', off', e', hl', fun i z hz => (cell_sameS (hb _ (hE _ _ e') hl')).trans (hc' i z hz)⟩
/-- a table that lies between two blocks -/
def TabL (W : World) (lo B g : Nat) (ss : List Sec) : Prop :=
  ∃ A n c mb, lo ≤ g ∧ g < B ∧ Blk W g 132 [.slice A n c, .map (some mb)] ∧ SecLo W lo B A n ss ∧ lo ≤ mb ∧ mb < B ∧ MapP W mb n (fst ss)
theorem TabL.same {W W' : World} {lo B g : Nat} {ss : List Sec} (h : TabL W lo B g ss) (hb : ∀ i, lo ≤ i → i < B → W'.heap[i]? = W.heap[i]?) : TabL W' lo B g ss := by
  obtain ⟨A, n, c, mb, h1, h2, h3, h4, h5, h6, D, ⟨es, clock, q1, q2⟩, h8⟩ := h
  exact ⟨A, n, c, mb, h1, h2, (hb _ h1 h2).trans h3, h4.same hb, h5, h6, D, ⟨es, clock, (hb _ h5 h6).trans q1, q2⟩, h8⟩
theorem OwnS.lo {w : World} {base : Nat} {v : Value} {ss : List Sec} (h : OwnS w base v ss) (hm : ss.length ≤ 4398046510976) : ∃ A c, v = .slice A ss.length c ∧ SecLo w base w.heap.size A ss.length ss := by
  obtain ⟨cs, h1, h2⟩ := h
  have h1' := h1
  rcases h1.2 with ⟨e, h0⟩ | ⟨g, cap, cur, e, hb, hg, hc, _⟩
  · exact ⟨none, 0, by rw [e, h0], rfl, hm, fun h => by omega⟩
  · refine ⟨_, _, e, rfl, hm, fun _ => ⟨g, 0, rfl, hb, (Array.getElem?_eq_some_iff.1 hg).1, fun i x hx => ?_⟩⟩
    obtain ⟨ho, E, m, k, ha, hn, hcs⟩ := h2 i x hx
    refine ⟨ho, E, m, k, ha, fun b o e => (hn b o e).2.2, fun j u hu => ?_⟩
    have h3 := World.ownsRow.cells h1' (g := g) (by rw [e]; rfl) (i * 4 + j) u (hcs j u hu)
    rw [addr_adds] at h3
    rw [show (0 + i * 4 + j) = 0 + (i * 4 + j) by omega]
    exact h3
theorem SecLo.low {w : World} {lo lo' B n : Nat} {A : Option Addr} {ss : List Sec} (h : SecLo w lo B A n ss) (hl : lo' ≤ lo) : SecLo w lo' B A n ss := by
  obtain ⟨h1, h2, h3⟩ := h
  refine ⟨h1, h2, fun h0 => ?_⟩
  obtain ⟨b, off, e, h4, h5, hc⟩ := h3 h0
  refine ⟨b, off, e, by omega, h5, fun i x hx => ?_⟩
  obtain ⟨ho, E, m, k, ha, hE, hcs⟩ := hc i x hx
  exact ⟨ho, E, m, k, ha, fun b o e => by have := hE b o e; omega, hcs⟩
/-- what New answers -/
def NewR (w : World) (ss : List Sec) (e : Ending) (w' : World) : Prop :=
  Below w.heap.size w w' ∧ (((chk ss).1 ≠ 0 ∧ e = .returned (.tuple #[.pointer none, .int .i64 (chk ss).1, .int .i64 (chk ss).2])) ∨ ((chk ss).1 = 0 ∧ ∃ g, w.heap.size ≤ g ∧ e = .returned (.tuple #[.pointer (some ⟨g, 0, none⟩), .int .i64 0, .int .i64 0]) ∧ TableAt w' g ss ∧ TabL w' w.heap.size w'.heap.size g ss))
theorem chk_len {ss : List Sec} (h : (chk ss).1 = 0) : ss.length ≤ 64 := by
  unfold chk at h
  split at h
  · cases h
  · omega
theorem new_any (A : Option Addr) (n c B : Nat) (ss : List Sec) (w : World) (h : SecRd w B A n ss) (hB : B ≤ w.heap.size) :
    Calls Tryd.prog 47 #[.slice A n c] w (NewR w ss) := by
  have hl := h.1
  have CH := check_any A n c B ss w h hB
  obtain ⟨q1, hq1⟩ : ∃ q1, (chk ss).1 = q1 := ⟨_, rfl⟩
  obtain ⟨q2, hq2⟩ : ∃ q2, (chk ss).2 = q2 := ⟨_, rfl⟩
  rw [hq1, hq2] at CH
  by_cases h0 : q1 = 0
  · subst h0
    have hn64 : n ≤ 64 := by have := chk_len hq1; omega
    have C : Hid (Calls Tryd.prog 69 #[.slice A n c] w fun e w1 => e = .returned (.tuple #[.int .i64 0, .int .i64 q2]) ∧
        Calls Tryd.prog 70 #[.slice A n c] w1 fun e w2 => ∃ mb, e = .returned (.map (some mb)) ∧ ∃ V, w2.alloc (.cells #[.slice none 0 0, .map (some mb)] 132) = V ∧ NewJ w w2.heap.size mb n ss (.slice none 0 0) 0 V) := by
      refine CH.mono ?_
      rintro e w1 ⟨rfl, b1⟩
      refine ⟨rfl, (firsts_any A n c B ss w1 (h.below b1 hB) (Nat.le_trans hB b1.size)).mono ?_⟩
      rintro e w2 ⟨rfl, hM, b2⟩
      have z1 := b1.size
      have hBa : Below w2.heap.size w2 (w2.alloc (.cells #[.slice none 0 0, .map (some w1.heap.size)] 132)) := (Below.refl _ _).alloc (Nat.le_refl _) _
      have z2 := b2.size
      exact ⟨_, rfl, _, rfl, heap_alloc_new w2 _, by rw [List.take_zero]; exact OwnS.nil _ _, hM.later hBa, (b1.trans (b2.mono z1)).trans (hBa.mono (by omega)), hM.lt, z1⟩
    have HS := Lib.hid h
    have HQ := Lib.hid hq1
    have HL := Lib.hid hl
    clear h CH hq1 hq2 hl
    go_enter Tryd.func47, Tryd.ntmps47
    go_wp2_with (first
      | (go_at_call 69; ((with_reducible refine C.out.mono ?_); rintro e w1 ⟨rfl, c1⟩; have C1 := Lib.hid c1; clear c1))
      | (go_at_call 70; ((with_reducible refine C1.out.mono ?_); rintro e w2 ⟨mb, rfl, V, hV, hJ⟩; have HV := Lib.hid hV; have J0 := Lib.hid hJ; clear hV hJ))
      | (rw [HV.out]))
    go_loopw [25] (fun i wr => ∃ (j : Nat) (A' : Option Addr) (c' : Nat), j ≤ n ∧ i = .int .i64 j ∧ Hid (NewJ w w2.heap.size mb n ss (.slice A' j c') j wr)) (fun i _ => n - (intOf i).toNat)
    case atStart => exact ⟨0, none, 0, Nat.zero_le _, rfl, J0.out⟩
    case round =>
      rename World => wr
      obtain ⟨j, A', c', hj, rfl, hJ⟩ := hrel
      by_cases hlt : j < n
      · have hs := HS.out.below hJ.out.bel hB
        obtain ⟨x, b, off, E, m, k, hx, rfl, hb, ho, ha, c0, c1, c2, c3⟩ := hs.at_ j hlt
        have hsz := hJ.out.bel.size
        have hbw : b < wr.heap.size := by omega
        obtain ⟨V1, hV1⟩ : ∃ V1, wr.alloc (.cells #[.string x.cl, .string x.sv, .string x.wd, .slice E m k] 50) = V1 := ⟨_, rfl⟩
        have hBV1 : Below wr.heap.size wr V1 := by rw [← hV1]; exact (Below.refl _ _).alloc (Nat.le_refl _) _
        have hnew1 : Blk V1 wr.heap.size 50 [.string x.cl, .string x.sv, .string x.wd, .slice E m k] := by rw [← hV1]; exact heap_alloc_new wr _
        have hBD : Below V1.heap.size V1 V1.drew := below_drewS (Below.refl _ _) 1
        have hJV : NewJ w w2.heap.size mb n ss (.slice A' j c') j V1.drew := by
          have hJ := hJ.out
          exact ⟨(hBD.block _ (by have := Blk.lt hJ.blk; have := hBV1.size; omega)).trans ((hBV1.block _ (Blk.lt hJ.blk)).trans hJ.blk), (hJ.own.later hBV1).later hBD, (hJ.map.later hBV1).later hBD, (hJ.bel.trans (hBV1.mono hsz)).trans (hBD.mono (by have := hBV1.size; omega)), hJ.mg, hJ.wm⟩
        have haV : AdRd V1.drew B E m k x.ad := (ha.below hBV1 (by omega)).below hBD (by have := hBV1.size; omega)
        have ST := Lib.hid (new_step hJV x E m k B hx ho haV (by show B ≤ V1.heap.size; have := hBV1.size; omega) (by omega))
        have t0 : V1.cell? ⟨w2.heap.size, 0, none⟩ = some (.slice A' j c') := Blk.cell (show Blk V1 w2.heap.size 132 _ from hJV.blk) 0
        have tl : w2.heap.size < V1.heap.size := Blk.lt (show Blk V1 w2.heap.size 132 _ from hJV.blk)
        have v0 := hnew1.cell 0
        have v1 := hnew1.cell 1
        have v2 := hnew1.cell 2
        have v3 := hnew1.cell 3
        have HV1 := Lib.hid hV1
        clear hs ho ha hx hV1 hBV1 hnew1 hBD hJV haV hJ
        go_upto_region 8 with (rw [HV1.out])
        go_region_law (first
          | (go_simp; go_at_call 71; (with_reducible refine ST.out.mono ?_); rintro e w3 ⟨E', m', k', rfl, u0, u1, V, A4, c4, w4, hVV, hrun, u2, u3, hN⟩; have HVV := Lib.hid hVV; have HR := Lib.hid hrun; have HN := Lib.hid hN; clear hVV hrun hN)
          | (rw [HVV.out]; refine step_appS 41 41 rfl (.tmp 33) (.tmp 36) rfl _ _ rfl rfl _ _ HR.out ?_))
        all_goals
          go_wp2
          go_roundw
          case rel => exact ⟨j + 1, A4, c4, by omega, by go_num, HN⟩
          case measure => simp [intOf]; omega
      · obtain rfl : j = n := by omega
        have RES : Hid (Below w.heap.size w wr ∧ TableAt wr w2.heap.size ss ∧ TabL wr w.heap.size wr.heap.size w2.heap.size ss) := by
          have hJ := hJ.out
          have hown := hJ.own
          rw [List.take_of_length_le (by have := HL.out; omega)] at hown
          obtain ⟨A2, c2, e, hrd⟩ := hown.rd (by have := HL.out; omega)
          have hl := HL.out
          rw [hl] at e hrd
          injection e with e1 e2 e3
          subst e1
          obtain ⟨A3, c3, e', hlo⟩ := hown.lo (by have := HL.out; omega)
          rw [hl] at e' hlo
          injection e' with e1 e2 e3
          subst e1
          have q1 := hJ.mg
          have q2 := hJ.wm
          exact ⟨hJ.bel, ⟨A', j, c', mb, hJ.blk, hrd, hJ.map⟩, A', j, c', mb, by omega, Blk.lt hJ.blk, hJ.blk, hlo.low (by omega), q2, hJ.map.lt, hJ.map⟩
        have hz : w.heap.size ≤ w2.heap.size := by have := hJ.out.mg; have := hJ.out.wm; omega
        clear hJ
        go_wp2
        refine bodyPost_ret (v := .tuple #[.pointer (some ⟨w2.heap.size, 0, none⟩), .int .i64 0, .int .i64 0]) (by simp [results, Tryd.results47, go_sem]) rfl ?_
        exact ⟨RES.out.1, .inr ⟨HQ.out, w2.heap.size, hz, rfl, RES.out.2⟩⟩
  · have C : Hid (Calls Tryd.prog 69 #[.slice A n c] w fun e w1 => e = .returned (.tuple #[.int .i64 q1, .int .i64 q2]) ∧ NewR w ss (.returned (.tuple #[.pointer none, .int .i64 q1, .int .i64 q2])) w1) := by
      refine CH.mono ?_
      rintro e w1 ⟨rfl, b1⟩
      exact ⟨rfl, b1, .inl ⟨by rw [hq1]; exact h0, by rw [hq1, hq2]⟩⟩
    clear h CH hq1 hq2 hl
    go_enter Tryd.func47, Tryd.ntmps47
    go_wp2_with (go_at_call 69; ((with_reducible refine C.out.mono ?_); rintro e w1 ⟨rfl, c1⟩; have C1 := Lib.hid c1; clear c1))
    exact bodyPost_ret (v := .tuple #[.pointer none, .int .i64 q1, .int .i64 q2]) (by simp [results, Tryd.results47, go_sem]) rfl C1.out
end Go.Proofs.YtjimoegegigoiaaDoor
