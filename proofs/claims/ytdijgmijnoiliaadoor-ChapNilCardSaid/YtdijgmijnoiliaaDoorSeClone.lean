/-
  secret.clone; a list of secrets of the call's own.
-/
import Derived.Test.YtdijgmijnoiliaaDoorSeFirsts
import Derived.Lib.SliceRun
import Derived.Laws.IdiomCopy
import Derived.Outline
namespace Go.Proofs.YtdijgmijnoiliaaDoor
open Go.RowKit Go.Shelf
set_option maxRecDepth 100000
set_option maxHeartbeats 4000000
set_option linter.unusedSimpArgs false
set_option linter.unusedVariables false

theorem addr_adds (g o i : Nat) : (⟨g, o, none⟩ : Addr).add i = ⟨g, o + i, none⟩ := by
  unfold Addr.add
  split
  · rename_i h
    rw [h]
    rfl
  · rfl
def intsV (l : List Int) : List Value := l.map fun z => .int .i64 z
theorem info64 : (Tryd.prog.info? 2).map (fun i => (i.zero, i.size, i.bytes)) = some (some (.int .i64 0), 1, 8) := by kernel_rfl
theorem intsV_one (l : List Int) : ∀ u ∈ intsV l, u.oneCell' = true := by
  intro u hu
  obtain ⟨z, _, rfl⟩ := List.mem_map.1 hu
  rfl
/-- an append whose run is known, as a step of a walk, at whatever types -/
theorem wpList_appS (t t' : TypeId) {w : World} {ops : Array Oper} {rest : List Oper} {o : Oper} {a : Act} {Q : Exit → Act → World → Prop} (hgd : o.guard = none) (s x : Operand)
    (ho : o.op = .call { callee := .builtin .append, args := #[s, x], argTypes := #[t, t'] }) (v u : Value) (hs : a.eval s = v) (hx : a.eval x = u)
    (v' : Value) (w2 : World) (hrun : (Builtin.append_ #[t, t'] o.type #[v, u]).run Tryd.prog w = .ok v' w2)
    (h : wpList Tryd.prog ops Q rest (a.put o.dst v') w2) : wpList Tryd.prog ops Q (o :: rest) a w := by
  refine wpList_plain hgd fun K hK => ?_
  unfold Oper.wp execOp
  simp only [ho, resolve, invoke, builtin, Sem.run_bind, Sem.run_pure, Result.andThen_ok, List.map_toArray, List.map_cons, List.map_nil, hs, hx, hrun]
  exact hK _ _ h

theorem clone64_any (A : Option Addr) (m k B : Nat) (l : List Int) (w : World) (h : AdRd w B A m k l) (hB : B ≤ w.heap.size) :
    Calls Tryd.prog 71 #[.slice A m k] w fun e w' => ∃ A' m' k', e = .returned (.slice A' m' k') ∧ AdRd w' w'.heap.size A' m' k' l ∧ (∀ b o s, A' = some ⟨b, o, s⟩ → w.heap.size ≤ b ∧ b < w'.heap.size) ∧ Below w.heap.size w w' := by
  have EQ := fun (w : World) (a : Option Addr) (n c : Nat) => Lib.run_eql_slice_nil (P := Tryd.prog) w 42 2 a n c 0 0 Tryd.underlying42
  obtain ⟨h1, h2, h3, h4, h5⟩ := h
  cases A with
  | none =>
    obtain rfl : k = 0 := h3 rfl
    obtain rfl : m = 0 := by omega
    have POST : Hid (∃ A' m' k', Value.slice none 0 0 = .slice A' m' k' ∧ AdRd w w.heap.size A' m' k' l ∧ (∀ b o s, A' = some ⟨b, o, s⟩ → w.heap.size ≤ b ∧ b < w.heap.size) ∧ Below w.heap.size w w) := ⟨none, 0, 0, rfl, ⟨h1, Nat.le_refl _, fun _ => rfl, by omega, fun h => by omega⟩, fun b o s e => (by cases e), Below.refl _ _⟩
    clear h1 h2 h3 h4 h5
    go_enter Tryd.func71, Tryd.ntmps71
    go_wp2
    go_ret
    obtain ⟨A', m', k', e, r⟩ := POST.out
    exact ⟨A', m', k', by rw [← e]; rfl, r⟩
  | some a =>
    obtain ⟨i, hi, hz, hs1, hs2⟩ := info_parts info64
    have hown : (w.alloc (.cells #[] 2)).ownsRow w.heap.size 2 1 (.slice (some ⟨w.heap.size, 0, none⟩) 0 0) 0 [] :=
      ⟨by simp, .inr ⟨w.heap.size, 0, _, rfl, Nat.le_refl _, heap_alloc_new w _, Nat.zero_le _, by unfold maxLen; omega, by simp, by simp⟩⟩
    have hBa : Below w.heap.size w (w.alloc (.cells #[] 2)) := (Below.refl _ _).alloc (Nat.le_refl _) _
    obtain ⟨v', w', hrun, h6, h7, _, h8⟩ := run_append_own_at (P := Tryd.prog) (w.alloc (.cells #[] 2)) w.heap.size 42 42 2 i _ 1 8 Tryd.underlying42 hi hz hs1 hs2 rfl (by decide) _ _ _ hown a m k (intsV l)
      (by unfold intsV; rw [List.length_map]; omega) (fun j u hj => by
        unfold intsV at hj
        rw [List.getElem?_map] at hj
        obtain ⟨z, hz', rfl⟩ := Option.map_eq_some_iff.1 hj
        obtain ⟨b, off, e, hl, hc⟩ := h5 (by have := (List.getElem?_eq_some_iff.1 hz').1; omega)
        injection e with e
        subst e
        rw [addr_adds]
        exact (hBa.cell (p := ⟨b, off + j, none⟩) (by show b < w.heap.size; omega)).trans (hc j z hz')) (intsV_one l) (by unfold maxLen; omega) (by omega) (by rw [World.size_alloc]; omega)
    rw [List.nil_append, Nat.zero_add] at h6
    have hnew : ∀ q, (Value.slice (some ⟨w.heap.size, 0, none⟩) 0 0).ownBlock = some q → w.heap.size ≤ q := fun q e => by simp [Value.ownBlock] at e; omega
    have hB' : Below w.heap.size w w' := hBa.grown h7 hBa.size hnew
    have POST : Hid (∃ A' m' k', v' = .slice A' m' k' ∧ AdRd w' w'.heap.size A' m' k' l ∧ (∀ b o s, A' = some ⟨b, o, s⟩ → w.heap.size ≤ b ∧ b < w'.heap.size) ∧ Below w.heap.size w w') := by
      have h6' := h6
      rcases h6.2 with ⟨e, h0⟩ | ⟨g, cap, cur, e, hb, hg, hc, hcm, hcs, ht⟩
      · exact ⟨none, 0, 0, e, ⟨by omega, Nat.le_refl _, fun _ => rfl, by omega, fun h => by omega⟩, fun b o s e => (by cases e), hB'⟩
      · refine ⟨_, _, _, e, ⟨h1, hc, fun e => (by cases e), h4, fun h0 => ⟨g, 0, rfl, (Array.getElem?_eq_some_iff.1 hg).1, fun j z hz' => ?_⟩⟩, fun b o s e => ?_, hB'⟩
        · have h9 := World.ownsRow.cells h6' (g := g) (by rw [e]; rfl) j (.int .i64 z) (by unfold intsV; rw [List.getElem?_map, hz']; rfl)
          rw [addr_adds] at h9
          exact h9
        · injection e with e
          injection e with e1
          subst e1
          exact ⟨hb, (Array.getElem?_eq_some_iff.1 hg).1⟩
    obtain ⟨A', m', k', rfl, r⟩ := POST.out
    have RES := Lib.hid r
    have HRUN := Lib.hid hrun
    clear POST r hrun h6 h7 h8 hown hBa hB' h5 hnew
    go_enter Tryd.func71, Tryd.ntmps71
    go_wp2_with (at_builtin; refine wpList_appS 42 42 rfl (.tmp 5) (.tmp 6) rfl _ _ rfl rfl _ _ HRUN.out ?_)
    go_ret
    exact ⟨_, _, _, rfl, RES.out⟩
theorem AdRd.keep {w w' : World} {B m k : Nat} {A : Option Addr} {l : List Int} (h : AdRd w B A m k l) (hb : ∀ b o, A = some ⟨b, o, none⟩ → w'.heap[b]? = w.heap[b]?) : AdRd w' B A m k l := by
  obtain ⟨h1, h2, h3, h4, h5⟩ := h
  refine ⟨h1, h2, h3, h4, fun h0 => ?_⟩
  obtain ⟨b, off, e, hl, hc⟩ := h5 h0
  refine ⟨b, off, e, hl, fun i z hz => ?_⟩
  have h6 := hc i z hz
  have h7 := hb b off e
  unfold World.cell? at h6 ⊢
  rw [h7]
  exact h6
theorem gset (w : World) (g i : Nat) (u : Value) : w.grownBy (w.setCell ⟨g, i, none⟩ u) (some g) :=
  ⟨rfl, rfl, rfl, by simp [World.setCell], fun k _ hne => Below.heap_setCell w ⟨g, i, none⟩ u k (fun e => hne (by rw [e]))⟩
theorem gtrans {a b c : World} {g : Nat} (h : a.grownBy b (some g)) (k : b.grownBy c (some g)) : a.grownBy c (some g) :=
  ⟨k.os.trans h.os, k.tape.trans h.tape, k.output.trans h.output, Nat.le_trans h.size k.size, fun i hi hne => (k.block i (Nat.lt_of_lt_of_le hi h.size) hne).trans (h.block i hi hne)⟩
theorem gset4 (w : World) (g : Nat) (a b c d : Value) : w.grownBy ((((w.setCell ⟨g, 0, none⟩ a).setCell ⟨g, 1, none⟩ b).setCell ⟨g, 2, none⟩ c).setCell ⟨g, 3, none⟩ d) (some g) :=
  gtrans (gtrans (gtrans (gset _ _ _ _) (gset _ _ _ _)) (gset _ _ _ _)) (gset _ _ _ _)
theorem blk4 {W : World} {g t : Nat} {a b c d x y z v : Value} (h : Blk W g t [a, b, c, d]) : Blk ((((W.setCell ⟨g, 0, none⟩ x).setCell ⟨g, 1, none⟩ y).setCell ⟨g, 2, none⟩ z).setCell ⟨g, 3, none⟩ v) g t [x, y, z, v] := (((h.set_ 0 x).set_ 1 y).set_ 2 z).set_ 3 v
def CloneOk (w : World) (l : List Int) (E' : Option Addr) (m' k' : Nat) (W' : World) : Prop := AdRd W' W'.heap.size E' m' k' l ∧ (∀ b o s, E' = some ⟨b, o, s⟩ → w.heap.size ≤ b ∧ b < W'.heap.size) ∧ Below w.heap.size w W'
theorem sclone_any (x : Sec) (E : Option Addr) (m k B : Nat) (w : World) (ha : AdRd w B E m k x.ad) (hB : B ≤ w.heap.size) :
    Calls Tryd.prog 58 #[.agg #[.string x.cl, .string x.sv, .string x.wd, .slice E m k]] w fun e w' => ∃ E' m' k', e = .returned (.agg #[.string x.cl, .string x.sv, .string x.wd, .slice E' m' k']) ∧ AdRd w' w'.heap.size E' m' k' x.ad ∧ (∀ b o s, E' = some ⟨b, o, s⟩ → w.heap.size ≤ b ∧ b < w'.heap.size) ∧ Below w.heap.size w w' := by
  obtain ⟨V, hV⟩ : ∃ V, (w.alloc (.cells #[.string x.cl, .string x.sv, .string x.wd, .slice E m k] 44)).alloc (.cells #[.string ⟨#[]⟩, .string ⟨#[]⟩, .string ⟨#[]⟩, .slice none 0 0] 44) = V := ⟨_, rfl⟩
  have hBV : Below w.heap.size w V := by rw [← hV]; exact ((Below.refl _ _).alloc (Nat.le_refl _) _).alloc (by simp) _
  have hn1 : Blk V w.heap.size 44 [.string x.cl, .string x.sv, .string x.wd, .slice E m k] := by
    rw [← hV]
    exact (Below.heap_alloc _ _ _ (by simp)).trans (heap_alloc_new w _)
  have hn2 : Blk V (w.heap.size + 1) 44 [.string ⟨#[]⟩, .string ⟨#[]⟩, .string ⟨#[]⟩, .slice none 0 0] := by
    rw [← hV]
    have h := heap_alloc_new (w.alloc (.cells #[.string x.cl, .string x.sv, .string x.wd, .slice E m k] 44)) (.cells #[.string ⟨#[]⟩, .string ⟨#[]⟩, .string ⟨#[]⟩, .slice none 0 0] 44)
    rw [World.size_alloc] at h
    exact h
  have C := clone64_any E m k B x.ad V (ha.below hBV hB) (Nat.le_trans hB hBV.size)
  have C2 : Hid (Calls Tryd.prog 71 #[.slice E m k] V fun e w3 => ∃ E' m' k', e = .returned (.slice E' m' k') ∧ (w.heap.size + 1 < w3.heap.size) ∧ Blk w3 w.heap.size 44 [.string x.cl, .string x.sv, .string x.wd, .slice E m k] ∧ Blk w3 (w.heap.size + 1) 44 [.string ⟨#[]⟩, .string ⟨#[]⟩, .string ⟨#[]⟩, .slice none 0 0] ∧
      ∀ X W', w3.grownBy X (some w.heap.size) → X.grownBy W' (some (w.heap.size + 1)) → CloneOk w x.ad E' m' k' W') := by
    refine C.mono ?_
    rintro e w3 ⟨E', m', k', rfl, h1, h2, h3⟩
    have z1 : V.heap.size = w.heap.size + 2 := by rw [← hV]; simp
    have z3 := h3.size
    refine ⟨E', m', k', rfl, by omega, (h3.block _ (by omega)).trans hn1, (h3.block _ (by omega)).trans hn2, fun X W' g1 g2 => ?_⟩
    have s1 := g1.size
    have s2 := g2.size
    have hb : ∀ i, V.heap.size ≤ i → i < w3.heap.size → W'.heap[i]? = w3.heap[i]? := fun i hi hi2 => by
      rw [g2.block i (by omega) (by intro e; injection e with e; omega), g1.block i hi2 (by intro e; injection e with e; omega)]
    refine ⟨(h1.keep (fun b o e => hb b (h2 b o none e).1 (h2 b o none e).2)).wide (by omega), fun b o s e => ⟨by have := (h2 b o s e).1; omega, by have := (h2 b o s e).2; omega⟩, ?_⟩
    exact ((hBV.trans (h3.mono (by omega))).grown g1 (by omega) (fun q e => by cases e; exact Nat.le_refl _)).grown g2 (by omega) (fun q e => by cases e; omega)
  have HV := Lib.hid hV
  have v3 := hn1.cell 3
  clear C hn1 hn2 hBV ha hV
  go_enter Tryd.func58, Tryd.ntmps58
  go_upto_region 1 with (fail)
  rw [HV.out]
  go_wp2_with (go_at_call 71; ((with_reducible refine C2.out.mono ?_); rintro e w3 ⟨E', m', k', rfl, z3, b1, b2, c3⟩; have a0 := b1.cell 0; have a1 := b1.cell 1; have a2 := b1.cell 2; have a3 := b1.cell 3; have f3 := b1.frozen 3; have r0 := b2.cell 0; have r1 := b2.cell 1; have r2 := b2.cell 2; have r3 := b2.cell 3; have g0 := b2.frozen 0; have g1 := b2.frozen 1; have g2 := b2.frozen 2; have g3 := b2.frozen 3; have C3 := Lib.hid c3; have B2 := Lib.hid b2; clear c3 b1 b2))
  have hb4 := blk4 (x := .string x.cl) (y := .string x.sv) (z := .string x.wd) (v := .slice E' m' k') (show Blk (w3.setCell ⟨w.heap.size, 3, none⟩ (.slice E' m' k')) (w.heap.size + 1) 44 _ from ((gset w3 w.heap.size 3 _).block _ (by omega) (by intro e; injection e with e; omega)).trans B2.out)
  have x0 := hb4.cell 0
  have x1 := hb4.cell 1
  have x2 := hb4.cell 2
  have x3 := hb4.cell 3
  refine bodyPost_ret (v := .agg #[.string x.cl, .string x.sv, .string x.wd, .slice E' m' k']) (by simp [results, Tryd.results58, go_sem, x0, x1, x2, x3]) rfl ⟨E', m', k', rfl, ?_⟩
  exact C3.out _ _ (gset _ _ _ _) (gset4 _ _ _ _ _ _)
end Go.Proofs.YtdijgmijnoiliaaDoor
