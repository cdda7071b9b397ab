/-
  secret.clone; a list of secrets of the call's own.
  secret.best.
  A list of secrets of the call's own.
-/
import Derived.Test.YtjimoegegigoiaaDoorSeFirsts
import Derived.Lib.SliceRun
import Derived.Laws.IdiomCopy
import Derived.Outline
namespace Go.Proofs.YtjimoegegigoiaaDoor
open Go.RowKit Go.Shelf
set_option maxRecDepth 100000
set_option maxHeartbeats 4000000
set_option linter.unusedSimpArgs false
set_option linter.unusedVariables false

theorem addr_adds (g o i : Nat) : (⟨g, o, none⟩ : Addr).add i = ⟨g, o + i, none⟩ := by
  unfold Addr.add
  split
  · rename_i h
    rw [h]
    rfl
  · rfl
def intsV (l : List Int) : List Value := l.map fun z => .int .i64 z
theorem info64 : (Tryd.prog.info? 2).map (fun i => (i.zero, i.size, i.bytes)) = some (some (.int .i64 0), 1, 8) := by kernel_rfl
theorem intsV_one (l : List Int) : ∀ u ∈ intsV l, u.oneCell' = true := by
  intro u hu
  obtain ⟨z, _, rfl⟩ := List.mem_map.1 hu
  rfl
/-- an append whose run is known, as a step of a walk, at whatever types -/
theorem wpList_appS (t t' : TypeId) {w : World} {ops : Array Oper} {rest : List Oper} {o : Oper} {a : Act} {Q : Exit → Act → World → Prop} (hgd : o.guard = none) (s x : Operand)
    (ho : o.op = .call { callee := .builtin .append, args := #[s, x], argTypes := #[t, t'] }) (v u : Value) (hs : a.eval s = v) (hx : a.eval x = u)
    (v' : Value) (w2 : World) (hrun : (Builtin.append_ #[t, t'] o.type #[v, u]).run Tryd.prog w = .ok v' w2)
    (h : wpList Tryd.prog ops Q rest (a.put o.dst v') w2) : wpList Tryd.prog ops Q (o :: rest) a w := by
  refine wpList_plain hgd fun K hK => ?_
  unfold Oper.wp execOp
  simp only [ho, resolve, invoke, builtin, Sem.run_bind, Sem.run_pure, Result.andThen_ok, List.map_toArray, List.map_cons, List.map_nil, hs, hx, hrun]
  exact hK _ _ h

theorem clone64_any (A : Option Addr) (m k B : Nat) (l : List Int) (w : World) (h : AdRd w B A m k l) (hB : B ≤ w.heap.size) :
    Calls Tryd.prog 97 #[.slice A m k] w fun e w' => ∃ A' m' k', e = .returned (.slice A' m' k') ∧ AdRd w' w'.heap.size A' m' k' l ∧ (∀ b o s, A' = some ⟨b, o, s⟩ → w.heap.size ≤ b ∧ b < w'.heap.size) ∧ Below w.heap.size w w' := by
  have EQ := fun (w : World) (a : Option Addr) (n c : Nat) => Lib.run_eql_slice_nil (P := Tryd.prog) w 48 2 a n c 0 0 Tryd.underlying48
  obtain ⟨h1, h2, h3, h4, h5⟩ := h
  cases A with
  | none =>
    obtain rfl : k = 0 := h3 rfl
    obtain rfl : m = 0 := by omega
    have POST : Hid (∃ A' m' k', Value.slice none 0 0 = .slice A' m' k' ∧ AdRd w w.heap.size A' m' k' l ∧ (∀ b o s, A' = some ⟨b, o, s⟩ → w.heap.size ≤ b ∧ b < w.heap.size) ∧ Below w.heap.size w w) := ⟨none, 0, 0, rfl, ⟨h1, Nat.le_refl _, fun _ => rfl, by omega, fun h => by omega⟩, fun b o s e => (by cases e), Below.refl _ _⟩
    clear h1 h2 h3 h4 h5
    go_enter Tryd.func97, Tryd.ntmps97
    go_wp2
    go_ret
    obtain ⟨A', m', k', e, r⟩ := POST.out
    exact ⟨A', m', k', by rw [← e]; rfl, r⟩
  | some a =>
    obtain ⟨i, hi, hz, hs1, hs2⟩ := info_parts info64
    have hown : (w.alloc (.cells #[] 2)).ownsRow w.heap.size 2 1 (.slice (some ⟨w.heap.size, 0, none⟩) 0 0) 0 [] :=
      ⟨by simp, .inr ⟨w.heap.size, 0, _, rfl, Nat.le_refl _, heap_alloc_new w _, Nat.zero_le _, by unfold maxLen; omega, by simp, by simp⟩⟩
    have hBa : Below w.heap.size w (w.alloc (.cells #[] 2)) := (Below.refl _ _).alloc (Nat.le_refl _) _
    obtain ⟨v', w', hrun, h6, h7, _, h8⟩ := run_append_own_at (P := Tryd.prog) (w.alloc (.cells #[] 2)) w.heap.size 48 48 2 i _ 1 8 Tryd.underlying48 hi hz hs1 hs2 rfl (by decide) _ _ _ hown a m k (intsV l)
      (by unfold intsV; rw [List.length_map]; omega) (fun j u hj => by
        unfold intsV at hj
        rw [List.getElem?_map] at hj
        obtain ⟨z, hz', rfl⟩ := Option.map_eq_some_iff.1 hj
        obtain ⟨b, off, e, hl, hc⟩ := h5 (by have := (List.getElem?_eq_some_iff.1 hz').1; omega)
        injection e with e
        subst e
        rw [addr_adds]
        exact (hBa.cell (p := ⟨b, off + j, none⟩) (by show b < w.heap.size; omega)).trans (hc j z hz')) (intsV_one l) (by unfold maxLen; omega) (by omega) (by rw [World.size_alloc]; omega)
    rw [List.nil_append, Nat.zero_add] at h6
    have hnew : ∀ q, (Value.slice (some ⟨w.heap.size, 0, none⟩) 0 0).ownBlock = some q → w.heap.size ≤ q := fun q e => by simp [Value.ownBlock] at e; omega
    have hB' : Below w.heap.size w w' := hBa.grown h7 hBa.size hnew
    have POST : Hid (∃ A' m' k', v' = .slice A' m' k' ∧ AdRd w' w'.heap.size A' m' k' l ∧ (∀ b o s, A' = some ⟨b, o, s⟩ → w.heap.size ≤ b ∧ b < w'.heap.size) ∧ Below w.heap.size w w') := by
      have h6' := h6
      rcases h6.2 with ⟨e, h0⟩ | ⟨g, cap, cur, e, hb, hg, hc, hcm, hcs, ht⟩
      · exact ⟨none, 0, 0, e, ⟨by omega, Nat.le_refl _, fun _ => rfl, by omega, fun h => by omega⟩, fun b o s e => (by cases e), hB'⟩
      · refine ⟨_, _, _, e, ⟨h1, hc, fun e => (by cases e), h4, fun h0 => ⟨g, 0, rfl, (Array.getElem?_eq_some_iff.1 hg).1, fun j z hz' => ?_⟩⟩, fun b o s e => ?_, hB'⟩
        · have h9 := World.ownsRow.cells h6' (g := g) (by rw [e]; rfl) j (.int .i64 z) (by unfold intsV; rw [List.getElem?_map, hz']; rfl)
          rw [addr_adds] at h9
          exact h9
        · injection e with e
          injection e with e1
          subst e1
          exact ⟨hb, (Array.getElem?_eq_some_iff.1 hg).1⟩
    obtain ⟨A', m', k', rfl, r⟩ := POST.out
    have RES := Lib.hid r
    have HRUN := Lib.hid hrun
    clear POST r hrun h6 h7 h8 hown hBa hB' h5 hnew
    go_enter Tryd.func97, Tryd.ntmps97
    go_wp2_with (at_builtin; refine wpList_appS 48 48 rfl (.tmp 5) (.tmp 6) rfl _ _ rfl rfl _ _ HRUN.out ?_)
    go_ret
    exact ⟨_, _, _, rfl, RES.out⟩
theorem AdRd.keep {w w' : World} {B m k : Nat} {A : Option Addr} {l : List Int} (h : AdRd w B A m k l) (hb : ∀ b o, A = some ⟨b, o, none⟩ → w'.heap[b]? = w.heap[b]?) : AdRd w' B A m k l := by
  obtain ⟨h1, h2, h3, h4, h5⟩ := h
  refine ⟨h1, h2, h3, h4, fun h0 => ?_⟩
  obtain ⟨b, off, e, hl, hc⟩ := h5 h0
  refine ⟨b, off, e, hl, fun i z hz => ?_⟩
  have h6 := hc i z hz
  have h7 := hb b off e
  unfold World.cell? at h6 ⊢
  rw [h7]
  exact h6
theorem gset (w : World) (g i : Nat) (u : Value) : w.grownBy (w.setCell ⟨g, i, none⟩ u) (some g) :=
  ⟨rfl, rfl, rfl, by simp [World.setCell], fun k _ hne => Below.heap_setCell w ⟨g, i, none⟩ u k (fun e => hne (by rw [e]))⟩
theorem gtrans {a b c : World} {g : Nat} (h : a.grownBy b (some g)) (k : b.grownBy c (some g)) : a.grownBy c (some g) :=
  ⟨k.os.trans h.os, k.tape.trans h.tape, k.output.trans h.output, Nat.le_trans h.size k.size, fun i hi hne => (k.block i (Nat.lt_of_lt_of_le hi h.size) hne).trans (h.block i hi hne)⟩
theorem gset4 (w : World) (g : Nat) (a b c d : Value) : w.grownBy ((((w.setCell ⟨g, 0, none⟩ a).setCell ⟨g, 1, none⟩ b).setCell ⟨g, 2, none⟩ c).setCell ⟨g, 3, none⟩ d) (some g) :=
  gtrans (gtrans (gtrans (gset _ _ _ _) (gset _ _ _ _)) (gset _ _ _ _)) (gset _ _ _ _)
theorem blk4 {W : World} {g t : Nat} {a b c d x y z v : Value} (h : Blk W g t [a, b, c, d]) : Blk ((((W.setCell ⟨g, 0, none⟩ x).setCell ⟨g, 1, none⟩ y).setCell ⟨g, 2, none⟩ z).setCell ⟨g, 3, none⟩ v) g t [x, y, z, v] := (((h.set_ 0 x).set_ 1 y).set_ 2 z).set_ 3 v
def CloneOk (w : World) (l : List Int) (E' : Option Addr) (m' k' : Nat) (W' : World) : Prop := AdRd W' W'.heap.size E' m' k' l ∧ (∀ b o s, E' = some ⟨b, o, s⟩ → w.heap.size ≤ b ∧ b < W'.heap.size) ∧ Below w.heap.size w W'
theorem sclone_any (x : Sec) (E : Option Addr) (m k B : Nat) (w : World) (ha : AdRd w B E m k x.ad) (hB : B ≤ w.heap.size) :
    Calls Tryd.prog 71 #[.agg #[.string x.cl, .string x.sv, .string x.wd, .slice E m k]] w fun e w' => ∃ E' m' k', e = .returned (.agg #[.string x.cl, .string x.sv, .string x.wd, .slice E' m' k']) ∧ AdRd w' w'.heap.size E' m' k' x.ad ∧ (∀ b o s, E' = some ⟨b, o, s⟩ → w.heap.size ≤ b ∧ b < w'.heap.size) ∧ Below w.heap.size w w' := by
  obtain ⟨V, hV⟩ : ∃ V, (w.alloc (.cells #[.string x.cl, .string x.sv, .string x.wd, .slice E m k] 50)).alloc (.cells #[.string ⟨#[]⟩, .string ⟨#[]⟩, .string ⟨#[]⟩, .slice none 0 0] 50) = V := ⟨_, rfl⟩
  have hBV : Below w.heap.size w V := by rw [← hV]; exact ((Below.refl _ _).alloc (Nat.le_refl _) _).alloc (by simp) _
  have hn1 : Blk V w.heap.size 50 [.string x.cl, .string x.sv, .string x.wd, .slice E m k] := by
    rw [← hV]
    exact (Below.heap_alloc _ _ _ (by simp)).trans (heap_alloc_new w _)
  have hn2 : Blk V (w.heap.size + 1) 50 [.string ⟨#[]⟩, .string ⟨#[]⟩, .string ⟨#[]⟩, .slice none 0 0] := by
    rw [← hV]
    have h := heap_alloc_new (w.alloc (.cells #[.string x.cl, .string x.sv, .string x.wd, .slice E m k] 50)) (.cells #[.string ⟨#[]⟩, .string ⟨#[]⟩, .string ⟨#[]⟩, .slice none 0 0] 50)
    rw [World.size_alloc] at h
    exact h
  have C := clone64_any E m k B x.ad V (ha.below hBV hB) (Nat.le_trans hB hBV.size)
  have C2 : Hid (Calls Tryd.prog 97 #[.slice E m k] V fun e w3 => ∃ E' m' k', e = .returned (.slice E' m' k') ∧ (w.heap.size + 1 < w3.heap.size) ∧ Blk w3 w.heap.size 50 [.string x.cl, .string x.sv, .string x.wd, .slice E m k] ∧ Blk w3 (w.heap.size + 1) 50 [.string ⟨#[]⟩, .string ⟨#[]⟩, .string ⟨#[]⟩, .slice none 0 0] ∧
      ∀ X W', w3.grownBy X (some w.heap.size) → X.grownBy W' (some (w.heap.size + 1)) → CloneOk w x.ad E' m' k' W') := by
    refine C.mono ?_
    rintro e w3 ⟨E', m', k', rfl, h1, h2, h3⟩
    have z1 : V.heap.size = w.heap.size + 2 := by rw [← hV]; simp
    have z3 := h3.size
    refine ⟨E', m', k', rfl, by omega, (h3.block _ (by omega)).trans hn1, (h3.block _ (by omega)).trans hn2, fun X W' g1 g2 => ?_⟩
    have s1 := g1.size
    have s2 := g2.size
    have hb : ∀ i, V.heap.size ≤ i → i < w3.heap.size → W'.heap[i]? = w3.heap[i]? := fun i hi hi2 => by
      rw [g2.block i (by omega) (by intro e; injection e with e; omega), g1.block i hi2 (by intro e; injection e with e; omega)]
    refine ⟨(h1.keep (fun b o e => hb b (h2 b o none e).1 (h2 b o none e).2)).wide (by omega), fun b o s e => ⟨by have := (h2 b o s e).1; omega, by have := (h2 b o s e).2; omega⟩, ?_⟩
    exact ((hBV.trans (h3.mono (by omega))).grown g1 (by omega) (fun q e => by cases e; exact Nat.le_refl _)).grown g2 (by omega) (fun q e => by cases e; omega)
  have HV := Lib.hid hV
  have v3 := hn1.cell 3
  clear C hn1 hn2 hBV ha hV
  go_enter Tryd.func71, Tryd.ntmps71
  go_upto_region 1 with (fail)
  rw [HV.out]
  go_wp2_with (go_at_call 97; ((with_reducible refine C2.out.mono ?_); rintro e w3 ⟨E', m', k', rfl, z3, b1, b2, c3⟩; have a0 := b1.cell 0; have a1 := b1.cell 1; have a2 := b1.cell 2; have a3 := b1.cell 3; have f3 := b1.frozen 3; have r0 := b2.cell 0; have r1 := b2.cell 1; have r2 := b2.cell 2; have r3 := b2.cell 3; have g0 := b2.frozen 0; have g1 := b2.frozen 1; have g2 := b2.frozen 2; have g3 := b2.frozen 3; have C3 := Lib.hid c3; have B2 := Lib.hid b2; clear c3 b1 b2))
  have hb4 := blk4 (x := .string x.cl) (y := .string x.sv) (z := .string x.wd) (v := .slice E' m' k') (show Blk (w3.setCell ⟨w.heap.size, 3, none⟩ (.slice E' m' k')) (w.heap.size + 1) 50 _ from ((gset w3 w.heap.size 3 _).block _ (by omega) (by intro e; injection e with e; omega)).trans B2.out)
  have x0 := hb4.cell 0
  have x1 := hb4.cell 1
  have x2 := hb4.cell 2
  have x3 := hb4.cell 3
  refine bodyPost_ret (v := .agg #[.string x.cl, .string x.sv, .string x.wd, .slice E' m' k']) (by simp [results, Tryd.results71, go_sem, x0, x1, x2, x3]) rfl ⟨E', m', k', rfl, ?_⟩
  exact C3.out _ _ (gset _ _ _ _) (gset4 _ _ _ _ _ _)
end Go.Proofs.YtjimoegegigoiaaDoor
namespace Go.Proofs.YtjimoegegigoiaaDoor
open Go.RowKit Go.Shelf
set_option maxRecDepth 100000
set_option maxHeartbeats 4000000
set_option linter.unusedSimpArgs false
set_option linter.unusedVariables false

def star : ByteArray := ⟨#[42]⟩
theorem star_size : star.size = 1 := rfl
theorem star_list (s : ByteArray) : (s.toList == [42]) = decide (s = star) := by
  have e : s.toList = s.data.toList := ByteArray.toList_eq s
  rw [e, Bool.eq_iff_iff, beq_iff_eq, decide_eq_true_iff]
  constructor
  · intro h
    exact WideShapes.bytes_inj (h.trans rfl)
  · intro h
    rw [h]
    rfl
/-- of the pairs that hold for a client and a server, the best one first -/
def pairsOf (c s : ByteArray) : List (ByteArray × ByteArray) := [(c, s), (c, star), (star, s), (star, star)]
/-- the best line's place -/
noncomputable def bst (ss : List Sec) (c s : ByteArray) : Option Nat :=
  if c = star ∨ s = star then none else (pairsOf c s).findSome? fun p => fst ss p.1 p.2
theorem fst_lt {ss : List Sec} {a c : ByteArray} {i : Nat} (h : fst ss a c = some i) : ∃ x, ss[i]? = some x ∧ x.cl = a ∧ x.sv = c ∧ rightE x = 0 := by
  unfold fst at h
  rw [List.findIdx?_eq_some_iff_getElem] at h
  obtain ⟨hi, h1, _⟩ := h
  exact ⟨ss[i], List.getElem?_eq_getElem hi, of_decide_eq_true h1⟩
/-- what best answers -/
def BestR (w : World) (ss : List Sec) (o : Option Nat) (e : Ending) (w' : World) : Prop :=
  Below w.heap.size w w' ∧ match o with
    | none => e = .returned (.tuple #[.agg #[.string ⟨#[]⟩, .string ⟨#[]⟩, .string ⟨#[]⟩, .slice none 0 0], .bool false])
    | some i => ∃ x E m k, ss[i]? = some x ∧ e = .returned (.tuple #[.agg #[.string x.cl, .string x.sv, .string x.wd, .slice E m k], .bool true]) ∧ AdRd w' w'.heap.size E m k x.ad ∧ (∀ b o s, E = some ⟨b, o, s⟩ → w.heap.size ≤ b ∧ b < w'.heap.size)
theorem best_star (A : Option Addr) (n c : Nat) (mb : Option Nat) (ss : List Sec) (cl sv : ByteArray) (w : World) (h : cl = star ∨ sv = star) :
    Calls Tryd.prog 127 #[.slice A n c, .map mb, .string cl, .string sv] w (BestR w ss (bst ss cl sv)) := by
  have hb : Hid (bst ss cl sv = none) := if_pos h
  rw [hb.out]
  have R : Hid (∀ W, Below w.heap.size w W → BestR w ss none (.returned (.tuple #[.agg #[.string ⟨#[]⟩, .string ⟨#[]⟩, .string ⟨#[]⟩, .slice none 0 0], .bool false])) W) := fun W hB => ⟨hB, rfl⟩
  by_cases h1 : cl = star
  · have e1 : (cl.toList == [42]) = true := by rw [star_list]; simpa using h1
    clear h h1
    go_enter Tryd.func127, Tryd.ntmps127
    go_wp2
    refine bodyPost_ret (v := .tuple #[.agg #[.string ⟨#[]⟩, .string ⟨#[]⟩, .string ⟨#[]⟩, .slice none 0 0], .bool false]) (by simp [results, Tryd.results127, go_sem]) rfl ?_
    exact R.out _ ((Below.refl _ _).alloc (Nat.le_refl _) _)
  · have h2 : sv = star := h.resolve_left h1
    have e1 : (cl.toList == [42]) = false := by rw [star_list]; simpa using h1
    have e2 : (sv.toList == [42]) = true := by rw [star_list]; simpa using h2
    clear h h1 h2
    go_enter Tryd.func127, Tryd.ntmps127
    go_wp2
    refine bodyPost_ret (v := .tuple #[.agg #[.string ⟨#[]⟩, .string ⟨#[]⟩, .string ⟨#[]⟩, .slice none 0 0], .bool false]) (by simp [results, Tryd.results127, go_sem]) rfl ?_
    exact R.out _ ((Below.refl _ _).alloc (Nat.le_refl _) _)
theorem best_any (A : Option Addr) (n c B mb mn : Nat) (ss : List Sec) (cl sv : ByteArray) (w : World) (h : SecRd w B A n ss) (hM : MapP w mb mn (fst ss)) (hB : B ≤ w.heap.size) (hcl : cl.size ≤ maxLen) (hsv : sv.size ≤ maxLen) :
    Calls Tryd.prog 127 #[.slice A n c, .map (some mb), .string cl, .string sv] w (BestR w ss (bst ss cl sv)) := by
  by_cases hst : cl = star ∨ sv = star
  · exact best_star A n c (some mb) ss cl sv w hst
  have hb : Hid (bst ss cl sv = (pairsOf cl sv).findSome? fun p => fst ss p.1 p.2) := if_neg hst
  have e1 : (cl.toList == [42]) = false := by rw [star_list]; simpa using fun e => hst (.inl e)
  have e2 : (sv.toList == [42]) = false := by rw [star_list]; simpa using fun e => hst (.inr e)
  have HS := Lib.hid h
  have HM := Lib.hid hM
  clear h hM hst
  obtain ⟨W1, hW1⟩ : ∃ W1, w.alloc (.cells #[.string ⟨#[]⟩, .string ⟨#[]⟩, .string ⟨#[]⟩, .slice none 0 0] 50) = W1 := ⟨_, rfl⟩
  have hz1 : W1.heap.size = w.heap.size + 1 := by rw [← hW1]; simp
  have hB1 : Below w.heap.size w W1 := by rw [← hW1]; exact (Below.refl _ _).alloc (Nat.le_refl _) _
  have hn1 : Blk W1 w.heap.size 50 [.string ⟨#[]⟩, .string ⟨#[]⟩, .string ⟨#[]⟩, .slice none 0 0] := by rw [← hW1]; exact heap_alloc_new w _
  obtain ⟨W2, hW2⟩ : ∃ W2, W1.alloc (.cells #[.string cl, .string sv, .string cl, .string ⟨#[42]⟩, .string ⟨#[42]⟩, .string sv, .string ⟨#[42]⟩, .string ⟨#[42]⟩] 158) = W2 := ⟨_, rfl⟩
  have hz2 : W2.heap.size = w.heap.size + 2 := by rw [← hW2]; simp; omega
  have hB2 : Below W1.heap.size W1 W2 := by rw [← hW2]; exact (Below.refl _ _).alloc (Nat.le_refl _) _
  have hn2 : Blk W2 (w.heap.size + 1) 158 [.string cl, .string sv, .string cl, .string ⟨#[42]⟩, .string ⟨#[42]⟩, .string sv, .string ⟨#[42]⟩, .string ⟨#[42]⟩] := by rw [← hW2, ← hz1]; exact heap_alloc_new W1 _
  have hn1' : Blk W2 w.heap.size 50 _ := (hB2.block _ (by omega)).trans hn1
  have hBW : Below w.heap.size w W2 := hB1.trans (hB2.mono (by omega))
  have PC : ∀ j p, (pairsOf cl sv)[j]? = some p → W2.cell? ⟨w.heap.size + 1, j * 2, none⟩ = some (.string p.1) ∧ W2.cell? ⟨w.heap.size + 1, j * 2 + 1, none⟩ = some (.string p.2) ∧ p.1.size ≤ maxLen ∧ p.2.size ≤ maxLen := by
    intro j p hp
    have hs : star.size ≤ maxLen := by rw [star_size]; unfold maxLen; omega
    match j, hp with
    | 0, hp => obtain rfl : (cl, sv) = p := by simpa [pairsOf] using hp
               exact ⟨hn2.cell 0, hn2.cell 1, hcl, hsv⟩
    | 1, hp => obtain rfl : (cl, star) = p := by simpa [pairsOf] using hp
               exact ⟨hn2.cell 2, hn2.cell 3, hcl, hs⟩
    | 2, hp => obtain rfl : (star, sv) = p := by simpa [pairsOf] using hp
               exact ⟨hn2.cell 4, hn2.cell 5, hs, hsv⟩
    | 3, hp => obtain rfl : (star, star) = p := by simpa [pairsOf] using hp
               exact ⟨hn2.cell 6, hn2.cell 7, hs, hs⟩
    | j + 4, hp => simp [pairsOf] at hp
  have hps : (pairsOf cl sv).length = 4 := rfl
  obtain ⟨ps, hpse⟩ : ∃ ps, pairsOf cl sv = ps := ⟨_, rfl⟩
  rw [hpse] at hb PC hps
  have HPC := Lib.hid PC
  have HPS := Lib.hid hps
  have HW1 := Lib.hid hW1
  have HW2 := Lib.hid hW2
  have HN1 := Lib.hid hn1'
  have HBW := Lib.hid hBW
  clear PC hps hW1 hW2 hn1 hn1' hn2 hBW hB1 hB2 hpse hcl hsv
  go_enter Tryd.func127, Tryd.ntmps127
  go_wp2
  rw [HW1.out, HW2.out]
  go_loopw [31] (fun i wr => ∃ j : Nat, j ≤ 4 ∧ i = .int .i64 j ∧ Below W2.heap.size W2 wr ∧ ∀ p ∈ ps.take j, fst ss p.1 p.2 = none) (fun i _ => 4 - (intOf i).toNat)
  case atStart => exact ⟨0, by omega, rfl, Below.refl _ _, fun p hp => by simp at hp⟩
  case round =>
    rename World => wr
    obtain ⟨j, hj, rfl, hBr, hno⟩ := hrel
    have HNO := Lib.hid hno
    have HBR := Lib.hid hBr
    have hzr := hBr.size
    clear hno hBr
    by_cases hlt : j < 4
    · obtain ⟨p, hp⟩ : ∃ p, ps[j]? = some p := ⟨ps[j]'(by have := HPS.out; omega), List.getElem?_eq_getElem _⟩
      obtain ⟨q0, q1, s0, s1⟩ := HPC.out j p hp
      replace q0 := (HBR.out.cell (p := ⟨w.heap.size + 1, j * 2, none⟩) (by show w.heap.size + 1 < W2.heap.size; omega)).trans q0
      replace q1 := (HBR.out.cell (p := ⟨w.heap.size + 1, j * 2 + 1, none⟩) (by show w.heap.size + 1 < W2.heap.size; omega)).trans q1
      obtain ⟨V, hV⟩ : ∃ V, wr.alloc (.cells #[.string p.1, .string p.2] 158) = V := ⟨_, rfl⟩
      have hBV : Below wr.heap.size wr V := by rw [← hV]; exact (Below.refl _ _).alloc (Nat.le_refl _) _
      have hnV : Blk V wr.heap.size 158 [.string p.1, .string p.2] := by rw [← hV]; exact heap_alloc_new wr _
      have hBV2 : Below W2.heap.size W2 V := HBR.out.trans (hBV.mono hzr)
      have hBwV : Below w.heap.size w V := HBW.out.trans (hBV2.mono (by omega))
      have LK := (HM.out.later hBwV).look p.1 p.2 s0 s1
      have p0 := hnV.cell 0
      have p1 := hnV.cell 1
      have hBV2' := Lib.hid hBV2
      have HV := Lib.hid hV
      have HP := Lib.hid hp
      have hwr : w.heap.size + 1 < wr.heap.size := by omega
      cases hf : fst ss p.1 p.2
      case' none =>
        rw [hf] at LK
        have NX : Hid (∀ q ∈ ps.take (j + 1), fst ss q.1 q.2 = none) := by
          intro q hq
          rw [take_one HP.out] at hq
          rcases List.mem_append.1 hq with h | h
          · exact HNO.out q h
          · rw [List.mem_singleton.1 h]; exact hf
        clear hV hBV hnV hBV2 hBwV hp hf
        go_wp2_with (rw [HV.out])
        go_roundw
        case rel => exact ⟨j + 1, by omega, by go_num, hBV2'.out, NX.out⟩
        case measure => simp [intOf]; omega
      case' some i =>
        rw [hf] at LK
        obtain ⟨x0, hx0, -, -, -⟩ := fst_lt hf
        have hi : i < n := by have := (List.getElem?_eq_some_iff.1 hx0).1; have := HS.out.1; omega
        have hsV := HS.out.below hBwV hB
        obtain ⟨x, b, off, E, m, k, hx, rfl, hbB, ho, ha, c0, c1, c2, c3⟩ := hsV.at_ i hi
        have hRES : bst ss cl sv = some i := by
          rw [hb.out]
          have hj2 := (List.getElem?_eq_some_iff.1 HP.out).1
          have e : ps = ps.take j ++ p :: ps.drop (j + 1) := by
            rw [← (List.getElem?_eq_some_iff.1 HP.out).2, ← List.drop_eq_getElem_cons hj2, List.take_append_drop]
          rw [e, List.findSome?_append, List.findSome?_cons, hf]
          have : (ps.take j).findSome? (fun p => fst ss p.1 p.2) = none := by
            rw [List.findSome?_eq_none_iff]
            exact HNO.out
          rw [this]
          rfl
        have hbV : b < V.heap.size := by have := hBwV.size; omega
        have hB4 : B ≤ V.heap.size := Nat.le_trans hB hBwV.size
        have CL : Hid (Calls Tryd.prog 71 #[.agg #[.string x.cl, .string x.sv, .string x.wd, .slice E m k]] V fun e w3 => ∃ E' m' k', e = .returned (.agg #[.string x.cl, .string x.sv, .string x.wd, .slice E' m' k']) ∧ w.heap.size < w3.heap.size ∧ Blk w3 w.heap.size 50 [.string ⟨#[]⟩, .string ⟨#[]⟩, .string ⟨#[]⟩, .slice none 0 0] ∧
            ∀ W', w3.grownBy W' (some w.heap.size) → BestR w ss (bst ss cl sv) (.returned (.tuple #[.agg #[.string x.cl, .string x.sv, .string x.wd, .slice E' m' k'], .bool true])) W') := by
          refine (sclone_any x E m k B V ha hB4).mono ?_
          rintro e w3 ⟨E', m', k', rfl, h1, h2, h3⟩
          have z3 := h3.size
          have zV := hBV2.size
          refine ⟨E', m', k', rfl, by omega, (h3.block _ (by omega)).trans ((hBV2.block _ (by omega)).trans HN1.out), fun W' g => ?_⟩
          have sg := g.size
          refine ⟨(hBwV.trans (h3.mono (by omega))).grown g (by omega) (fun q e => by cases e; exact Nat.le_refl _), ?_⟩
          rw [hRES]
          refine ⟨x, E', m', k', hx, rfl, ?_, fun b o s e => ⟨by have := (h2 b o s e).1; omega, by have := (h2 b o s e).2; omega⟩⟩
          exact (h1.keep (fun b o e => g.block b (h2 b o none e).2 (by have := (h2 b o none e).1; intro e2; injection e2 with e2; omega))).wide sg
        have hi0 : (0 : Int) ≤ (i : Int) := by omega
        have hin : (i : Int) < (n : Int) := by omega
        clear hV hBV hnV hBV2 hBwV hp hf hsV ha ho hx hx0 hRES
        go_wp2_with (first
          | (rw [HV.out])
          | (go_at_call 71; ((with_reducible refine CL.out.mono ?_); rintro e w3 ⟨E', m', k', rfl, z3, b2, c9⟩; have r0 := b2.cell 0; have r1 := b2.cell 1; have r2 := b2.cell 2; have r3 := b2.cell 3; have g0 := b2.frozen 0; have g1 := b2.frozen 1; have g2 := b2.frozen 2; have g3 := b2.frozen 3; have C9 := Lib.hid c9; have B2 := Lib.hid b2; clear c9 b2)))
        have hb4 := blk4 (x := .string x.cl) (y := .string x.sv) (z := .string x.wd) (v := .slice E' m' k') B2.out
        have y0 := hb4.cell 0
        have y1 := hb4.cell 1
        have y2 := hb4.cell 2
        have y3 := hb4.cell 3
        exact bodyPost_ret (v := .tuple #[.agg #[.string x.cl, .string x.sv, .string x.wd, .slice E' m' k'], .bool true]) (by simp [results, Tryd.results127, go_sem, y0, y1, y2, y3]) rfl (C9.out _ (gset4 _ _ _ _ _ _))
    · obtain rfl : j = 4 := by omega
      have hRES : Hid (bst ss cl sv = none) := by
        show _ = _
        rw [hb.out, List.findSome?_eq_none_iff]
        intro p hp
        exact HNO.out p (by rw [List.take_of_length_le (by have := HPS.out; omega)]; exact hp)
      have hl1 : w.heap.size < wr.heap.size := by omega
      have hbk : Blk wr w.heap.size 50 [.string ⟨#[]⟩, .string ⟨#[]⟩, .string ⟨#[]⟩, .slice none 0 0] := (HBR.out.block _ (by omega)).trans HN1.out
      have r0 := hbk.cell 0
      have r1 := hbk.cell 1
      have r2 := hbk.cell 2
      have r3 := hbk.cell 3
      have g0 := hbk.frozen 0
      have g1 := hbk.frozen 1
      have g2 := hbk.frozen 2
      have g3 := hbk.frozen 3
      have HBK := Lib.hid hbk
      clear hbk
      go_wp2
      have hb4 := blk4 (x := .string ⟨#[]⟩) (y := .string ⟨#[]⟩) (z := .string ⟨#[]⟩) (v := .slice none 0 0) HBK.out
      have y0 := hb4.cell 0
      have y1 := hb4.cell 1
      have y2 := hb4.cell 2
      have y3 := hb4.cell 3
      refine bodyPost_ret (v := .tuple #[.agg #[.string ⟨#[]⟩, .string ⟨#[]⟩, .string ⟨#[]⟩, .slice none 0 0], .bool false]) (by simp [results, Tryd.results127, go_sem, y0, y1, y2, y3]) rfl ?_
      rw [hRES.out]
      refine ⟨(HBW.out.trans (HBR.out.mono (by omega))).grown (gset4 _ _ _ _ _ _) (by omega) (fun q e => by cases e; exact Nat.le_refl _), rfl⟩
end Go.Proofs.YtjimoegegigoiaaDoor
namespace Go.Proofs.YtjimoegegigoiaaDoor
open Go.RowKit Go.Shelf
set_option maxRecDepth 100000
set_option maxHeartbeats 4000000
set_option linter.unusedSimpArgs false
set_option linter.unusedVariables false

theorem infoS : (Tryd.prog.info? 50).map (fun i => (i.zero, i.size, i.bytes)) = some (some (.agg #[.string ⟨#[]⟩, .string ⟨#[]⟩, .string ⟨#[]⟩, .slice none 0 0]), 4, 72) := by kernel_rfl
/-- a list of secrets of the call's own; the numbers lie elsewhere -/
def OwnS (w : World) (base : Nat) (v : Value) (ss : List Sec) : Prop :=
  ∃ cs, w.ownsRow base 50 4 v ss.length cs ∧ ∀ i x, ss[i]? = some x → okS x ∧ ∃ E m k, AdRd w w.heap.size E m k x.ad ∧ (∀ b o, E = some ⟨b, o, none⟩ → v.ownBlock ≠ some b ∧ b < w.heap.size ∧ base ≤ b) ∧ ∀ j u, (secV x E m k)[j]? = some u → cs[i * 4 + j]? = some u
theorem OwnS.nil (w : World) (base : Nat) : OwnS w base (.slice none 0 0) [] := ⟨[], World.ownsRow_nil _ _ _ _, fun i x h => by simp at h⟩
theorem OwnS.form {w : World} {base : Nat} {v : Value} {ss : List Sec} (h : OwnS w base v ss) :
    (v = .slice none 0 0 ∧ ss = []) ∨ ∃ g cap, v = .slice (some ⟨g, 0, none⟩) ss.length cap ∧ base ≤ g ∧ g < w.heap.size ∧ ss.length ≤ cap := by
  obtain ⟨cs, h1, _⟩ := h
  rcases h1.2 with ⟨e, h0⟩ | ⟨g, cap, cur, e, hb, hg, hc, hm, _⟩
  · exact .inl ⟨e, List.eq_nil_of_length_eq_zero h0⟩
  · exact .inr ⟨g, cap, e, hb, (Array.getElem?_eq_some_iff.1 hg).1, hc⟩
theorem OwnS.slice {w : World} {base : Nat} {v : Value} {ss : List Sec} (h : OwnS w base v ss) : ∃ A c, v = .slice A ss.length c ∧ ss.length ≤ c := by
  rcases h.form with ⟨rfl, rfl⟩ | ⟨g, cap, rfl, _, _, hc⟩
  · exact ⟨none, 0, rfl, Nat.le_refl _⟩
  · exact ⟨_, cap, rfl, hc⟩
theorem OwnS.block {w : World} {base : Nat} {v : Value} {ss : List Sec} (h : OwnS w base v ss) : ∀ k, v.ownBlock = some k → base ≤ k ∧ k < w.heap.size := by
  intro k hk
  rcases h.form with ⟨rfl, _⟩ | ⟨g, cap, rfl, h1, h2, _⟩
  · simp [Value.ownBlock] at hk
  · simp [Value.ownBlock] at hk
    omega
theorem OwnS.grown {w w' : World} {base : Nat} {v : Value} {ss : List Sec} {row : Option Nat} (h : OwnS w base v ss) (hg : w.grownBy w' row) (hne : ∀ q, row = some q → q < base ∨ w.heap.size ≤ q) : OwnS w' base v ss := by
  have hvb := h.block
  obtain ⟨cs, h1, h2⟩ := h
  refine ⟨cs, World.ownsRow.kept h1 hg ?_, fun i x hx => ?_⟩
  · cases hv : v.ownBlock with
    | none => exact .inl rfl
    | some k =>
      refine .inr fun e => ?_
      have h3 := hvb k hv
      rcases hne k e.symm with h4 | h4 <;> omega
  · obtain ⟨ho, E, m, k, ha, hn, hc⟩ := h2 i x hx
    refine ⟨ho, E, m, k, (ha.keep fun b o e => hg.block b (hn b o e).2.1 fun e2 => ?_).wide hg.size, fun b o e => ⟨(hn b o e).1, Nat.lt_of_lt_of_le (hn b o e).2.1 hg.size, (hn b o e).2.2⟩, hc⟩
    have := hn b o e
    rcases hne b e2.symm with h | h <;> omega
theorem OwnS.later {w w' : World} {base : Nat} {v : Value} {ss : List Sec} (h : OwnS w base v ss) (hB : Below w.heap.size w w') : OwnS w' base v ss :=
  h.grown (row := none) ⟨hB.os, hB.tape, hB.output, hB.size, fun i hi _ => hB.block i hi⟩ (fun q e => by cases e)
theorem secV_one (x : Sec) (E : Option Addr) (m k : Nat) : ∀ u ∈ secV x E m k, u.oneCell' = true := by
  intro u hu
  simp [secV] at hu
  rcases hu with rfl | rfl | rfl | rfl <;> rfl
theorem appS_own {w : World} {base : Nat} {v : Value} {ss : List Sec} (h : OwnS w base v ss) (b c : Nat) (x : Sec) (E : Option Addr) (m k : Nat) (hx : ∀ j u, (secV x E m k)[j]? = some u → w.cell? ⟨b, j, none⟩ = some u) (ho : okS x) (ha : AdRd w w.heap.size E m k x.ad) (hE : ∀ b o, E = some ⟨b, o, none⟩ → v.ownBlock ≠ some b ∧ b < w.heap.size ∧ base ≤ b)
    (hl : ss.length < 4398046511) (hb : base ≤ w.heap.size) :
    ∃ v' w', (Builtin.append_ #[41, 41] 41 #[v, .slice (some ⟨b, 0, none⟩) 1 c]).run Tryd.prog w = .ok v' w' ∧ OwnS w' base v' (ss ++ [x]) ∧ w.grownBy w' v.ownBlock ∧ (v'.ownBlock = v.ownBlock ∨ v'.ownBlock = some w.heap.size) := by
  obtain ⟨cs, h1, h2⟩ := h
  obtain ⟨i, hi, hz, hs1, hs2⟩ := info_parts infoS
  obtain ⟨v', w', hrun, h3, h4, _, h5⟩ := run_append_own_at (P := Tryd.prog) w base 41 41 50 i _ 4 72 Tryd.underlying41 hi hz hs1 hs2 rfl (by decide) v _ _ h1 ⟨b, 0, none⟩ 1 c (secV x E m k)
    rfl (fun j u hj => by rw [addr_adds, Nat.zero_add]; exact hx j u hj) (secV_one x E m k) (by unfold maxLen; omega) (by omega) hb
  have hcl : cs.length = ss.length * 4 := h1.1
  have old : ∀ b o E', E' = some (⟨b, o, none⟩ : Addr) → (v.ownBlock ≠ some b ∧ b < w.heap.size ∧ base ≤ b) → v'.ownBlock ≠ some b ∧ b < w'.heap.size ∧ base ≤ b := fun b o E' e hn => by
    refine ⟨fun e2 => ?_, Nat.lt_of_lt_of_le hn.2.1 h4.size, hn.2.2⟩
    rcases h5 with e3 | e3
    · exact hn.1 (e3 ▸ e2)
    · rw [e3] at e2; injection e2 with e2; omega
  refine ⟨v', w', hrun, ⟨cs ++ secV x E m k, ?_, fun i y hy => ?_⟩, h4, h5⟩
  · rw [List.length_append, List.length_singleton]
    exact h3
  · by_cases hi : i < ss.length
    · rw [List.getElem?_append_left hi] at hy
      obtain ⟨ho', E', m', k', ha', hn', hc'⟩ := h2 i y hy
      refine ⟨ho', E', m', k', (ha'.keep fun b o e => h4.block b (hn' b o e).2.1 (fun e2 => (hn' b o e).1 e2.symm)).wide h4.size, fun b o e => old b o E' e (hn' b o e), fun j u hu => ?_⟩
      have := hc' j u hu
      rw [List.getElem?_append_left (List.getElem?_eq_some_iff.1 this).1]
      exact this
    · have hi2 := (List.getElem?_eq_some_iff.1 hy).1
      rw [List.length_append, List.length_singleton] at hi2
      obtain rfl : i = ss.length := by omega
      obtain rfl : x = y := by simpa using hy
      refine ⟨ho, E, m, k, (ha.keep fun b o e => h4.block b (hE b o e).2.1 (fun e2 => (hE b o e).1 e2.symm)).wide h4.size, fun b o e => old b o E e (hE b o e), fun j u hu => ?_⟩
      rw [List.getElem?_append_right (by omega), hcl, show ss.length * 4 + j - ss.length * 4 = j by omega]
      exact hu
/-- what is owned is read -/
theorem OwnS.rd {w : World} {base : Nat} {v : Value} {ss : List Sec} (h : OwnS w base v ss) (hm : ss.length ≤ 4398046510976) : ∃ A c, v = .slice A ss.length c ∧ SecRd w w.heap.size A ss.length ss := by
  obtain ⟨cs, h1, h2⟩ := h
  have h1' := h1
  rcases h1.2 with ⟨e, h0⟩ | ⟨g, cap, cur, e, hb, hg, hc, _⟩
  · exact ⟨none, 0, by rw [e, h0], rfl, hm, fun h => by omega⟩
  · refine ⟨_, _, e, rfl, hm, fun _ => ⟨g, 0, rfl, (Array.getElem?_eq_some_iff.1 hg).1, fun i x hx => ?_⟩⟩
    obtain ⟨ho, E, m, k, ha, hn, hcs⟩ := h2 i x hx
    refine ⟨ho, E, m, k, ha, fun j u hu => ?_⟩
    have h3 := World.ownsRow.cells h1' (g := g) (by rw [e]; rfl) (i * 4 + j) u (hcs j u hu)
    rw [addr_adds] at h3
    rw [show (0 + i * 4 + j) = 0 + (i * 4 + j) by omega]
    exact h3
end Go.Proofs.YtjimoegegigoiaaDoor
