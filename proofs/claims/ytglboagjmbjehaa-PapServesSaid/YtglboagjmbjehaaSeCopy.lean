/-
  Secrets in new memory: a copy of each, put behind one another.
-/
import Derived.Test.YtglboagjmbjehaaSeNew
namespace Go.Proofs.Ytglboagjmbjehaa
open Go.RowKit Go.Shelf
set_option maxRecDepth 100000
set_option maxHeartbeats 4000000
set_option linter.unusedSimpArgs false
set_option linter.unusedVariables false

/-- append(nil, numbers...) -/
theorem app64_nil {w : World} {B m k : Nat} {E : Option Addr} {l : List Int} (h : AdRd w B E m k l) (hB : B ≤ w.heap.size) :
    ∃ E' m' k' w', (Builtin.append_ #[24, 24] 24 #[.slice none 0 0, .slice E m k]).run Try.prog w = .ok (.slice E' m' k') w' ∧ AdRd w' w'.heap.size E' m' k' l ∧ (∀ b o s, E' = some ⟨b, o, s⟩ → w.heap.size ≤ b ∧ b < w'.heap.size) ∧ Below w.heap.size w w' := by
  obtain ⟨h1, h2, h3, h4, h5⟩ := h
  obtain ⟨i, hi, hz, hs1, hs2⟩ := info_parts info64
  have hown : w.ownsRow w.heap.size 2 1 (.slice none 0 0) 0 [] := World.ownsRow_nil _ _ _ _
  cases E with
  | none =>
    obtain rfl : k = 0 := h3 rfl
    obtain rfl : m = 0 := by omega
    exact ⟨none, 0, 0, w, run_append_owned_none (P := Try.prog) (w := w) w.heap.size 24 24 2 i 1 Try.underlying24 hi _ _ _ hown, ⟨h1, Nat.le_refl _, fun _ => rfl, by omega, fun h => by omega⟩, fun b o s e => (by cases e), Below.refl _ _⟩
  | some a =>
    obtain ⟨v', w', hrun, h6, h7, _, h8⟩ := run_append_own_at (P := Try.prog) w w.heap.size 24 24 2 i _ 1 8 Try.underlying24 hi hz hs1 hs2 rfl (by decide) _ _ _ hown a m k (intsV l)
      (by unfold intsV; rw [List.length_map]; omega) (fun j u hj => by
        unfold intsV at hj
        rw [List.getElem?_map] at hj
        obtain ⟨z, hz', rfl⟩ := Option.map_eq_some_iff.1 hj
        obtain ⟨b, off, e, hl, hc⟩ := h5 (by have := (List.getElem?_eq_some_iff.1 hz').1; omega)
        injection e with e
        subst e
        rw [addr_adds]
        exact hc j z hz') (intsV_one l) (by unfold maxLen; omega) (by omega) (Nat.le_refl _)
    rw [List.nil_append, Nat.zero_add] at h6
    have hB' : Below w.heap.size w w' := (Below.refl w.heap.size w).grown h7 (Nat.le_refl _) (fun q e => by simp [Value.ownBlock] at e)
    have h6' := h6
    rcases h6.2 with ⟨e, h0⟩ | ⟨g, cap, cur, e, hb, hg, hc, hcm, hcs, ht⟩
    · subst e
      exact ⟨none, 0, 0, w', hrun, ⟨by omega, Nat.le_refl _, fun _ => rfl, by omega, fun h => by omega⟩, fun b o s e => (by cases e), hB'⟩
    · subst e
      refine ⟨_, _, _, w', hrun, ⟨h1, hc, fun e => (by cases e), h4, fun h0 => ⟨g, 0, rfl, (Array.getElem?_eq_some_iff.1 hg).1, fun j z hz' => ?_⟩⟩, fun b o s e => ?_, hB'⟩
      · have h9 := World.ownsRow.cells h6' (g := g) rfl j (.int .i64 z) (by unfold intsV; rw [List.getElem?_map, hz']; rfl)
        rw [addr_adds] at h9
        exact h9
      · injection e with e1
        injection e1 with e2 e3 e4
        subst e2
        exact ⟨hb, (Array.getElem?_eq_some_iff.1 hg).1⟩
theorem appS_big {w : World} {base : Nat} {v : Value} {ss : List Sec} (h : OwnS w base v ss) (b c : Nat) (x : Sec) (E : Option Addr) (m k : Nat) (hx : ∀ j u, (secV x E m k)[j]? = some u → w.cell? ⟨b, j, none⟩ = some u) (ho : okS x) (ha : AdRd w w.heap.size E m k x.ad) (hE : ∀ b o, E = some ⟨b, o, none⟩ → v.ownBlock ≠ some b ∧ b < w.heap.size ∧ base ≤ b)
    (hl : ss.length < 1954687338212) (hb : base ≤ w.heap.size) :
    ∃ v' w', (Builtin.append_ #[22, 22] 22 #[v, .slice (some ⟨b, 0, none⟩) 1 c]).run Try.prog w = .ok v' w' ∧ OwnS w' base v' (ss ++ [x]) ∧ w.grownBy w' v.ownBlock ∧ (v'.ownBlock = v.ownBlock ∨ v'.ownBlock = some w.heap.size) := by
  obtain ⟨cs, h1, h2⟩ := h
  obtain ⟨i, hi, hz, hs1, hs2⟩ := info_parts infoS
  obtain ⟨v', w', hrun, h3, h4, _, h5⟩ := run_append_own_at (P := Try.prog) w base 22 22 26 i _ 4 72 Try.underlying22 hi hz hs1 hs2 rfl (by decide) v _ _ h1 ⟨b, 0, none⟩ 1 c (secV x E m k)
    rfl (fun j u hj => by rw [addr_adds, Nat.zero_add]; exact hx j u hj) (secV_one x E m k) (by unfold maxLen; omega) (by omega) hb
  have hcl : cs.length = ss.length * 4 := h1.1
  have old : ∀ b o E', E' = some (⟨b, o, none⟩ : Addr) → (v.ownBlock ≠ some b ∧ b < w.heap.size ∧ base ≤ b) → v'.ownBlock ≠ some b ∧ b < w'.heap.size ∧ base ≤ b := fun b o E' e hn => by
    refine ⟨fun e2 => ?_, Nat.lt_of_lt_of_le hn.2.1 h4.size, hn.2.2⟩
    rcases h5 with e3 | e3
    · exact hn.1 (e3 ▸ e2)
    · rw [e3] at e2; injection e2 with e2; omega
  refine ⟨v', w', hrun, ⟨cs ++ secV x E m k, ?_, fun i y hy => ?_⟩, h4, h5⟩
  · rw [List.length_append, List.length_singleton]
    exact h3
  · by_cases hi : i < ss.length
    · rw [List.getElem?_append_left hi] at hy
      obtain ⟨ho', E', m', k', ha', hn', hc'⟩ := h2 i y hy
      refine ⟨ho', E', m', k', (ha'.keep fun b o e => h4.block b (hn' b o e).2.1 (fun e2 => (hn' b o e).1 e2.symm)).wide h4.size, fun b o e => old b o E' e (hn' b o e), fun j u hu => ?_⟩
      have := hc' j u hu
      rw [List.getElem?_append_left (List.getElem?_eq_some_iff.1 this).1]
      exact this
    · have hi2 := (List.getElem?_eq_some_iff.1 hy).1
      rw [List.length_append, List.length_singleton] at hi2
      obtain rfl : i = ss.length := by omega
      obtain rfl : x = y := by simpa using hy
      refine ⟨ho, E, m, k, (ha.keep fun b o e => h4.block b (hE b o e).2.1 (fun e2 => (hE b o e).1 e2.symm)).wide h4.size, fun b o e => old b o E e (hE b o e), fun j u hu => ?_⟩
      rw [List.getElem?_append_right (by omega), hcl, show ss.length * 4 + j - ss.length * 4 = j by omega]
      exact hu
/-- while secrets are copied -/
structure CpJ (w wr : World) (v : Value) (ss : List Sec) (j : Nat) : Prop where
  own : OwnS wr w.heap.size v (ss.take j)
  bel : Below w.heap.size w wr
def xV (x : Sec) (E : Option Addr) (m k : Nat) : Array Value := #[.string x.cl, .string x.sv, .string x.wd, .slice E m k]
theorem cp_step {w wr : World} {A0 : Option Addr} {j c : Nat} {ss : List Sec} (h : CpJ w wr (.slice A0 j c) ss j) {x : Sec} {E : Option Addr} {m k B : Nat} (hx : ss[j]? = some x) (ho : okS x) (ha : AdRd wr B E m k x.ad) (hB : B ≤ wr.heap.size) (hj : j < 1954687338212) :
    ∃ V1 V2 E' m' k' V3 V4 V5 A' c' V6,
      (wr.alloc (.cells #[.string x.cl, .string x.sv, .string x.wd, .slice E m k] 26)).alloc (.cells #[.string x.cl, .string x.sv, .string x.wd, .slice E m k] 26) = V1 ∧ Blk V1 wr.heap.size 26 (secV x E m k) ∧ Blk V1 (wr.heap.size + 1) 26 (secV x E m k) ∧
      V1.setCell ⟨wr.heap.size + 1, 3, none⟩ (.slice none 0 0) = V2 ∧ Blk V2 wr.heap.size 26 (secV x E m k) ∧ Blk V2 (wr.heap.size + 1) 26 (secV x none 0 0) ∧
      (Builtin.append_ #[24, 24] 24 #[.slice none 0 0, .slice E m k]).run Try.prog V2 = .ok (.slice E' m' k') V3 ∧ Blk V3 (wr.heap.size + 1) 26 (secV x none 0 0) ∧
      V3.setCell ⟨wr.heap.size + 1, 3, none⟩ (.slice E' m' k') = V4 ∧ Blk V4 (wr.heap.size + 1) 26 (secV x E' m' k') ∧
      V4.alloc (.cells #[.string x.cl, .string x.sv, .string x.wd, .slice E' m' k'] 26) = V5 ∧
      (Builtin.append_ #[22, 22] 22 #[.slice A0 j c, .slice (some ⟨V4.heap.size, 0, none⟩) 1 1]).run Try.prog V5 = .ok (.slice A' (j + 1) c') V6 ∧ CpJ w V6 (.slice A' (j + 1) c') ss (j + 1) := by
  have hwz := h.bel.size
  obtain ⟨V1, hV1⟩ : ∃ V, (wr.alloc (.cells #[.string x.cl, .string x.sv, .string x.wd, .slice E m k] 26)).alloc (.cells #[.string x.cl, .string x.sv, .string x.wd, .slice E m k] 26) = V := ⟨_, rfl⟩
  have b1 : Below wr.heap.size wr V1 := by rw [← hV1]; exact ((Below.refl _ _).alloc (Nat.le_refl _) _).alloc (by simp) _
  have z1 : V1.heap.size = wr.heap.size + 2 := by rw [← hV1]; simp
  have p0 : Blk V1 wr.heap.size 26 (secV x E m k) := by
    rw [← hV1]
    exact (Below.heap_alloc _ _ _ (by simp)).trans (heap_alloc_new wr _)
  have p1 : Blk V1 (wr.heap.size + 1) 26 (secV x E m k) := by
    rw [← hV1]
    have h := heap_alloc_new (wr.alloc (.cells #[.string x.cl, .string x.sv, .string x.wd, .slice E m k] 26)) (.cells #[.string x.cl, .string x.sv, .string x.wd, .slice E m k] 26)
    rw [World.size_alloc] at h
    exact h
  obtain ⟨V2, hV2⟩ : ∃ V, V1.setCell ⟨wr.heap.size + 1, 3, none⟩ (.slice none 0 0) = V := ⟨_, rfl⟩
  have g2 : V1.grownBy V2 (some (wr.heap.size + 1)) := by rw [← hV2]; exact gset _ _ _ _
  have b2 : Below wr.heap.size wr V2 := b1.grown g2 (by omega) (fun q e => by cases e; omega)
  have q0 : Blk V2 wr.heap.size 26 (secV x E m k) := (g2.block _ (by omega) (by intro e; injection e with e; omega)).trans p0
  have q1 : Blk V2 (wr.heap.size + 1) 26 (secV x none 0 0) := by rw [← hV2]; exact Blk.set_ p1 3 _
  have z2 := g2.size
  obtain ⟨E', m', k', V3, hrun, a1, a2, a3⟩ := app64_nil (ha.below b2 hB) (Nat.le_trans hB b2.size)
  have z3 := a3.size
  have r1 : Blk V3 (wr.heap.size + 1) 26 (secV x none 0 0) := (a3.block _ (Blk.lt q1)).trans q1
  obtain ⟨V4, hV4⟩ : ∃ V, V3.setCell ⟨wr.heap.size + 1, 3, none⟩ (.slice E' m' k') = V := ⟨_, rfl⟩
  have g4 : V3.grownBy V4 (some (wr.heap.size + 1)) := by rw [← hV4]; exact gset _ _ _ _
  have z4 := g4.size
  have b4 : Below wr.heap.size wr V4 := (b2.trans (a3.mono b2.size)).grown g4 (by omega) (fun q e => by cases e; omega)
  have s1 : Blk V4 (wr.heap.size + 1) 26 (secV x E' m' k') := by rw [← hV4]; exact Blk.set_ r1 3 _
  have a4 : AdRd V4 V4.heap.size E' m' k' x.ad := (a1.keep (fun b o e => g4.block b (a2 b o none e).2 (by have := (a2 b o none e).1; intro e2; injection e2 with e2; omega))).wide z4
  obtain ⟨V5, hV5⟩ : ∃ V, V4.alloc (.cells #[.string x.cl, .string x.sv, .string x.wd, .slice E' m' k'] 26) = V := ⟨_, rfl⟩
  have hBV : Below V4.heap.size V4 V5 := by rw [← hV5]; exact (Below.refl _ _).alloc (Nat.le_refl _) _
  have z5 : V5.heap.size = V4.heap.size + 1 := by rw [← hV5]; simp
  have b5 : Below wr.heap.size wr V5 := b4.trans (hBV.mono b4.size)
  have hnew : Blk V5 V4.heap.size 26 (secV x E' m' k') := by rw [← hV5]; exact heap_alloc_new V4 _
  have hown := h.own.later b5
  have hob := h.own.block
  have hlen : (ss.take j).length = j := by rw [List.length_take]; have := (List.getElem?_eq_some_iff.1 hx).1; omega
  obtain ⟨v', V6, hrun2, ho4, hg4, hv4⟩ := appS_big hown V4.heap.size 1 x E' m' k' (fun q u hu => by rw [hnew.cell q]; exact hu) ho ((a4.below hBV (Nat.le_refl _)).wide (by omega)) (fun b o e => ⟨fun e2 => by have := (hob b e2).2; have := (a2 b o none e).1; omega, by have := (a2 b o none e).2; omega, by have := (a2 b o none e).1; omega⟩) (by omega) (by have := b5.size; omega)
  rw [← take_one hx] at ho4
  obtain ⟨A4, c4, hsl, _⟩ := ho4.slice
  have hl4 : (ss.take (j + 1)).length = j + 1 := by rw [take_one hx, List.length_append, hlen]; rfl
  rw [hl4] at hsl
  subst hsl
  exact ⟨V1, V2, E', m', k', V3, V4, V5, A4, c4, V6, hV1, p0, p1, hV2, q0, q1, hrun, r1, hV4, s1, hV5, hrun2, ho4, (h.bel.trans (b5.mono hwz)).grown hg4 (by have := b5.size; omega) (fun q e => (hob q e).1)⟩
/-- while a list of secrets is written over -/
def SpJ (W wr : World) (v : Value) (n : Nat) : Prop := W.grownBy wr v.ownBlock ∧ (0 < n → ∃ g c cs, v = .slice (some ⟨g, 0, none⟩) n c ∧ Blk wr g 26 cs ∧ n * 4 ≤ cs.length)
theorem OwnS.spoil {w : World} {base : Nat} {v : Value} {ss : List Sec} (h : OwnS w base v ss) : SpJ w w v ss.length := by
  refine ⟨World.grownBy.refl _ _, fun h0 => ?_⟩
  obtain ⟨cs, h1, h2⟩ := h
  rcases h1.2 with ⟨e, h3⟩ | ⟨g, cap, cur, e, hb, hg, hc, hm, hcs, ht⟩
  · omega
  · have h9 : cur.toList.length = cap * 4 := by simpa using hcs
    have h10 : ss.length * 4 ≤ cur.toList.length := by omega
    exact ⟨g, cap, cur.toList, e, hg, h10⟩
theorem SpJ.step {W wr : World} {v : Value} {n g c k : Nat} {cs : List Value} (h : W.grownBy wr v.ownBlock) (hv : v = .slice (some ⟨g, 0, none⟩) n c) (hb : Blk wr g 26 cs) (hl : n * 4 ≤ cs.length) (u : Value) : SpJ W (wr.setCell ⟨g, k, none⟩ u) v n := by
  subst hv
  refine ⟨?_, fun _ => ⟨g, c, _, rfl, hb.set_ k u, by simpa using hl⟩⟩
  exact gtrans h (gset _ _ _ _)
end Go.Proofs.Ytglboagjmbjehaa
