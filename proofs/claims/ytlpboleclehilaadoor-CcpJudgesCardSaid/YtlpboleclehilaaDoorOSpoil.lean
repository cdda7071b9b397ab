/-
  tetherref09.Spoil, of a list of the call's own.
-/
import Derived.Test.YtlpboleclehilaaDoorSpoil
namespace Go.Proofs.YtlpboleclehilaaDoor
open Go.RowKit
set_option maxRecDepth 100000
set_option maxHeartbeats 2000000
set_option linter.unusedSimpArgs false
set_option linter.unusedVariables false

theorem own_spoiled {V V1 : World} {base b2 : Nat} {v u : Value} {l l' : List UInt8} (hv : Own V b2 v l) (hu : Own V base u l') (hs : V.grownBy V1 v.ownBlock) (hsh : ∀ g L, v.ownBlock = some g → Blk V g 5 L → ∃ M, Blk V1 g 5 M ∧ U8 L M) :
    ∃ l'', l''.length = l'.length ∧ Own V1 base u l'' := by
  rcases hx : u.ownBlock with _ | q
  · exact ⟨l', rfl, hu.grown hs (.inl hx)⟩
  · by_cases he : v.ownBlock = some q
    · rcases hu.2 with ⟨rfl, _⟩ | ⟨g, cap, cur, rfl, hb, hg, hr⟩
      · simp [Value.ownBlock] at hx
      · have : g = q := by simpa [Value.ownBlock] using hx
        subst this
        have hL : Blk V g 5 cur.toList := by unfold Blk; simpa using hg
        obtain ⟨M, hM, hu8⟩ := hsh g _ he hL
        exact own_shape hu hL hM hu8
    · exact ⟨l', rfl, hu.grown hs (.inr (fun e => he (by rw [← e]; exact hx)))⟩
/-- a list whose options hold bytes of the call's own, whatever they are -/
def OwnS (w : World) (base : Nat) (v : Value) (n : Nat) : Prop :=
  ∃ cs, OwnO w base v n cs ∧ ∀ i, i < n → (∃ K, cs[i * 2]? = some (.int .i64 K)) ∧ ∃ E k c l, cs[i * 2 + 1]? = some (.slice E k c) ∧ Own w base (.slice E k c) l ∧ l.length ≤ 140737488351240
theorem OwnL.owns {w : World} {base : Nat} {v : Value} {s : List Opt} (h : OwnL w base v s) (hm : ∀ o ∈ s, o.2.length ≤ 140737488351240) : OwnS w base v s.length := by
  obtain ⟨cs, h1, h2⟩ := h
  refine ⟨cs, h1, fun i hi => ?_⟩
  obtain ⟨a, E, k, c, b, ho⟩ := h2 i hi
  exact ⟨⟨_, a⟩, E, k, c, _, b, ho, hm _ (List.getElem_mem hi)⟩
theorem ospoil_any (v : Value) (n base : Nat) (w : World) (h : OwnS w base v n) (hb : base ≤ w.heap.size) (hn : n ≤ 4398046511104) :
    Calls Tryd.prog 10 #[v] w fun e w' => e = .returned (.tuple #[]) ∧ Below base w w' := by
  have h0 := h
  obtain ⟨cs0, ho0, -⟩ := h0
  obtain ⟨A, cp, rfl⟩ : ∃ A c, v = .slice A n c := ho0.shape
  have H := Lib.hid h
  clear h ho0
  go_enter Tryd.func10, Tryd.ntmps10
  go_wp2
  go_loopw [2] (fun i wr => ∃ (V : World) (k : Nat), V = wr ∧ k ≤ n ∧ i = .int .i64 k ∧ Hid (OwnS V base (.slice A n cp) n ∧ Below base w V)) (fun i _ => n - (intOf i).toNat)
  case atStart => exact ⟨_, 0, rfl, Nat.zero_le _, rfl, H.out, Below.refl _ _⟩
  case round =>
    obtain ⟨V, k, rfl, hk, rfl, hJ⟩ := hrel
    obtain ⟨⟨cs, ho, hc⟩, hB⟩ := hJ.out
    have hbV : base ≤ V.heap.size := Nat.le_trans hb hB.size
    by_cases hlt : k < n
    · obtain ⟨⟨K, a⟩, E, kk, cc, l, b, hd, hdl⟩ := hc k hlt
      obtain ⟨g, rfl⟩ : ∃ g, A = some ⟨g, 0, none⟩ := by
        rcases ho.2 with ⟨e, e0⟩ | ⟨g, cap, cur, e, _⟩
        · omega
        · injection e with e1 e2 e3
          exact ⟨g, e1⟩
      have x1 : V.cell? ⟨g, k * 2 + 1, none⟩ = some (.slice E kk cc) := (World.ownsRow.cellAt ho (k * 2 + 1) (by omega)).trans b
      have SP : Hid (Calls Tryd.prog 35 #[.slice E kk cc] V fun e V1 => e = .returned (.tuple #[]) ∧ (V1.cell? ⟨g, k * 2, none⟩ = some (.int .i64 K) ∧ V1.frozen? ⟨g, k * 2, none⟩ = false) ∧ OwnS (V1.setCell ⟨g, k * 2, none⟩ (.int .i64 999)) base (.slice (some ⟨g, 0, none⟩) n cp) n ∧ Below base w (V1.setCell ⟨g, k * 2, none⟩ (.int .i64 999))) := by
        refine (spoil_any _ base l V hd hbV hdl).mono ?_
        rintro e V1 ⟨rfl, hG, hS⟩
        have hne : (Value.slice (some ⟨g, 0, none⟩) n cp).ownBlock = none ∨ (Value.slice (some ⟨g, 0, none⟩) n cp).ownBlock ≠ (Value.slice E kk cc).ownBlock := by
          rcases own_other ho hd with h | h
          · exact .inr (by rw [h]; simp [Value.ownBlock])
          · exact .inr (fun e => h e.symm)
        have ho1 : OwnO V1 base (.slice (some ⟨g, 0, none⟩) n cp) n cs := World.ownsRow.kept ho hG hne
        have hB1 : Below base w V1 := hB.grown hG hbV (fun q hq => (hd.block q hq).1)
        have y0 : V1.cell? ⟨g, k * 2, none⟩ = some (.int .i64 K) := (World.ownsRow.cellAt ho1 (k * 2) (by omega)).trans a
        have y1 := World.ownsRow.frozenAt ho1 (k * 2)
        have hgb : base ≤ g := (World.ownsRow.lt ho1 g rfl).1
        have ho2 : OwnO (V1.setCell ⟨g, k * 2, none⟩ (.int .i64 999)) base (.slice (some ⟨g, 0, none⟩) n cp) n (cs.set (k * 2) (.int .i64 999)) := (World.ownsRow.stored ho1 (k * 2) _).1
        refine ⟨rfl, ⟨y0, y1⟩, ⟨_, ho2, fun i hi => ?_⟩, hB1.setCell hgb _⟩
        obtain ⟨⟨K', a'⟩, E', k', c', l', b', hd', hdl'⟩ := hc i hi
        obtain ⟨l'', e1, e2⟩ := own_spoiled hd hd' hG hS
        have hcl : cs.length = n * 2 := ho1.1
        refine ⟨?_, E', k', c', l'', ?_, ?_, by omega⟩
        · by_cases hik : i = k
          · subst hik
            exact ⟨999, by rw [List.getElem?_set_self (by omega)]⟩
          · exact ⟨K', by rw [List.getElem?_set_ne (by omega)]; exact a'⟩
        · rw [List.getElem?_set_ne (by omega)]; exact b'
        · refine e2.grown (only_set (p := ⟨g, k * 2, none⟩) _) ?_
          rcases own_other ho1 e2 with h | h
          · exact .inl h
          · exact .inr h
      clear ho hc hB hJ hd a b
      go_wp2_with (go_at_call 35; ((with_reducible refine SP.out.mono ?_); rintro e V1 ⟨rfl, ⟨y0, y1⟩, hN⟩; have HN := Lib.hid hN; clear hN))
      go_roundw
      case rel => exact ⟨_, k + 1, rfl, by omega, by go_num, HN.out⟩
      case measure => simp [intOf]; omega
    · have HB := Lib.hid hB
      clear ho hc hB hJ
      go_wp2
      go_end0
      exact ⟨rfl, HB.out⟩
end Go.Proofs.YtlpboleclehilaaDoor
