/-
  tetherref09.Spoil, of a list whose blocks all lie below T: what lies from T on is kept too; what the reference's Judge answered still reads.
  What Judge answers fits its request.
  CcpJudges: the law's calls.
  CcpJudges: the walk of the law.
-/
import Derived.Test.YtlpboleclehilaaDoorOSpoil
import Derived.Test.YtlpboleclehilaaDoorCcRJudge
import Derived.Test.YtlpboleclehilaaDoorCcMath
import Derived.Test.YtlpboleclehilaaDoorOpFitD
import Derived.Test.YtlpboleclehilaaDoorOpRFits
import Derived.Test.YtlpboleclehilaaDoorOLent
import Derived.Test.YtlpboleclehilaaDoorOpLArg
import Derived.Test.YtlpboleclehilaaDoorCcNak
import Derived.Test.YtlpboleclehilaaDoorCcRej
import Derived.Test.YtlpboleclehilaaDoorCcAwake
import Derived.Deep.RegionHeld3
namespace Go.Proofs.YtlpboleclehilaaDoor
open Go.RowKit
set_option maxRecDepth 100000
set_option maxHeartbeats 2000000
set_option linter.unusedSimpArgs false
set_option linter.unusedVariables false

def Keeps (T : Nat) (w w' : World) : Prop := ∀ i, T ≤ i → i < w.heap.size → w'.heap[i]? = w.heap[i]?
theorem Keeps.refl (T : Nat) (w : World) : Keeps T w w := fun _ _ _ => rfl
theorem Keeps.grown {T : Nat} {w V V1 : World} {row : Option Nat} (h : Keeps T w V) (hs : w.heap.size ≤ V.heap.size) (hg : V.grownBy V1 row) (hr : ∀ g, row = some g → g < T) : Keeps T w V1 := fun i h1 h2 =>
  (hg.block i (by omega) (fun e => by have := hr i e.symm; omega)).trans (h i h1 h2)
theorem Keeps.of_below {T : Nat} {w V : World} (h : Below w.heap.size w V) : Keeps T w V := fun i _ h2 => h.block i h2
/-- a list of the call's own, whose blocks lie below T -/
def OwnT (w : World) (base T : Nat) (v : Value) (n : Nat) : Prop :=
  ∃ cs, OwnO w base v n cs ∧ (∀ g, v.ownBlock = some g → g < T) ∧ ∀ i, i < n → (∃ K, cs[i * 2]? = some (.int .i64 K)) ∧ ∃ E k c l, cs[i * 2 + 1]? = some (.slice E k c) ∧ Own w base (.slice E k c) l ∧ l.length ≤ 140737488351240 ∧ ∀ g, (Value.slice E k c).ownBlock = some g → g < T
theorem OwnL.ownt {w w' : World} {base : Nat} {v : Value} {s : List Opt} (h : OwnL w base v s) (hb : Below w.heap.size w w') (hm : ∀ o ∈ s, o.2.length ≤ 140737488351240) : OwnT w' base w.heap.size v s.length := by
  obtain ⟨cs, h1, h2⟩ := h
  refine ⟨cs, h1.grown (only_of_below hb none) ne_none, fun g e => (h1.block g e).2, fun i hi => ?_⟩
  obtain ⟨a, E, k, c, b, ho⟩ := h2 i hi
  exact ⟨⟨_, a⟩, E, k, c, _, b, ho.later hb, hm _ (List.getElem_mem hi), fun g e => (ho.block g e).2⟩
theorem ospoil2 (v : Value) (n base T : Nat) (w : World) (h : OwnT w base T v n) (hb : base ≤ w.heap.size) (hn : n ≤ 4398046511104) :
    Calls Tryd.prog 10 #[v] w fun e w' => e = .returned (.tuple #[]) ∧ Below base w w' ∧ Keeps T w w' := by
  have h0 := h
  obtain ⟨cs0, ho0, hT0, -⟩ := h0
  obtain ⟨A, cp, rfl⟩ : ∃ A c, v = .slice A n c := ho0.shape
  have HT0 := Lib.hid hT0
  have H := Lib.hid h
  clear h ho0 hT0
  go_enter Tryd.func10, Tryd.ntmps10
  go_wp2
  go_loopw [2] (fun i wr => ∃ (V : World) (k : Nat), V = wr ∧ k ≤ n ∧ i = .int .i64 k ∧ Hid (OwnT V base T (.slice A n cp) n ∧ Below base w V ∧ Keeps T w V)) (fun i _ => n - (intOf i).toNat)
  case atStart => exact ⟨_, 0, rfl, Nat.zero_le _, rfl, H.out, Below.refl _ _, Keeps.refl _ _⟩
  case round =>
    obtain ⟨V, k, rfl, hk, rfl, hJ⟩ := hrel
    obtain ⟨⟨cs, ho, hTr, hc⟩, hB, hKp⟩ := hJ.out
    have hbV : base ≤ V.heap.size := Nat.le_trans hb hB.size
    by_cases hlt : k < n
    · obtain ⟨⟨K, a⟩, E, kk, cc, l, b, hd, hdl, hdT⟩ := hc k hlt
      obtain ⟨g, rfl⟩ : ∃ g, A = some ⟨g, 0, none⟩ := by
        rcases ho.2 with ⟨e, e0⟩ | ⟨g, cap, cur, e, _⟩
        · omega
        · injection e with e1 e2 e3
          exact ⟨g, e1⟩
      have x1 : V.cell? ⟨g, k * 2 + 1, none⟩ = some (.slice E kk cc) := (World.ownsRow.cellAt ho (k * 2 + 1) (by omega)).trans b
      have SP : Hid (Calls Tryd.prog 35 #[.slice E kk cc] V fun e V1 => e = .returned (.tuple #[]) ∧ (V1.cell? ⟨g, k * 2, none⟩ = some (.int .i64 K) ∧ V1.frozen? ⟨g, k * 2, none⟩ = false) ∧ OwnT (V1.setCell ⟨g, k * 2, none⟩ (.int .i64 999)) base T (.slice (some ⟨g, 0, none⟩) n cp) n ∧ Below base w (V1.setCell ⟨g, k * 2, none⟩ (.int .i64 999)) ∧ Keeps T w (V1.setCell ⟨g, k * 2, none⟩ (.int .i64 999))) := by
        refine (spoil_any _ base l V hd hbV hdl).mono ?_
        rintro e V1 ⟨rfl, hG, hS⟩
        have hne : (Value.slice (some ⟨g, 0, none⟩) n cp).ownBlock = none ∨ (Value.slice (some ⟨g, 0, none⟩) n cp).ownBlock ≠ (Value.slice E kk cc).ownBlock := by
          rcases own_other ho hd with h | h
          · exact .inr (by rw [h]; simp [Value.ownBlock])
          · exact .inr (fun e => h e.symm)
        have ho1 : OwnO V1 base (.slice (some ⟨g, 0, none⟩) n cp) n cs := World.ownsRow.kept ho hG hne
        have hB1 : Below base w V1 := hB.grown hG hbV (fun q hq => (hd.block q hq).1)
        have hK1 : Keeps T w V1 := hKp.grown hB.size hG hdT
        have y0 : V1.cell? ⟨g, k * 2, none⟩ = some (.int .i64 K) := (World.ownsRow.cellAt ho1 (k * 2) (by omega)).trans a
        have y1 := World.ownsRow.frozenAt ho1 (k * 2)
        have hgb : base ≤ g := (World.ownsRow.lt ho1 g rfl).1
        have ho2 : OwnO (V1.setCell ⟨g, k * 2, none⟩ (.int .i64 999)) base (.slice (some ⟨g, 0, none⟩) n cp) n (cs.set (k * 2) (.int .i64 999)) := (World.ownsRow.stored ho1 (k * 2) _).1
        have hK2 : Keeps T w (V1.setCell ⟨g, k * 2, none⟩ (.int .i64 999)) := hK1.grown (Nat.le_trans hB.size hG.size) (only_set (p := ⟨g, k * 2, none⟩) _) (fun q e => by injection e with e; subst e; exact hTr g rfl)
        refine ⟨rfl, ⟨y0, y1⟩, ⟨_, ho2, hTr, fun i hi => ?_⟩, hB1.setCell hgb _, hK2⟩
        obtain ⟨⟨K', a'⟩, E', k', c', l', b', hd', hdl', hdT'⟩ := hc i hi
        obtain ⟨l'', e1, e2⟩ := own_spoiled hd hd' hG hS
        have hcl : cs.length = n * 2 := ho1.1
        refine ⟨?_, E', k', c', l'', ?_, ?_, by omega, hdT'⟩
        · by_cases hik : i = k
          · subst hik
            exact ⟨999, by rw [List.getElem?_set_self (by omega)]⟩
          · exact ⟨K', by rw [List.getElem?_set_ne (by omega)]; exact a'⟩
        · rw [List.getElem?_set_ne (by omega)]; exact b'
        · refine e2.grown (only_set (p := ⟨g, k * 2, none⟩) _) ?_
          rcases own_other ho1 e2 with h | h
          · exact .inl h
          · exact .inr h
      clear ho hc hB hJ hd a b hKp hTr hdT
      go_wp2_with (go_at_call 35; ((with_reducible refine SP.out.mono ?_); rintro e V1 ⟨rfl, ⟨y0, y1⟩, hN⟩; have HN := Lib.hid hN; clear hN))
      go_roundw
      case rel => exact ⟨_, k + 1, rfl, by omega, by go_num, HN.out⟩
      case measure => simp [intOf]; omega
    · have HB := Lib.hid (And.intro hB hKp)
      clear ho hc hB hJ hKp hTr
      go_wp2
      go_end0
      exact ⟨rfl, HB.out⟩
theorem OwnO.keeps {w w' : World} {T n : Nat} {v : Value} {cs : List Value} (h : OwnO w T v n cs) (hk : Keeps T w w') : OwnO w' T v n cs := by
  refine ⟨h.1, ?_⟩
  rcases h.2 with h | ⟨g, cap, cur, e, hb, hg, r⟩
  · exact .inl h
  · exact .inr ⟨g, cap, cur, e, hb, (hk g hb (Array.getElem?_eq_some_iff.1 hg).1).trans hg, r⟩
theorem Own.keeps {w w' : World} {T : Nat} {v : Value} {l : List UInt8} (h : Own w T v l) (hk : Keeps T w w') : Own w' T v l := by
  refine ⟨h.1, ?_⟩
  rcases h.2 with h | ⟨g, cap, cur, e, hb, hg, r⟩
  · exact .inl h
  · exact .inr ⟨g, cap, cur, e, hb, (hk g hb (Array.getElem?_eq_some_iff.1 hg).1).trans hg, r⟩
theorem YR.keeps {w w' : World} {T Bb : Nat} {v : Value} {L : List Opt} (h : YR w T Bb v L) (hb : Below Bb w w') (hk : Keeps T w w') : YR w' T Bb v L := by
  rcases h with ⟨cs, h1, h2⟩ | ⟨cs, h1, h2⟩ | ⟨A, c, e, h⟩
  · refine .inl ⟨cs, h1.keeps hk, fun i hi => ?_⟩
    obtain ⟨a, E, k, c, b, hr, h3⟩ := h2 i hi
    exact ⟨a, E, k, c, b, hr.below hb, h3⟩
  · refine .inr (.inl ⟨cs, h1.keeps hk, fun i hi => ?_⟩)
    obtain ⟨a, E, k, c, b, ho⟩ := h2 i hi
    exact ⟨a, E, k, c, b, ho.keeps hk⟩
  · exact .inr (.inr ⟨A, c, e, h.below hb (Nat.le_refl _)⟩)
theorem YR.later {w w' : World} {T Bb : Nat} {v : Value} {L : List Opt} (h : YR w T Bb v L) (hB : Bb ≤ w.heap.size) (hb : Below w.heap.size w w') : YR w' T Bb v L := h.keeps (hb.mono hB) (Keeps.of_below hb)
theorem YR.rd {w : World} {T Bb : Nat} {A : Option Addr} {n c : Nat} {L : List Opt} (h : YR w T Bb (.slice A n c) L) (hB : Bb ≤ w.heap.size) (hm : ∀ o ∈ L, o.2.length ≤ 140737488351232) : n = L.length ∧ OptRd w w.heap.size A n L := by
  rcases h with h | h | ⟨A', c', e, h⟩
  · obtain ⟨A', c', e, hr, _⟩ := h.rd hB
    injection e with e1 e2 e3
    subst e1 e2
    exact ⟨rfl, hr⟩
  · obtain ⟨A', c', e, hr, _⟩ := h.rd hm
    injection e with e1 e2 e3
    subst e1 e2
    exact ⟨rfl, hr⟩
  · injection e with e1 e2 e3
    subst e1 e2
    exact ⟨rfl, h.wide hB⟩
end Go.Proofs.YtlpboleclehilaaDoor
namespace Go.Proofs.YtlpboleclehilaaDoor
open Go.RowKit
set_option maxRecDepth 100000
set_option maxHeartbeats 2000000
set_option linter.unusedSimpArgs false
set_option linter.unusedVariables false

theorem pickC_sub (q : Nat → Bool) (s : List Opt) : ∀ k, k ≤ s.length → (pickC q s k).Sublist (s.take k)
  | 0, _ => by simp [pickC]
  | k + 1, h => by
    rw [pickC_step q s k (by omega), List.take_succ_eq_append_getElem (by omega)]
    refine (pickC_sub q s k (by omega)).append ?_
    split
    · exact List.Sublist.refl _
    · exact List.nil_sublist _
theorem pickC_all (q : Nat → Bool) (s : List Opt) : (pickC q s s.length).Sublist s := by
  have := pickC_sub q s s.length (Nat.le_refl _)
  rwa [List.take_length] at this
theorem met_not {K : Int} {s : List Opt} {k : Nat} (h : metK K s k = false) (hk : k ≤ s.length) : ∀ j (hj : j < k), (s[j]'(by omega)).1 ≠ K := by
  intro j hj e
  unfold metK at h
  rw [List.any_eq_false] at h
  refine h (s[j]'(by omega)) ?_ (by simpa using e)
  exact List.mem_take_iff_getElem.2 ⟨j, by omega, rfl⟩
/-- what is picked stands in the order of the places, where each is the first of its kind -/
theorem pick_place (q : Nat → Bool) (s : List Opt) (hq : ∀ i (h : i < s.length), q i = true → plc s s[i].1 = i) : ∀ k, k ≤ s.length → (pickC q s k).Pairwise (fun a b => plc s a.1 ≤ plc s b.1) ∧ ∀ o ∈ pickC q s k, plc s o.1 < k
  | 0, _ => by simp [pickC]
  | k + 1, h => by
    obtain ⟨h1, h2⟩ := pick_place q s hq k (by omega)
    rw [pickC_step q s k (by omega)]
    split
    · rename_i hqk
      have e := hq k (by omega) hqk
      refine ⟨List.pairwise_append.2 ⟨h1, List.pairwise_singleton _ _, fun a ha b hb => ?_⟩, fun o ho => ?_⟩
      · simp at hb
        subst hb
        rw [e]
        exact Nat.le_of_lt (h2 a ha)
      · rcases List.mem_append.1 ho with ho | ho
        · have := h2 o ho; omega
        · simp at ho
          subst ho
          omega
    · rw [List.append_nil]
      exact ⟨h1, fun o ho => by have := h2 o ho; omega⟩
theorem st_place (D B : Int) (s : List Opt) (i : Nat) (h : i < s.length) (hq : stC D B s i = true) : plc s s[i].1 = i := by
  have hm : metK s[i].1 s i = false := by
    have e : s.getD i (0, []) = s[i] := by rw [List.getD_eq_getElem?_getD, List.getElem?_eq_getElem h]; rfl
    unfold stC rfC at hq
    rw [e] at hq
    rcases hx : metK s[i].1 s i with _ | _
    · rfl
    · dsimp only at hq
      rw [hx] at hq
      simp at hq
  exact plc_at s _ i h rfl (fun j hj => met_not hm (Nat.le_of_lt h) j hj)
theorem st_srt (D B : Int) (s : List Opt) : Srt s ((stCL D B s).map (turnO D B)) := by
  have hp := (pick_place (stC D B s) s (fun i h hq => st_place D B s i h hq) s.length (Nat.le_refl _)).1
  intro j hj
  have hj' : j + 1 < (stCL D B s).length := by simpa using hj
  have := List.pairwise_iff_getElem.1 hp j (j + 1) (by show j < (stCL D B s).length; omega) hj' (by omega)
  simp only [List.getElem_map]
  exact this
theorem jdC_fits {mf D B naks : Int} {s L : List Opt} {k : Int} {R : Bool} (h : (k, L) = jdC mf D B s naks) (hR : R = true ↔ Srt s L) : fitB k s L R = true ∧ fitE k = 0 := by
  unfold jdC at h
  split at h
  · rename_i h1
    injection h with hk hL
    subst hk hL
    unfold fitB fitE
    simp [eat_all _ _ (pickC_all (rfC D B s) s), rfCL, List.length_pos_iff.2 h1]
    exact decide_eq_true (List.length_pos_iff.2 h1)
  · split at h
    · rename_i h1
      injection h with hk hL
      subst hk hL
      have : R = true := hR.2 (st_srt D B s)
      unfold fitB fitE
      simp [this, List.length_pos_iff.2 h1.1]
    · split at h
      · rename_i h1
        injection h with hk hL
        subst hk hL
        unfold fitB fitE
        simp [eat_all _ _ (pickC_all (stC D B s) s), stCL, List.length_pos_iff.2 h1]
        exact decide_eq_true (List.length_pos_iff.2 h1)
      · injection h with hk hL
        subst hk hL
        unfold fitB fitE
        simp
theorem jdC_bytes {mf D B naks : Int} {s L : List Opt} {k : Int} (h : (k, L) = jdC mf D B s naks) (hs : ∀ o ∈ s, o.2.length ≤ 140737488351232) : (∀ o ∈ L, o.2.length ≤ 140737488351232) ∧ L.length ≤ s.length := by
  have sub : ∀ q, (∀ o ∈ pickC q s s.length, o.2.length ≤ 140737488351232) ∧ (pickC q s s.length).length ≤ s.length := fun q =>
    ⟨fun o ho => hs o ((pickC_all q s).mem ho), (pickC_all q s).length_le⟩
  unfold jdC at h
  split at h
  · injection h with _ hL; subst hL; exact sub _
  · split at h
    · injection h with _ hL; subst hL
      refine ⟨fun o ho => ?_, by rw [List.length_map]; exact (sub _).2⟩
      obtain ⟨x, _, rfl⟩ := List.mem_map.1 ho
      show (dat _ _).length ≤ _
      rw [dat_len]
      unfold szK
      split <;> omega
    · split at h
      · injection h with _ hL; subst hL; exact sub _
      · injection h with _ hL; subst hL; exact ⟨hs, Nat.le_refl _⟩
end Go.Proofs.YtlpboleclehilaaDoor
namespace Go.Proofs.YtlpboleclehilaaDoor
open Go.RowKit
set_option maxRecDepth 100000
set_option maxHeartbeats 4000000
set_option linter.unusedSimpArgs false
set_option linter.unusedVariables false

/-- where things lie when all has been asked -/
structure JP where
  D : Int
  B : Int
  X : Int
  Y : Int
  X2 : Int
  Y2 : Int
  pb : Nat
  qb : Nat
  sb : Nat
  F : Option Addr
  s : List Opt
  T : Nat
  yv : Value
  L : List Opt
def JS (w W : World) (x : JP) : Prop :=
  (Blk W (w.heap.size + 1) 27 [.int .i64 x.D, .int .i64 x.B] ∧ Blk W x.pb 27 [.int .i64 x.X, .int .i64 x.Y] ∧ Blk W x.qb 36 [.int .i64 x.X, .int .i64 x.Y] ∧ Blk W x.sb 27 [.int .i64 x.X2, .int .i64 x.Y2]) ∧
  OptRd W W.heap.size x.F x.s.length x.s ∧ YR W x.T w.heap.size x.yv x.L ∧ Below w.heap.size w W
def JF (w W : World) (x : JP) : Prop :=
  (W.cell? ⟨w.heap.size + 1, 0, none⟩ = some (.int .i64 x.D) ∧ W.cell? ⟨w.heap.size + 1, 1, none⟩ = some (.int .i64 x.B)) ∧ (W.cell? ⟨x.pb, 0, none⟩ = some (.int .i64 x.X) ∧ W.cell? ⟨x.pb, 1, none⟩ = some (.int .i64 x.Y)) ∧
  (W.cell? ⟨x.qb, 0, none⟩ = some (.int .i64 x.X) ∧ W.cell? ⟨x.qb, 1, none⟩ = some (.int .i64 x.Y)) ∧ (W.cell? ⟨x.sb, 0, none⟩ = some (.int .i64 x.X2) ∧ W.cell? ⟨x.sb, 1, none⟩ = some (.int .i64 x.Y2))
theorem JS.facts {w W : World} {x : JP} (h : JS w W x) : JF w W x := by
  obtain ⟨⟨a, b, c, d⟩, -⟩ := h
  exact ⟨⟨a.cell 0, a.cell 1⟩, ⟨b.cell 0, b.cell 1⟩, ⟨c.cell 0, c.cell 1⟩, d.cell 0, d.cell 1⟩
theorem JS.later {w W V : World} {x : JP} (h : JS w W x) (hb : Below W.heap.size W V) : JS w V x := by
  obtain ⟨⟨a, b, c, d⟩, hr, hy, hB⟩ := h
  exact ⟨⟨(hb.block _ (Blk.lt a)).trans a, (hb.block _ (Blk.lt b)).trans b, (hb.block _ (Blk.lt c)).trans c, (hb.block _ (Blk.lt d)).trans d⟩, (hr.below hb (Nat.le_refl _)).wide hb.size, hy.later hB.size hb, hB.trans (hb.mono hB.size)⟩
theorem JS.drewN {w W : World} {x : JP} (h : JS w W x) (n : Nat) : JS w (W.drewN n) x := h.later (below_drewN (Below.refl _ _) n)
/-- the last calls, each in whatever world keeps all that -/
def JG (w : World) (x : JP) (A : Option Addr) (n c : Nat) (f : Nat) (k : Int) (Ya : Option Addr) (m y : Nat) : Prop :=
  (∀ D' B' W, JS w W x → Calls Tryd.prog 13 #[.agg #[.int .i64 D', .int .i64 B']] W fun e w' => e = .returned (.agg #[.int .i64 D', .int .i64 B']) ∧ JF w w' x ∧ Hid (JS w w' x)) ∧
  (∀ W, JS w W x → Calls Tryd.prog 15 #[.agg #[.int .i64 x.D, .int .i64 x.B], .slice A n c] W fun e w' => e = .returned (.agg #[.int .i64 x.X2, .int .i64 x.Y2]) ∧ JF w w' x ∧ Hid (JS w w' x)) ∧
  (∀ W, JS w W x → Calls Tryd.prog 9 #[.slice x.F n f, .slice A n c] W fun e w' => e = .returned (.bool true) ∧ JF w w' x ∧ Hid (JS w w' x)) ∧
  (∀ W, JS w W x → Calls Tryd.prog 16 #[.int .i64 k, .slice A n c, .slice Ya m y] W fun e w' => e = .returned (.tuple #[.bool true, .int .i64 0]) ∧ Hid (JS w w' x)) ∧
  (∀ W, JS w W x → Calls Tryd.prog 17 #[] W fun e w' => e = .returned (.bool true) ∧ Hid (Below w.heap.size w w'))
theorem jg_all {w : World} {x : JP} {A : Option Addr} {n c f : Nat} {k : Int} {Ya : Option Addr} {m y : Nat} {mf Dc Bc naks : Int} (hr : OptRd w w.heap.size A n x.s) (hn : n ≤ 4398046510976) (hT : TabM w)
    (hX2 : x.X2 = rjK 26 x.D x.s x.s.length) (hY2 : x.Y2 = rjK 21 x.B x.s x.s.length) (hj : (k, x.L) = jdC mf Dc Bc x.s naks) (hy : x.yv = .slice Ya m y) (hm : m = x.L.length) : JG w x A n c f k Ya m y := by
  have hl := hr.1
  have hby := jdC_bytes hj hr.bytes
  refine ⟨fun D' B' W h => ?_, fun W h => ?_, fun W h => ?_, fun W h => ?_, fun W h => ?_⟩
  · refine (cown22_any D' B' W).mono ?_
    rintro e w' ⟨rfl, b⟩
    exact ⟨rfl, (h.later b).facts, Lib.hid (h.later b)⟩
  · have hB := h.2.2.2
    rw [hX2, hY2]
    refine (rreject22_any x.D x.B A n c w.heap.size x.s W (hr.below hB (Nat.le_refl _)) hB.size (by omega)).mono ?_
    rintro e w' ⟨rfl, b⟩
    exact ⟨rfl, (h.later b).facts, Lib.hid (h.later b)⟩
  · have hB := h.2.2.2
    have hF := h.2.1
    rw [hl] at hF
    refine (rsame_any x.F A n n f c W.heap.size x.s x.s W hF ((hr.below hB (Nat.le_refl _)).wide hB.size) (Nat.le_refl _) (by omega) (by omega)).mono ?_
    rintro e w' ⟨rfl, b⟩
    exact ⟨by simp, (h.later b).facts, Lib.hid (h.later b)⟩
  · have hB := h.2.2.2
    have hyr := h.2.2.1
    rw [hy] at hyr
    obtain ⟨-, hrd⟩ := hyr.rd hB.size hby.1
    obtain ⟨R, hR⟩ : ∃ R : Bool, R = true ↔ Srt x.s x.L := by
      by_cases h : Srt x.s x.L
      · exact ⟨true, ⟨fun _ => h, fun _ => rfl⟩⟩
      · exact ⟨false, ⟨fun e => (by cases e), fun e => absurd e h⟩⟩
    have hfit := jdC_fits hj hR
    refine (rfits_any k A Ya n c m y W.heap.size x.s x.L R hR W ((hr.below hB (Nat.le_refl _)).wide hB.size) hrd (Nat.le_refl _) (by omega) (by omega)).mono ?_
    rintro e w' ⟨rfl, b⟩
    rw [hfit.1, hfit.2]
    exact ⟨rfl, Lib.hid (h.later b)⟩
  · have hB := h.2.2.2
    refine (awake_ccp W (hT.below hB hT.lt)).mono ?_
    rintro e w' ⟨rfl, b⟩
    exact ⟨rfl, Lib.hid (hB.trans (b.mono hB.size))⟩
/-- .. and those ahead of them -/
def JC3 (w W : World) (cv : Array Value) (x : JP) (A : Option Addr) (n c f : Nat) (bb : Bool) (k : Int) (Ya : Option Addr) (m y : Nat) : Prop :=
  Hid (RowC W w.heap.size cv) ∧ (W.cell? ⟨w.heap.size + 1, 0, none⟩ = some (.int .i64 x.D) ∧ W.cell? ⟨w.heap.size + 1, 1, none⟩ = some (.int .i64 x.B)) ∧
  Hid (Calls Tryd.prog 11 #[.agg cv, .agg #[.int .i64 x.D, .int .i64 x.B], .slice x.F n f] W fun e V7 => e = .returned (.tuple #[.agg #[.int .i64 x.X, .int .i64 x.Y], .bool bb]) ∧ ∃ V8, Hid (V7.alloc (.cells #[.int .i64 x.X, .int .i64 x.Y] 27) = V8) ∧ (V8.cell? ⟨w.heap.size + 1, 0, none⟩ = some (.int .i64 x.D) ∧ V8.cell? ⟨w.heap.size + 1, 1, none⟩ = some (.int .i64 x.B)) ∧
    Hid (Calls Tryd.prog 13 #[.agg #[.int .i64 x.D, .int .i64 x.B]] V8 fun e V9 => e = .returned (.agg #[.int .i64 x.D, .int .i64 x.B]) ∧
      Hid (Calls Tryd.prog 12 #[.agg #[.int .i64 x.D, .int .i64 x.B], .slice A n c] V9 fun e V10 => e = .returned (.tuple #[.agg #[.int .i64 x.X, .int .i64 x.Y], .bool bb]) ∧ ∃ V11, Hid (V10.alloc (.cells #[.int .i64 x.X, .int .i64 x.Y] 36) = V11) ∧ Hid (RowC V11 w.heap.size cv) ∧ (V11.cell? ⟨w.heap.size + 1, 0, none⟩ = some (.int .i64 x.D) ∧ V11.cell? ⟨w.heap.size + 1, 1, none⟩ = some (.int .i64 x.B)) ∧
        Hid (Calls Tryd.prog 14 #[.agg cv, .agg #[.int .i64 x.D, .int .i64 x.B], .slice x.F n f] V11 fun e V12 => e = .returned (.tuple #[.agg #[.int .i64 x.X2, .int .i64 x.Y2], .bool true]) ∧ ∃ V13, Hid (V12.alloc (.cells #[.int .i64 x.X2, .int .i64 x.Y2] 27) = V13) ∧
          (V13.cell? ⟨w.heap.size + 1, 0, none⟩ = some (.int .i64 x.D) ∧ V13.cell? ⟨w.heap.size + 1, 1, none⟩ = some (.int .i64 x.B)) ∧ (V13.cell? ⟨V7.heap.size, 0, none⟩ = some (.int .i64 x.X) ∧ V13.cell? ⟨V7.heap.size, 1, none⟩ = some (.int .i64 x.Y)) ∧ (V13.cell? ⟨V10.heap.size, 0, none⟩ = some (.int .i64 x.X) ∧ V13.cell? ⟨V10.heap.size, 1, none⟩ = some (.int .i64 x.Y)) ∧ (V13.cell? ⟨V12.heap.size, 0, none⟩ = some (.int .i64 x.X2) ∧ V13.cell? ⟨V12.heap.size, 1, none⟩ = some (.int .i64 x.Y2)) ∧
            Hid (JS w V13 { x with pb := V7.heap.size, qb := V10.heap.size, sb := V12.heap.size } ∧ JG w { x with pb := V7.heap.size, qb := V10.heap.size, sb := V12.heap.size } A n c f k Ya m y)))))
theorem RowC.on {W V : World} {z : Nat} {cv : Array Value} (h : RowC W z cv) (hb : Below W.heap.size W V) : RowC V z cv := by
  unfold RowC at h ⊢
  rw [hb.block z (Array.getElem?_eq_some_iff.1 h).1]
  exact h
theorem jc3 {w W : World} {cv : Array Value} {x : JP} {A : Option Addr} {n c f : Nat} {k : Int} {Ya : Option Addr} {m y : Nat} {mf Dc Bc naks : Int} (hr : OptRd w w.heap.size A n x.s) (hn : n ≤ 4398046510976) (hT : TabM w)
    (hX : x.X = nkC (lstK 26 x.s x.s.length) x.D) (hY : x.Y = nkC (lstK 21 x.s x.s.length) x.B) (hX2 : x.X2 = rjK 26 x.D x.s x.s.length) (hY2 : x.Y2 = rjK 21 x.B x.s x.s.length) (hj : (k, x.L) = jdC mf Dc Bc x.s naks) (hy : x.yv = .slice Ya m y) (hm : m = x.L.length)
    (hrow : RowC W w.heap.size cv) (hO : Blk W (w.heap.size + 1) 27 [.int .i64 x.D, .int .i64 x.B]) (hF : OptRd W W.heap.size x.F n x.s) (hyr : YR W x.T w.heap.size x.yv x.L) (hB : Below w.heap.size w W) :
    JC3 w W cv x A n c f (!(x.X == x.D) || !(x.Y == x.B)) k Ya m y := by
  have hl := hr.1
  unfold JC3
  refine ⟨Lib.hid hrow, ⟨hO.cell 0, hO.cell 1⟩, Lib.hid ?_⟩
  have h7 := nak_ccp cv x.D x.B x.F n f W.heap.size x.s W hF (Nat.le_refl _) (by omega)
  rw [← hX, ← hY] at h7
  refine h7.mono ?_
  rintro e V7 ⟨rfl, b7⟩
  obtain ⟨V8, hV8⟩ : ∃ V8, V7.alloc (.cells #[.int .i64 x.X, .int .i64 x.Y] 27) = V8 := ⟨_, rfl⟩
  have b8 : Below V7.heap.size V7 V8 := by rw [← hV8]; exact (Below.refl _ _).alloc (Nat.le_refl _) _
  have p8 : Blk V8 V7.heap.size 27 [.int .i64 x.X, .int .i64 x.Y] := by rw [← hV8]; exact blk_new V7 _ _
  have t7 := b7.size
  have t8 := b8.size
  have c8 := b7.trans (b8.mono t7)
  have o8 : Blk V8 (w.heap.size + 1) 27 [.int .i64 x.D, .int .i64 x.B] := (c8.block _ (Blk.lt hO)).trans hO
  have B8 := hB.trans (c8.mono hB.size)
  refine ⟨rfl, V8, Lib.hid hV8, ⟨o8.cell 0, o8.cell 1⟩, Lib.hid ?_⟩
  refine (cown22_any x.D x.B V8).mono ?_
  rintro e V9 ⟨rfl, b9⟩
  have t9 := b9.size
  refine ⟨rfl, Lib.hid ?_⟩
  have B9 := B8.trans (b9.mono B8.size)
  have h10 := rnak_any x.D x.B A n c w.heap.size x.s V9 (hr.below B9 (Nat.le_refl _)) B9.size (by omega)
  rw [← hX, ← hY] at h10
  refine h10.mono ?_
  rintro e V10 ⟨rfl, b10⟩
  obtain ⟨V11, hV11⟩ : ∃ V11, V10.alloc (.cells #[.int .i64 x.X, .int .i64 x.Y] 36) = V11 := ⟨_, rfl⟩
  have b11 : Below V10.heap.size V10 V11 := by rw [← hV11]; exact (Below.refl _ _).alloc (Nat.le_refl _) _
  have q11 : Blk V11 V10.heap.size 36 [.int .i64 x.X, .int .i64 x.Y] := by rw [← hV11]; exact blk_new V10 _ _
  have t10 := b10.size
  have t11 := b11.size
  have c11 : Below V8.heap.size V8 V11 := b9.trans ((b10.mono t9).trans (b11.mono (by omega)))
  have p11 : Blk V11 V7.heap.size 27 [.int .i64 x.X, .int .i64 x.Y] := (c11.block _ (Blk.lt p8)).trans p8
  have o11 : Blk V11 (w.heap.size + 1) 27 [.int .i64 x.D, .int .i64 x.B] := (c11.block _ (Blk.lt o8)).trans o8
  have d11 : Below W.heap.size W V11 := c8.trans (c11.mono (by omega))
  have hF11 := (hF.below d11 (Nat.le_refl _)).wide d11.size
  refine ⟨rfl, V11, Lib.hid hV11, Lib.hid (hrow.on d11), ⟨o11.cell 0, o11.cell 1⟩, Lib.hid ?_⟩
  have h12 := reject_ccp cv x.D x.B x.F n f V11.heap.size x.s V11 hF11 (Nat.le_refl _) (by omega)
  rw [← hX2, ← hY2] at h12
  refine h12.mono ?_
  rintro e V12 ⟨rfl, b12⟩
  obtain ⟨V13, hV13⟩ : ∃ V13, V12.alloc (.cells #[.int .i64 x.X2, .int .i64 x.Y2] 27) = V13 := ⟨_, rfl⟩
  have b13 : Below V12.heap.size V12 V13 := by rw [← hV13]; exact (Below.refl _ _).alloc (Nat.le_refl _) _
  have s13 : Blk V13 V12.heap.size 27 [.int .i64 x.X2, .int .i64 x.Y2] := by rw [← hV13]; exact blk_new V12 _ _
  have t12 := b12.size
  have c13 : Below V11.heap.size V11 V13 := b12.trans (b13.mono t12)
  have p13 : Blk V13 V7.heap.size 27 [.int .i64 x.X, .int .i64 x.Y] := (c13.block _ (Blk.lt p11)).trans p11
  have o13 : Blk V13 (w.heap.size + 1) 27 [.int .i64 x.D, .int .i64 x.B] := (c13.block _ (Blk.lt o11)).trans o11
  have q13 : Blk V13 V10.heap.size 36 [.int .i64 x.X, .int .i64 x.Y] := (c13.block _ (Blk.lt q11)).trans q11
  have d13 : Below W.heap.size W V13 := d11.trans (c13.mono d11.size)
  have hF13 := (hF.below d13 (Nat.le_refl _)).wide d13.size
  rw [← hl] at hF13
  have B13 := hB.trans (d13.mono hB.size)
  refine ⟨rfl, V13, Lib.hid hV13, ⟨o13.cell 0, o13.cell 1⟩, ⟨p13.cell 0, p13.cell 1⟩, ⟨q13.cell 0, q13.cell 1⟩, ⟨s13.cell 0, s13.cell 1⟩, Lib.hid ⟨?_, ?_⟩⟩
  · exact ⟨⟨o13, p13, q13, s13⟩, hF13, hyr.later hB.size d13, B13⟩
  · exact jg_all (x := { x with pb := V7.heap.size, qb := V10.heap.size, sb := V12.heap.size }) hr hn hT hX2 hY2 hj hy hm
def JC1 (w W2 : World) (cv : Array Value) (D B X Y X2 Y2 : Int) (s L : List Opt) (naks : Int) (A : Option Addr) (n c : Nat) (bb : Bool) (k : Int) (m : Nat) : Prop :=
  Calls Tryd.prog 6 #[.slice A n c] W2 fun e V1 => ∃ F f, e = .returned (.slice F n f) ∧ Hid (RowC V1 w.heap.size cv) ∧
    Hid (Calls Tryd.prog 7 #[.agg cv, .slice F n f, .int .i64 naks] V1 fun e V2 => ∃ Xa x, e = .returned (.tuple #[.int .i64 k, .slice Xa m x]) ∧ Hid (RowC V2 w.heap.size cv) ∧
      Hid (Calls Tryd.prog 8 #[.agg cv, .slice A n c, .int .i64 naks] V2 fun e V3 => ∃ Ya y, e = .returned (.tuple #[.int .i64 k, .slice Ya m y]) ∧
        Hid (Calls Tryd.prog 9 #[.slice Xa m x, .slice Ya m y] V3 fun e V4 => e = .returned (.bool true) ∧
          Hid (Calls Tryd.prog 9 #[.slice F n f, .slice A n c] V4 fun e V5 => e = .returned (.bool true) ∧
            Hid (Calls Tryd.prog 10 #[.slice Xa m x] V5 fun e V6 => e = .returned (.tuple #[]) ∧ Hid (JC3 w V6 cv ⟨D, B, X, Y, X2, Y2, 0, 0, 0, F, s, V2.heap.size, .slice Ya m y, L⟩ A n c f bb k Ya m y))))))
theorem jc1 {w W2 : World} {cv : Array Value} {D B Dc Bc mf naks : Int} {s L : List Opt} {A : Option Addr} {n c : Nat} {k : Int} (hcf : ConfC cv Dc Bc mf) (hr : OptRd w w.heap.size A n s) (hnc : n ≤ c) (hn : n ≤ 4398046510976) (hT : TabM w) (hj : (k, L) = jdC mf Dc Bc s naks)
    (hrow : RowC W2 w.heap.size cv) (hO : Blk W2 (w.heap.size + 1) 27 [.int .i64 D, .int .i64 B]) (hB : Below w.heap.size w W2) :
    JC1 w W2 cv D B (nkC (lstK 26 s s.length) D) (nkC (lstK 21 s s.length) B) (rjK 26 D s s.length) (rjK 21 B s s.length) s L naks A n c (!(nkC (lstK 26 s s.length) D == D) || !(nkC (lstK 21 s s.length) B == B)) k L.length := by
  have hl := hr.1
  subst hl
  have hby := jdC_bytes hj hr.bytes
  have t0 := hB.size
  unfold JC1
  refine (olent_any A s.length c w.heap.size s W2 (hr.below hB (Nat.le_refl _)) t0 (by omega)).mono ?_
  rintro e V1 ⟨F, f, rfl, ho, b1⟩
  have t1 := b1.size
  have B1 := hB.trans (b1.mono t0)
  refine ⟨F, f, rfl, Lib.hid (hrow.on b1), Lib.hid ?_⟩
  obtain ⟨F', f', e1, hrd, _⟩ := ho.rd hr.bytes
  injection e1 with e1 _ e3
  subst e1 e3
  refine (judge_ccp cv Dc Bc mf F s.length f V1.heap.size s naks V1 hcf hrd (Nat.le_refl _) (by omega)).mono ?_
  rintro e V2 ⟨Xa, mm, x, k', L', rfl, hj', hm, ho2, b2⟩
  rw [← hj] at hj'
  injection hj' with e1 e2
  subst e1 e2 hm
  have t2 := b2.size
  have B2 := B1.trans (b2.mono (by omega))
  refine ⟨Xa, x, rfl, Lib.hid ((hrow.on b1).on b2), Lib.hid ?_⟩
  refine (rjudge_ccp cv Dc Bc mf A s.length c w.heap.size s naks V2 hcf (hr.below B2 (Nat.le_refl _)) B2.size hnc (by omega)).mono ?_
  rintro e V3 ⟨Ya, mm, y, k2, L2, rfl, hj2, hm2, hy3, b3⟩
  rw [← hj] at hj2
  injection hj2 with e1 e2
  subst e1 e2 hm2
  have t3 := b3.size
  have B3 := B2.trans (b3.mono (by omega))
  refine ⟨Ya, y, rfl, Lib.hid ?_⟩
  have ho3 := ho2.later b3
  obtain ⟨X', x', e1, hrx, _⟩ := ho3.rd hby.1
  injection e1 with e1 _ e3
  subst e1 e3
  obtain ⟨-, hry⟩ := hy3.rd B3.size hby.1
  refine (rsame_any Xa Ya L2.length L2.length x y V3.heap.size L2 L2 V3 hrx hry (Nat.le_refl _) (by omega) (by omega)).mono ?_
  rintro e V4 ⟨rfl, b4⟩
  have t4 := b4.size
  have B4 := B3.trans (b4.mono (by omega))
  refine ⟨by simp, Lib.hid ?_⟩
  have c14 : Below V1.heap.size V1 V4 := b2.trans ((b3.mono t2).trans (b4.mono (by omega)))
  refine (rsame_any F A s.length s.length f c V4.heap.size s s V4 ((hrd.below c14 (Nat.le_refl _)).wide c14.size) ((hr.below B4 (Nat.le_refl _)).wide B4.size) (Nat.le_refl _) (by omega) (by omega)).mono ?_
  rintro e V5 ⟨rfl, b5⟩
  have t5 := b5.size
  have B5 := B4.trans (b5.mono (by omega))
  refine ⟨by simp, Lib.hid ?_⟩
  have c25 : Below V2.heap.size V2 V5 := b3.trans ((b4.mono t3).trans (b5.mono (by omega)))
  have c15 : Below V1.heap.size V1 V5 := c14.trans (b5.mono (by omega))
  have hot := ho2.ownt c25 (fun o h => by have := hby.1 o h; omega)
  refine (ospoil2 _ L2.length V1.heap.size V2.heap.size V5 hot (by omega) (by omega)).mono ?_
  rintro e V6 ⟨rfl, b6, kp6⟩
  have t6 := b6.size
  refine ⟨rfl, Lib.hid ?_⟩
  have c16 : Below V1.heap.size V1 V6 := c15.trans b6
  have hO1 : Blk V1 (w.heap.size + 1) 27 [.int .i64 D, .int .i64 B] := (b1.block _ (Blk.lt hO)).trans hO
  have hO6 : Blk V6 (w.heap.size + 1) 27 [.int .i64 D, .int .i64 B] := (c16.block _ (Blk.lt hO1)).trans hO1
  have hy5 : YR V5 V2.heap.size w.heap.size (.slice Ya L2.length y) L2 := (hy3.later B3.size b4).later B4.size b5
  have hy6 := hy5.keeps (b6.mono B1.size) kp6
  have B6 : Below w.heap.size w V6 := B1.trans (c16.mono B1.size)
  exact jc3 (x := ⟨D, B, _, _, _, _, 0, 0, 0, F, s, V2.heap.size, .slice Ya L2.length y, L2⟩) (mf := mf) (Dc := Dc) (Bc := Bc) (naks := naks) hr hn hT rfl rfl rfl rfl hj rfl rfl ((hrow.on b1).on c16) hO6 ((hrd.below c16 (Nat.le_refl _)).wide c16.size) hy6 B6
end Go.Proofs.YtlpboleclehilaaDoor
namespace Go.Proofs.YtlpboleclehilaaDoor
open Go.RowKit
set_option maxRecDepth 100000
set_option maxHeartbeats 4000000
set_option linter.unusedSimpArgs false
set_option linter.unusedVariables false

theorem ccpjudges_walk (cv : Array Value) (Dc Bc mf D B : Int) (A : Option Addr) (n c : Nat) (s : List Opt) (naks : Int) (w : World) (hcf : ConfC cv Dc Bc mf) (hr : OptRd w w.heap.size A n s) (hnc : n ≤ c) (hn : n ≤ 4398046510976) (hT : TabM w) :
    Calls Tryd.prog 3 #[.agg cv, .agg #[.int .i64 D, .int .i64 B], .slice A n c, .int .i64 naks] w fun e w' => e = .returned (.bool true) ∧ Below w.heap.size w w' := by
  obtain ⟨W2, hW2⟩ : ∃ W2, (w.alloc (.cells cv 25)).alloc (.cells #[.int .i64 D, .int .i64 B] 27) = W2 := ⟨_, rfl⟩
  have B2 : Below w.heap.size w W2 := by rw [← hW2]; exact ((Below.refl _ _).alloc (Nat.le_refl _) _).alloc (by simp) _
  have k0 : Blk W2 w.heap.size 25 cv.toList := by
    rw [← hW2]
    exact (Below.heap_alloc _ _ _ (by simp)).trans (blk_new w _ cv.toList)
  have hrow : RowC W2 w.heap.size cv := by
    unfold Blk at k0
    unfold RowC
    simpa using k0
  have kO : Blk W2 (w.heap.size + 1) 27 [.int .i64 D, .int .i64 B] := by
    rw [← hW2]
    have h := blk_new (w.alloc (.cells cv 25)) 27 [.int .i64 D, .int .i64 B]
    rw [World.size_alloc] at h
    exact h
  obtain ⟨k, L, hj⟩ : ∃ k L, (k, L) = jdC mf Dc Bc s naks := ⟨_, _, rfl⟩
  have CH := jc1 hcf hr hnc hn hT hj hrow kO B2
  obtain ⟨X, hX⟩ : ∃ X, nkC (lstK 26 s s.length) D = X := ⟨_, rfl⟩
  obtain ⟨Y, hY⟩ : ∃ Y, nkC (lstK 21 s s.length) B = Y := ⟨_, rfl⟩
  obtain ⟨X2, hX2⟩ : ∃ X2, rjK 26 D s s.length = X2 := ⟨_, rfl⟩
  obtain ⟨Y2, hY2⟩ : ∃ Y2, rjK 21 B s s.length = Y2 := ⟨_, rfl⟩
  obtain ⟨m, hm⟩ : ∃ m, L.length = m := ⟨_, rfl⟩
  rw [hX, hY, hX2, hY2, hm] at CH
  obtain ⟨bb, hbb⟩ : ∃ bb, (!(X == D) || !(Y == B)) = bb := ⟨_, rfl⟩
  rw [hbb] at CH
  have hpp : ∀ b : Bool, (b != b) = false := fun b => by cases b <;> rfl
  unfold JC1 JC3 at CH
  have CH := Lib.hid CH
  have HW := Lib.hid hW2
  have IC : Hid ((Tryd.prog.info? 25).map (·.size) = some cv.size) := by show _ = _; rw [hcf.1]; exact infoC
  clear hW2 B2 k0 hrow kO hj hX hY hX2 hY2 hm hbb hcf hr hT
  go_enter Tryd.func3, Tryd.ntmps3
  go_upto_region 1 with (fail)
  rw [HW.out]
  clear HW
  go_upto_region 10 with (first
    | (go_at_call 6; (with_reducible refine CH.out.mono ?_); rintro e V1 ⟨F, f, rfl, R1, C1⟩)
    | ((with_reducible refine step_confR (.tmp 4) w.heap.size cv R1.out IC.out ?_ rfl rfl ?_); rotate_left; rfl)
    | (go_at_call 7; (with_reducible refine C1.out.mono ?_); rintro e V2 ⟨Xa, x, rfl, R2, C2⟩)
    | ((with_reducible refine step_confR (.tmp 4) w.heap.size cv R2.out IC.out ?_ rfl rfl ?_); rotate_left; rfl)
    | (go_at_call 8; (with_reducible refine C2.out.mono ?_); rintro e V3 ⟨Ya, y, rfl, C3⟩)
    | (go_at_call 9; (with_reducible refine C3.out.mono ?_); rintro e V4 ⟨rfl, C4⟩)
    | (go_at_call 9; (with_reducible refine C4.out.mono ?_); rintro e V5 ⟨rfl, C5⟩)
    | (go_at_call 10; (with_reducible refine C5.out.mono ?_); rintro e V6 ⟨rfl, C6⟩; obtain ⟨R6, ⟨a0, a1⟩, C7⟩ := C6.out; clear C6)
    | ((with_reducible refine step_confR (.tmp 4) w.heap.size cv R6.out IC.out ?_ rfl rfl ?_); rotate_left; rfl)
    | (go_at_call 11; (with_reducible refine C7.out.mono ?_); rintro e V7 ⟨rfl, V8, HV8, ⟨b0, b1⟩, C8⟩)
    | (rw [HV8.out])
    | (go_at_call 13; (with_reducible refine C8.out.mono ?_); rintro e V9 ⟨rfl, C9⟩)
    | (go_at_call 12; (with_reducible refine C9.out.mono ?_); rintro e V10 ⟨rfl, V11, HV11, R11, ⟨c0, c1⟩, C11⟩)
    | (rw [HV11.out])
    | ((with_reducible refine step_confR (.tmp 4) w.heap.size cv R11.out IC.out ?_ rfl rfl ?_); rotate_left; rfl)
    | (go_at_call 14; (with_reducible refine C11.out.mono ?_); rintro e V12 ⟨rfl, V13, HV13, ⟨d0, d1⟩, ⟨d2, d3⟩, ⟨d4, d5⟩, ⟨d6, d7⟩, C13⟩)
    | (rw [HV13.out]))
  have C14 := C13.out.2
  have HJ0 := Lib.hid (show JS w V13.drew _ from JS.drewN C13.out.1 1)
  unfold JG JF at C14
  dsimp only at C14
  obtain ⟨g1, g2, g3, g4, g5⟩ := C14
  have G1 := Lib.hid g1
  have G2 := Lib.hid g2
  have G3 := Lib.hid g3
  have G4 := Lib.hid g4
  have G5 := Lib.hid g5
  clear g1 g2 g3 g4 g5 a0 a1 b0 b1 c0 c1 C13 CH C1 C2 C3 C4 C5 C7 C8 C9 C11 HV8 HV11 HV13 R1 R2 R6 R11
  go_region_held3 (fun w' => w'.cell? ⟨w.heap.size + 1, 0, none⟩ = some (.int .i64 D) ∧ w'.cell? ⟨w.heap.size + 1, 1, none⟩ = some (.int .i64 B) ∧ w'.cell? ⟨V7.heap.size, 0, none⟩ = some (.int .i64 X) ∧ w'.cell? ⟨V7.heap.size, 1, none⟩ = some (.int .i64 Y) ∧ w'.cell? ⟨V10.heap.size, 0, none⟩ = some (.int .i64 X) ∧ w'.cell? ⟨V10.heap.size, 1, none⟩ = some (.int .i64 Y) ∧ w'.cell? ⟨V12.heap.size, 0, none⟩ = some (.int .i64 X2) ∧ w'.cell? ⟨V12.heap.size, 1, none⟩ = some (.int .i64 Y2)) (go_keep) (first
    | (go_at_call 13; (with_reducible refine (G1.out _ _ _ HG.out).mono ?_); rintro e v ⟨rfl, ⟨⟨e0, e1⟩, ⟨e2, e3⟩, ⟨e4, e5⟩, e6, e7⟩, HG⟩)
    | (go_at_call 13; (with_reducible refine (G1.out _ _ _ HJ0.out).mono ?_); rintro e v ⟨rfl, ⟨⟨e0, e1⟩, ⟨e2, e3⟩, ⟨e4, e5⟩, e6, e7⟩, HG⟩)
    | (go_at_call 15; (with_reducible refine (G2.out _ HG.out).mono ?_); rintro e v ⟨rfl, ⟨⟨f0, f1⟩, ⟨f2, f3⟩, ⟨f4, f5⟩, f6, f7⟩, HG⟩)
    | (go_at_call 9; (with_reducible refine (G3.out _ HG.out).mono ?_); rintro e v ⟨rfl, ⟨⟨h0, h1⟩, ⟨h2, h3⟩, ⟨h4, h5⟩, h6, h7⟩, HG⟩))
  all_goals
    go_wp2_with (first
      | (go_at_call 16; (with_reducible refine (G4.out _ HG.out).mono ?_); rintro e v ⟨rfl, HG⟩)
      | (go_at_call 17; (with_reducible refine (G5.out _ HG.out).mono ?_); rintro e v ⟨rfl, HE⟩))
    go_ret
    exact ⟨rfl, HE.out⟩
end Go.Proofs.YtlpboleclehilaaDoor
