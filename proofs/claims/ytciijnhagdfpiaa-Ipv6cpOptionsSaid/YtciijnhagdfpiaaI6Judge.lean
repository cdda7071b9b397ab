/-
  ipv6cp.Judge: what is answered to a request.
-/
import Derived.Test.YtciijnhagdfpiaaI6Those
import Derived.Test.YtciijnhagdfpiaaI6Opt
import Derived.Test.YtciijnhagdfpiaaI6Conf
import Derived.Shelf.Abstract
namespace Go.Proofs.Ytciijnhagdfpiaa
open Go.RowKit
set_option maxRecDepth 100000
set_option maxHeartbeats 4000000
set_option linter.unusedSimpArgs false
set_option linter.unusedVariables false

/-- has the identifier's type been met among the first k? -/
def mR (s : List Opt) (k : Nat) : Bool := (s.take k).any fun o => o.1 == 1
def rfQ (mine : Int) (s : List Opt) (i : Nat) : Bool := rfB mine (mR s i) (s.getD i (0, []))
def tkQ (mine : Int) (s : List Opt) (i : Nat) : Bool := tkB mine (s.getD i (0, []))
def rfL (mine : Int) (s : List Opt) : List Opt := pick (rfQ mine s) s s.length
def tkL (mine : Int) (s : List Opt) : List Opt := pick (tkQ mine s) s s.length
def jd6 (mf mine : Int) (s : List Opt) (naks draw : Int) : Int × List Opt :=
  if rfL mine s ≠ [] then (4, rfL mine s) else if (tkL mine s ≠ [] ∧ naks < mf) ∨ (s = [] ∧ naks = 0) then (3, [(1, putB (giv draw mine).toNat 8)]) else if tkL mine s ≠ [] then (4, tkL mine s) else (2, s)
theorem mR_step (s : List Opt) (k : Nat) (h : k < s.length) : mR s (k + 1) = (mR s k || s[k].1 == 1) := by
  unfold mR
  rw [List.take_succ_eq_append_getElem h, List.any_append]
  simp
theorem getD_at {s : List Opt} {i : Nat} (h : i < s.length) : s.getD i (0, []) = s[i] := by
  rw [List.getD_eq_getElem?_getD, List.getElem?_eq_getElem h]
  rfl
theorem pick_nil {q : Nat → Bool} {s : List Opt} : ∀ {k : Nat}, pick q s k = [] → ∀ i, i < k → q i = false
  | 0, _, i, hi => absurd hi (Nat.not_lt_zero _)
  | k + 1, h, i, hi => by
    rw [pick] at h
    obtain ⟨h1, h2⟩ := List.append_eq_nil_iff.1 h
    rcases Nat.lt_succ_iff_lt_or_eq.1 hi with h3 | rfl
    · exact pick_nil h1 i h3
    · by_cases hq : q i = true
      · rw [if_pos hq] at h2; cases h2
      · exact Bool.eq_false_iff.2 hq
theorem pick_all {q : Nat → Bool} {s : List Opt} : ∀ {k : Nat}, (∀ i, i < k → q i = false) → pick q s k = []
  | 0, _ => rfl
  | k + 1, h => by rw [pick, pick_all (fun i hi => h i (by omega)), h k (by omega)]; rfl
/-- what is not refused has an identifier -/
theorem not_refused {mine : Int} {met : Bool} {o : Opt} (h : rfB mine met o = false) : met = false ∧ rgt o = true := by
  unfold rfB at h
  cases met <;> cases hr : rgt o <;> simp [hr] at h ⊢
theorem so_refused (z B : Nat) (mine : Int) (s : List Opt) (hBz : B ≤ z) : SoC 38 z B mine s (rfQ mine s) (mR s) := by
  intro i hi W E kk cc hB hz hr hc
  obtain ⟨x, hx⟩ : ∃ x, s[i]'hi = x := ⟨_, rfl⟩
  have hq : rfQ mine s i = rfB mine (mR s i) x := by unfold rfQ; rw [getD_at hi, hx]
  have hm := mR_step s i hi
  rw [hx] at hr hm ⊢
  obtain ⟨K, l⟩ := x
  rw [hq, hm]
  exact refused6_any z mine (mR s i) K E kk cc B l W hz hr hB hBz hc
theorem so_taken (z B : Nat) (mine : Int) (s : List Opt) (b : Bool) (hs : ∀ (i : Nat) (h : i < s.length), rgt s[i] = true) : SoC 39 z B mine s (tkQ mine s) (fun _ => b) := by
  intro i hi W E kk cc hB hz hr hc
  obtain ⟨x, hx⟩ : ∃ x, s[i]'hi = x := ⟨_, rfl⟩
  have hq : tkQ mine s i = tkB mine x := by unfold tkQ; rw [getD_at hi, hx]
  have hg := hs i hi
  rw [hx] at hr hg ⊢
  obtain ⟨K, l⟩ := x
  obtain ⟨_, h8⟩ := right_yes hg
  have hl := hr.1
  obtain rfl : kk = 8 := by have : l.length = kk := hl; omega
  rw [hq]
  refine (taken6_any z mine b K E cc B l W hz hr hB hc).mono ?_
  rintro e W' ⟨rfl, hb⟩
  exact ⟨rfl, (hb.block _ (Blk.lt hz)).trans hz, only_of_below hb _⟩
/-- both functions, one behind the other -/
def J6C (w : World) (cv : Array Value) (mf mine : Int) (s : List Opt) (draw : Int) (A : Option Addr) (n c : Nat) (W2 : World) : Prop :=
  Calls Try.prog 37 #[.slice A n c, .func (.func 38) #[.pointer (some ⟨w.heap.size + 1, 0, none⟩)] #[]] W2 fun e w3 => ∃ F d, e = .returned (.slice F (rfL mine s).length d) ∧ Hid (OwnL w3 w.heap.size (.slice F (rfL mine s).length d) (rfL mine s) ∧ Below w.heap.size w w3) ∧
    (rfL mine s = [] → Hid (Calls Try.prog 37 #[.slice A n c, .func (.func 39) #[.pointer (some ⟨w.heap.size + 1, 0, none⟩)] #[]] w3 fun e w4 => ∃ F d, e = .returned (.slice F (tkL mine s).length d) ∧ Hid (OwnL w4 w.heap.size (.slice F (tkL mine s).length d) (tkL mine s) ∧ Below w.heap.size w w4) ∧ w4.cell? ⟨w.heap.size, 21, none⟩ = some (.int .i64 mf) ∧
      Hid (Calls Try.prog 24 #[.int .u64 draw, .int .u64 mine] w4 fun e w5 => e = .returned (.int .u64 (giv draw mine)) ∧ w5 = w4) ∧
      Hid (Calls Try.prog 7 #[.int .u64 (giv draw mine)] w4 fun e w5 => ∃ g, e = .returned (.slice (some ⟨g, 0, none⟩) 1 1) ∧ Hid (OwnL w5 w.heap.size (.slice (some ⟨g, 0, none⟩) 1 1) [(1, putB (giv draw mine).toNat 8)] ∧ Below w.heap.size w w5)) ∧
      Hid (Calls Try.prog 40 #[.slice A n c, .slice none 0 0] w4 fun e w5 => ∃ F d, e = .returned (.slice F n d) ∧ Hid (OwnL w5 w.heap.size (.slice F n d) s ∧ Below w.heap.size w w5))))
theorem j6_chain (w : World) (cv : Array Value) (id mf mine : Int) (s : List Opt) (draw : Int) (A : Option Addr) (n c B : Nat) (hc : ConfI cv id mf) (hd : In64 draw) (hr : OptRd w B A n s) (hB : B ≤ w.heap.size) (hn : n ≤ 4398046511103) :
    J6C w cv mf mine s draw A n c ((w.alloc (.cells cv 26)).alloc (.cells #[.int .u64 mine, .bool false] 58)) := by
  obtain ⟨W1, hW1⟩ : ∃ W1, w.alloc (.cells cv 26) = W1 := ⟨_, rfl⟩
  have k1 : Blk W1 w.heap.size 26 cv.toList := by rw [← hW1]; exact blk_new w _ _
  have B1 : Below w.heap.size w W1 := by rw [← hW1]; exact (Below.refl _ _).alloc (Nat.le_refl _) _
  have s1 : W1.heap.size = w.heap.size + 1 := by rw [← hW1]; simp
  rw [hW1]
  obtain ⟨W2, hW2⟩ : ∃ W2, W1.alloc (.cells #[.int .u64 mine, .bool false] 58) = W2 := ⟨_, rfl⟩
  have k2 : Blk W2 W1.heap.size 58 (lookC mine (mR s 0)) := by rw [← hW2]; exact blk_new W1 _ _
  have B2 : Below W1.heap.size W1 W2 := by rw [← hW2]; exact (Below.refl _ _).alloc (Nat.le_refl _) _
  rw [hW2]
  rw [s1] at k2
  have k1' := (B2.block _ (by omega)).trans k1
  have B02 := B1.trans (B2.mono (by omega))
  have s2 := B02.size
  have hz2 := Blk.lt k2
  have hl := hr.1
  subst hl
  unfold J6C
  refine (those_any 38 (w.heap.size + 1) B mine s (rfQ mine s) (mR s) A s.length c W2 (fun X K' E' k' c' => enters_of Try.func38 (by kernel_rfl) rfl _ X) (so_refused _ B mine s (by omega)) (hr.below B02 hB) (by omega) k2 (by omega) hn).mono ?_
  rintro e w3 ⟨F, d, rfl, ho, hz, hg⟩
  have B3 : Below w.heap.size w w3 := B02.grown hg s2 (fun q e => by injection e; omega)
  have s3 := hg.size
  refine ⟨F, d, rfl, Lib.hid ⟨ho.base_le (by omega), B3⟩, fun hnil => Lib.hid ?_⟩
  have hright : ∀ (i : Nat) (h : i < s.length), rgt s[i] = true := fun i h => by
    have := pick_nil hnil i h
    unfold rfQ at this
    rw [getD_at h] at this
    exact (not_refused this).2
  refine (those_any 39 (w.heap.size + 1) B mine s (tkQ mine s) (fun _ => mR s s.length) A s.length c w3 (fun X K' E' k' c' => enters_of Try.func39 (by kernel_rfl) rfl _ X) (so_taken _ B mine s _ hright) (hr.below B3 hB) (by omega) hz (by omega) hn).mono ?_
  rintro e w4 ⟨F4, d4, rfl, ho4, hz4, hg4⟩
  have B4 : Below w.heap.size w w4 := B3.grown hg4 (by omega) (fun q e => by injection e; omega)
  have s4 := hg4.size
  have k3 := (hg.block _ (Blk.lt k1') (fun e => by injection e; omega)).trans k1'
  have k4 := (hg4.block _ (Blk.lt k3) (fun e => by injection e; omega)).trans k3
  have c21 : w4.cell? ⟨w.heap.size, 21, none⟩ = some (.int .i64 mf) := by rw [Blk.cell k4 21, Array.getElem?_toList]; exact hc.2.2
  have hgi := giv_in mine hd
  refine ⟨F4, d4, rfl, Lib.hid ⟨ho4.base_le (by omega), B4⟩, c21, Lib.hid (given_any draw mine w4 hd), Lib.hid ((options6_any (giv draw mine) w4 hgi.1 hgi.2).mono ?_), Lib.hid ((without_any A _ c B s none 0 0 [] w4 (hr.below B4 hB) (by omega) hn RdI.nil (by omega)).mono ?_)⟩
  · rintro e w5 ⟨g, rfl, h5, b5⟩
    exact ⟨g, rfl, Lib.hid ⟨h5.base_le B4.size, B4.trans (b5.mono B4.size)⟩⟩
  · rintro e w5 ⟨v, rfl, h5, b5⟩
    rw [show woo [] s = s by unfold woo; simp] at h5
    obtain ⟨F5, d5, rfl⟩ := h5.shape
    exact ⟨F5, d5, rfl, Lib.hid ⟨h5.base_le B4.size, B4.trans (b5.mono B4.size)⟩⟩
theorem judge6_any (cv : Array Value) (id mf mine : Int) (A : Option Addr) (n c B : Nat) (s : List Opt) (naks draw : Int) (w : World) (hc : ConfI cv id mf) (hd : In64 draw) (hr : OptRd w B A n s) (hB : B ≤ w.heap.size) (hn : n ≤ 4398046511103) :
    Calls Try.prog 17 #[.agg cv, .int .u64 mine, .slice A n c, .int .i64 naks, .int .u64 draw] w fun e w' => ∃ F m d k L, e = .returned (.tuple #[.int .i64 k, .slice F m d]) ∧ (k, L) = jd6 mf mine s naks draw ∧ m = L.length ∧ OwnL w' w.heap.size (.slice F m d) L ∧ Below w.heap.size w w' := by
  have hlen := hr.1
  have CH := Lib.hid (j6_chain w cv id mf mine s draw A n c B hc hd hr hB hn)
  unfold J6C at CH
  obtain ⟨m, hm⟩ : ∃ m, (rfL mine s).length = m := ⟨_, rfl⟩
  obtain ⟨t, ht⟩ : ∃ t, (tkL mine s).length = t := ⟨_, rfl⟩
  rw [hm, ht] at CH
  have hnil : rfL mine s = [] ↔ m = 0 := by rw [← hm]; exact List.length_eq_zero_iff.symm
  have htnil : tkL mine s = [] ↔ t = 0 := by rw [← ht]; exact List.length_eq_zero_iff.symm
  have hsnil : s = [] ↔ n = 0 := by rw [← hlen]; exact List.length_eq_zero_iff.symm
  have HM := Lib.hid hm
  have HT := Lib.hid ht
  have HL := Lib.hid hlen
  clear hr hm ht hlen hc
  by_cases hm0 : m = 0
  · subst hm0
    have hn0 := hnil.2 rfl
    simp only [hn0, true_implies] at CH
    by_cases ht0 : t = 0
    · subst ht0
      have ht1 := htnil.2 rfl
      by_cases hnn : n = 0
      · subst hnn
        have hs := hsnil.2 rfl
        subst hs
        by_cases hk : naks = 0
        · have HJ : Hid (jd6 mf mine [] naks draw = (3, [(1, putB (giv draw mine).toNat 8)])) := by
            show _ = _
            unfold jd6
            rw [if_neg (by simp [hn0]), if_pos (.inr ⟨rfl, hk⟩)]
          have e0 : (naks == 0) = true := by simpa using hk
          clear hnil htnil hsnil hn0 ht1 hk
          go_enter Try.func17, Try.ntmps17
          go_wp2_with (first
            | (go_at_call 37; (with_reducible refine CH.out.mono ?_); rintro e w3 ⟨F, d, rfl, -, C2⟩)
            | (go_at_call 37; (with_reducible refine C2.out.mono ?_); rintro e w4 ⟨F4, d4, rfl, -, c21, CG, CO, CW⟩)
            | (go_at_call 24; (with_reducible refine CG.out.mono ?_); rintro e w5 ⟨rfl, rfl⟩)
            | (go_at_call 7; (with_reducible refine CO.out.mono ?_); rintro e w6 ⟨g, rfl, HO⟩))
          exact bodyPost_ret (v := .tuple #[.int .i64 3, .slice (some ⟨g, 0, none⟩) 1 1]) (by simp [results, Try.results17, go_sem]) rfl ⟨_, _, _, _, _, rfl, HJ.out.symm, rfl, HO.out⟩
        · have HJ : Hid (jd6 mf mine [] naks draw = (2, [])) := by
            show _ = _
            unfold jd6
            rw [if_neg (by simp [hn0]), if_neg (by simp [ht1, hk]), if_neg (by simp [ht1])]
          have e0 : (naks == 0) = false := by simpa using hk
          clear hnil htnil hsnil hn0 ht1 hk
          go_enter Try.func17, Try.ntmps17
          go_wp2_with (first
            | (go_at_call 37; (with_reducible refine CH.out.mono ?_); rintro e w3 ⟨F, d, rfl, -, C2⟩)
            | (go_at_call 37; (with_reducible refine C2.out.mono ?_); rintro e w4 ⟨F4, d4, rfl, HO4, c21, CG, CO, CW⟩)
            | (go_at_call 24; (with_reducible refine CG.out.mono ?_); rintro e w5 ⟨rfl, rfl⟩)
            | (go_at_call 7; (with_reducible refine CO.out.mono ?_); rintro e w6 ⟨g, rfl, HO⟩)
            | (go_at_call 40; (with_reducible refine CW.out.mono ?_); rintro e w6 ⟨F6, d6, rfl, HO⟩))
          exact bodyPost_ret (v := .tuple #[.int .i64 2, .slice F6 0 d6]) (by simp [results, Try.results17, go_sem]) rfl ⟨_, _, _, _, _, rfl, HJ.out.symm, rfl, HO.out⟩
      · have hs : s ≠ [] := fun h => hnn (hsnil.1 h)
        have HJ : Hid (jd6 mf mine s naks draw = (2, s)) := by
          show _ = _
          unfold jd6
          rw [if_neg (by simp [hn0]), if_neg (by simp [ht1, hs]), if_neg (by simp [ht1])]
        have e0 : (((n : Nat) : Int) == 0) = false := by simp; omega
        clear hnil htnil hsnil hn0 ht1 hs
        go_enter Try.func17, Try.ntmps17
        go_wp2_with (first
          | (go_at_call 37; (with_reducible refine CH.out.mono ?_); rintro e w3 ⟨F, d, rfl, -, C2⟩)
          | (go_at_call 37; (with_reducible refine C2.out.mono ?_); rintro e w4 ⟨F4, d4, rfl, HO4, c21, CG, CO, CW⟩)
          | (go_at_call 24; (with_reducible refine CG.out.mono ?_); rintro e w5 ⟨rfl, rfl⟩)
          | (go_at_call 7; (with_reducible refine CO.out.mono ?_); rintro e w6 ⟨g, rfl, HO⟩)
          | (go_at_call 40; (with_reducible refine CW.out.mono ?_); rintro e w6 ⟨F6, d6, rfl, HO⟩))
        exact bodyPost_ret (v := .tuple #[.int .i64 2, .slice F6 n d6]) (by simp [results, Try.results17, go_sem]) rfl ⟨_, _, _, _, _, rfl, HJ.out.symm, HL.out.symm, HO.out⟩
    · have ht1 : tkL mine s ≠ [] := fun h => ht0 (htnil.1 h)
      have hp : 0 < t := by omega
      have hnp : 0 < n := by
        have h1 := pick_len (tkQ mine s) s s.length
        have h2 : (tkL mine s).length = t := HT.out
        have h3 : s.length = n := HL.out
        unfold tkL at h2
        omega
      have hs : s ≠ [] := fun h => by have := hsnil.1 h; omega
      have e0 : (((n : Nat) : Int) == 0) = false := by simp; omega
      by_cases hk : naks < mf
      · have HJ : Hid (jd6 mf mine s naks draw = (3, [(1, putB (giv draw mine).toNat 8)])) := by
          show _ = _
          unfold jd6
          rw [if_neg (by simp [hn0]), if_pos (.inl ⟨ht1, hk⟩)]
        clear hnil htnil hsnil hn0 ht1 hs ht0
        go_enter Try.func17, Try.ntmps17
        go_wp2_with (first
          | (go_at_call 37; (with_reducible refine CH.out.mono ?_); rintro e w3 ⟨F, d, rfl, -, C2⟩)
          | (go_at_call 37; (with_reducible refine C2.out.mono ?_); rintro e w4 ⟨F4, d4, rfl, HO4, c21, CG, CO, CW⟩)
          | (go_at_call 24; (with_reducible refine CG.out.mono ?_); rintro e w5 ⟨rfl, rfl⟩)
          | (go_at_call 7; (with_reducible refine CO.out.mono ?_); rintro e w6 ⟨g, rfl, HO⟩)
          | (go_at_call 40; (with_reducible refine CW.out.mono ?_); rintro e w6 ⟨F6, d6, rfl, HO⟩))
        exact bodyPost_ret (v := .tuple #[.int .i64 3, .slice (some ⟨g, 0, none⟩) 1 1]) (by simp [results, Try.results17, go_sem]) rfl ⟨_, _, _, _, _, rfl, HJ.out.symm, rfl, HO.out⟩
      · have HJ : Hid (jd6 mf mine s naks draw = (4, tkL mine s)) := by
          show _ = _
          unfold jd6
          rw [if_neg (by simp [hn0]), if_neg (by simp [hk, hs]), if_pos ht1]
        clear hnil htnil hsnil hn0 ht1 hs ht0
        go_enter Try.func17, Try.ntmps17
        go_wp2_with (first
          | (go_at_call 37; (with_reducible refine CH.out.mono ?_); rintro e w3 ⟨F, d, rfl, -, C2⟩)
          | (go_at_call 37; (with_reducible refine C2.out.mono ?_); rintro e w4 ⟨F4, d4, rfl, HO4, c21, CG, CO, CW⟩)
          | (go_at_call 24; (with_reducible refine CG.out.mono ?_); rintro e w5 ⟨rfl, rfl⟩)
          | (go_at_call 7; (with_reducible refine CO.out.mono ?_); rintro e w6 ⟨g, rfl, HO⟩)
          | (go_at_call 40; (with_reducible refine CW.out.mono ?_); rintro e w6 ⟨F6, d6, rfl, HO⟩))
        exact bodyPost_ret (v := .tuple #[.int .i64 4, .slice F4 t d4]) (by simp [results, Try.results17, go_sem]) rfl ⟨_, _, _, _, _, rfl, HJ.out.symm, HT.out.symm, HO4.out⟩
  · have HJ : Hid (jd6 mf mine s naks draw = (4, rfL mine s)) := by
      show _ = _
      unfold jd6
      rw [if_pos (fun h => hm0 (hnil.1 h))]
    have hp : 0 < m := by omega
    clear hnil htnil hsnil hm0
    go_enter Try.func17, Try.ntmps17
    go_wp2_with (first
      | (go_at_call 37; (with_reducible refine CH.out.mono ?_); rintro e w3 ⟨F, d, rfl, HO, C2⟩))
    exact bodyPost_ret (v := .tuple #[.int .i64 4, .slice F m d]) (by simp [results, Try.results17, go_sem]) rfl ⟨_, _, _, _, _, rfl, HJ.out.symm, HM.out.symm, HO.out⟩
end Go.Proofs.Ytciijnhagdfpiaa
