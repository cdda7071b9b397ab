/-
  hdlc.Line: take.
-/
import Derived.Test.YtmdlpbgelgeiaaaDoorHdLine
namespace Go.Proofs.YtmdlpbgelgeiaaaDoor
open Go.RowKit
set_option maxRecDepth 100000
set_option maxHeartbeats 2000000
set_option linter.unusedSimpArgs false
set_option linter.unusedVariables false

def turnB (t : Bool) (c : UInt8) : UInt8 := if t = true then c ^^^ 32 else c
def addL (M : Nat) (l : List UInt8) (c : UInt8) : List UInt8 := if l.length ≤ M then l ++ [c] else l
def tkS (M : Nat) (s : LSt) (c : UInt8) : LSt :=
  if c = 125 ∧ s.turns = false then { s with opn := true, turns := true } else { s with opn := decide (c = 125), turns := false, held := addL M s.held (turnB s.turns c) }
theorem addL_le (M : Nat) (l : List UInt8) (c : UInt8) (h : l.length ≤ M + 1) : (addL M l c).length ≤ M + 1 := by
  unfold addL
  split
  · rw [List.length_append, List.length_singleton]; omega
  · exact h
/-- the byte is put behind what is held, if there is room -/
theorem held_app (b : Nat) (a : Int) (M : Nat) (p q : Bool) (hv : Value) (s : LSt) (W : World) (h : LnAt W b a M p q hv s) (hM : M ≤ 16390) (c : UInt8) (x : Int) (hx : x = (c.toNat : Int)) (hl : s.held.length ≤ M) :
    ∃ A n d w3, (Builtin.append_ #[22, 22] 22 #[hv, .slice (some ⟨W.heap.size, 0, none⟩) 1 1]).run Tryd.prog (W.alloc (.cells #[.int .u8 x] 5)) = .ok (.slice A n d) w3 ∧ LnAt (w3.setCell ⟨b, 259, none⟩ (.slice A n d)) b a M p q (.slice A n d) { s with held := s.held ++ [c] } ∧ Trn b hv (.slice A n d) W (w3.setCell ⟨b, 259, none⟩ (.slice A n d)) ∧ b < w3.heap.size ∧ (∃ v, w3.cell? ⟨b, 259, none⟩ = some v) ∧ w3.frozen? ⟨b, 259, none⟩ = false := by
  have hbl := Blk.lt h.blk
  obtain ⟨v, w3, r, o, g, bb⟩ := append_run (h.own.alloc (.cells #[.int .u8 x] 5)) 1 (rd_one W c x hx) (by simp) (by omega) (by simp; omega)
  obtain ⟨A, n, d, rfl⟩ : ∃ A n c, v = .slice A n c := by
    rcases o.form with ⟨e, _⟩ | ⟨g, cap, e, _⟩
    · exact ⟨_, _, _, e⟩
    · exact ⟨_, _, _, e⟩
  have hk : Blk w3 b 82 (lnC a M p q hv s) := by
    refine (g.block b (by simp; omega) (fun e => ?_)).trans ((Below.heap_alloc _ _ _ hbl).trans h.blk)
    have := (h.own.block b e.symm).1
    omega
  have h3 : LnAt (w3.setCell ⟨b, 259, none⟩ (.slice A n d)) b a M p q (.slice A n d) { s with held := s.held ++ [c] } := by
    have h1 := hk.set_ (256 + 3) (.slice A n d)
    rw [lnC_set] at h1
    refine ⟨h1, o.grown (only_set _) ?_, by simp only [List.length_append, List.length_singleton]; omega⟩
    rcases hg : (Value.slice A n d).ownBlock with _ | k
    · exact .inl rfl
    · exact .inr (fun e => by have := (o.block k hg).1; injection e with e; simp at e; omega)
  have sz := g.size
  simp at sz
  refine ⟨A, n, d, w3, r, h3, ?_, by omega, ⟨_, (hk.cell (256 + 3)).trans (lnC_get _ _ _ _ _ _ 3)⟩, hk.frozen 259⟩
  refine Trn.trans (h2 := .slice A n d) (B := w3) ?_ (Trn.set b _ w3 259 _)
  refine Trn.trans (h2 := hv) (Trn.below hv ((Below.refl _ _).alloc (Nat.le_refl _) (.cells #[.int .u8 x] 5))) (Trn.grown g ?_)
  rcases bb with e | e
  · exact .inl e
  · exact .inr ⟨_, e, Nat.le_refl _⟩

theorem take_any (b : Nat) (a : Int) (M : Nat) (p q : Bool) (hv : Value) (s : LSt) (W : World) (h : LnAt W b a M p q hv s) (hM : M ≤ 16390) (c : UInt8) :
    Calls Tryd.prog 52 #[.pointer (some ⟨b, 0, none⟩), .int .u8 (c.toNat : Int)] W fun e w' => ∃ hv', e = .returned (.tuple #[]) ∧ LnAt w' b a M p q hv' (tkS M s c) ∧ Trn b hv hv' W w' := by
  have c257 : W.cell? ⟨b, 256, none⟩ = some (.int .i64 M) := h.cell 0
  have c259 : W.cell? ⟨b, 259, none⟩ = some hv := h.cell 3
  have c260 : W.cell? ⟨b, 260, none⟩ = some (.bool s.turns) := h.cell 4
  have c261 : W.cell? ⟨b, 261, none⟩ = some (.bool s.opn) := h.cell 5
  have f259 := h.blk.frozen 259
  have f260 := h.blk.frozen 260
  have f261 := h.blk.frozen 261
  obtain ⟨z, hz⟩ : ∃ z : Int, z = (c.toNat : Int) := ⟨_, rfl⟩
  have z0 : 0 ≤ z := by omega
  have z1 : z ≤ 255 := by have := c.toNat_lt; omega
  have hx : bits .xor .u8 z 32 = ((c ^^^ 32).toNat : Int) := by rw [hz]; exact xor32 c
  have hq : (z == 125) = decide (c = 125) := by
    rw [hz, Bool.eq_iff_iff]
    simp
    constructor
    · intro e; exact UInt8.toNat_inj.1 (by show c.toNat = 125; omega)
    · intro e; rw [e]; rfl
  rw [← hz]
  obtain ⟨A, n, d, hvf, hnl⟩ : ∃ A n d, hv = .slice A n d ∧ n = s.held.length := by
    rcases h.own.form with ⟨e, e2⟩ | ⟨g, cap, e, _⟩
    · exact ⟨_, _, _, e, by rw [e2]; rfl⟩
    · exact ⟨_, _, _, e, rfl⟩
  have HH := Lib.hid h
  have HL := Lib.hid hnl
  by_cases hes : c = 125 ∧ s.turns = false
  · -- the escape itself
    have h1 : LnAt (W.setCell ⟨b, 261, none⟩ (.bool true)) b a M p q hv { s with opn := true } := h.put 5 _ rfl h.own h.len
    have h2 : LnAt ((W.setCell ⟨b, 261, none⟩ (.bool true)).setCell ⟨b, 260, none⟩ (.bool true)) b a M p q hv (tkS M s c) := by
      unfold tkS; rw [if_pos hes]; exact h1.put 4 _ rfl h1.own h1.len
    have H2 := Lib.hid h2
    have T2 : Hid (Trn b hv hv W ((W.setCell ⟨b, 261, none⟩ (.bool true)).setCell ⟨b, 260, none⟩ (.bool true))) := (Trn.set b hv W 261 _).trans (Trn.set b hv _ 260 _)
    rw [hes.2] at c260
    rw [hes.1] at hq
    have hq1 : (z == 125) = true := hq
    clear h1 h2 h hes hvf hnl hx hz hq
    go_enter Tryd.func52, Tryd.ntmps52
    go_wp2
    refine bodyPost_ret (results_none rfl _ _ _) rfl ?_
    exact ⟨_, rfl, H2.out, T2.out⟩
  · have hnx : tkS M s c = { s with opn := decide (c = 125), turns := false, held := addL M s.held (turnB s.turns c) } := by unfold tkS; rw [if_neg hes]
    rw [hnx]
    obtain ⟨o, ho⟩ : ∃ o, o = decide (c = 125) := ⟨_, rfl⟩
    have hes2 : o = true → s.turns = true := by
      intro e
      rw [ho] at e
      have e2 : c = 125 := by simpa using e
      rcases ht : s.turns with _ | _
      · exact absurd ⟨e2, ht⟩ hes
      · rfl
    rw [← ho] at hq ⊢
    obtain ⟨cc, hcc⟩ : ∃ cc, cc = turnB s.turns c := ⟨_, rfl⟩
    rw [← hcc]
    obtain ⟨W1, hW1⟩ : ∃ W1, W1 = (if s.turns = true then (W.setCell ⟨b, 261, none⟩ (.bool o)).setCell ⟨b, 260, none⟩ (.bool false) else W.setCell ⟨b, 261, none⟩ (.bool o)) := ⟨_, rfl⟩
    have hL1 : LnAt W1 b a M p q hv { s with opn := o, turns := false } ∧ Trn b hv hv W W1 := by
      have h1 : LnAt (W.setCell ⟨b, 261, none⟩ (.bool o)) b a M p q hv { s with opn := o } := h.put 5 _ rfl h.own h.len
      rcases ht : s.turns with _ | _
      · rw [hW1, ht, if_neg (by decide)]
        refine ⟨?_, Trn.set b hv W 261 _⟩
        have e : ({ s with opn := o } : LSt) = { s with opn := o, turns := false } := by rw [← ht]
        rw [← e]
        exact h1
      · rw [hW1, ht, if_pos rfl]
        exact ⟨h1.put 4 _ rfl h1.own h1.len, (Trn.set b hv W 261 _).trans (Trn.set b hv _ 260 _)⟩
    have d256 : W1.cell? ⟨b, 256, none⟩ = some (.int .i64 M) := hL1.1.cell 0
    have d259 : W1.cell? ⟨b, 259, none⟩ = some hv := hL1.1.cell 3
    have dl : b < W1.heap.size := Blk.lt hL1.1.blk
    have HL1 := Lib.hid hL1
    have HW := Lib.hid hW1
    have HC := Lib.hid hcc
    have HO := Lib.hid ho
    -- what is behind the look at the length
    have FIN : Hid (∀ (x : Int), x = (cc.toNat : Int) → ∀ k, (s.held.length ≤ M → ∃ A n d w3, (Builtin.append_ #[22, 22] 22 #[hv, .slice (some ⟨(W1.drewN k).heap.size, 0, none⟩) 1 1]).run Tryd.prog ((W1.drewN k).alloc (.cells #[.int .u8 x] 5)) = .ok (.slice A n d) w3 ∧ LnAt (w3.setCell ⟨b, 259, none⟩ (.slice A n d)) b a M p q (.slice A n d) { s with opn := o, turns := false, held := addL M s.held cc } ∧ Trn b hv (.slice A n d) W (w3.setCell ⟨b, 259, none⟩ (.slice A n d)) ∧ b < w3.heap.size ∧ (∃ v, w3.cell? ⟨b, 259, none⟩ = some v) ∧ w3.frozen? ⟨b, 259, none⟩ = false) ∧
        (¬ s.held.length ≤ M → LnAt (W1.drewN k) b a M p q hv { s with opn := o, turns := false, held := addL M s.held cc } ∧ Trn b hv hv W (W1.drewN k))) := by
      show ∀ (x : Int), _
      intro x hx k
      have td : Trn b hv hv W (W1.drewN k) := hL1.2.trans ⟨rfl, rfl, rfl, Nat.le_refl _, fun _ _ _ _ => rfl, fun _ h => .inl h⟩
      refine ⟨fun hle => ?_, fun hgt => ?_⟩
      · obtain ⟨A, n, d, w3, r, h3, t3, y1, y2, y3⟩ := held_app b a M p q hv _ (W1.drewN k) (hL1.1.drewN k) hM cc x hx hle
        have e : addL M s.held cc = s.held ++ [cc] := by unfold addL; rw [if_pos hle]
        rw [e]
        exact ⟨A, n, d, w3, r, h3, td.trans t3, y1, y2, y3⟩
      · have e : addL M s.held cc = s.held := by unfold addL; rw [if_neg hgt]
        rw [e]
        exact ⟨hL1.1.drewN k, td⟩
    subst hvf
    clear h hes hL1 hcc ho hnl
    rcases ht : s.turns with _ | _
    · have hof : o = false := by
        rcases hoo : o with _ | _
        · rfl
        · have := hes2 hoo; rw [ht] at this; cases this
      have hW2 : W.setCell ⟨b, 261, none⟩ (.bool false) = W1 := by rw [hW1, ht, if_neg (by decide), hof]
      have hxc : z = (cc.toNat : Int) := by rw [HC.out, ht, hz]; rfl
      have HX := Lib.hid (FIN.out z hxc)
      have HW2 := Lib.hid hW2
      subst hof
      rw [ht] at c260
      clear hW1 hes2 hW2 hxc hz hx FIN HW hnx
      by_cases hle : s.held.length ≤ M
      · have hle2 : decide (n ≤ M) = true := by have := HL.out; simp; omega
        have hle3 : n ≤ M := by have := HL.out; omega
        have HLE := Lib.hid hle
        clear hle
        go_enter Tryd.func52, Tryd.ntmps52
        go_upto_region 6 with (fail)
        rw [HW2.out]
        go_quiet (fail)
        rename Nat => nq
        obtain ⟨A3, n3, c3, w3, r3, h3, t3, y1, ⟨y2, y3⟩, y4⟩ := (HX.out nq).1 HLE.out
        have H3 := Lib.hid h3
        have T3 := Lib.hid t3
        clear h3 t3
        go_wp2_with (at_builtin; refine wpList_app rfl (.tmp 46) (.tmp 48) rfl _ _ rfl rfl _ _ r3 ?_)
        go_end0
        exact ⟨_, rfl, H3.out, T3.out⟩
      · have hle2 : decide (n ≤ M) = false := by have := HL.out; simp; omega
        have hle3 : ¬ n ≤ M := by have := HL.out; omega
        have HLE := Lib.hid hle
        clear hle
        go_enter Tryd.func52, Tryd.ntmps52
        go_upto_region 6 with (fail)
        rw [HW2.out]
        go_quiet (fail)
        rename Nat => nq
        have H3 := Lib.hid ((HX.out nq).2 HLE.out)
        go_wp2
        go_end0
        exact ⟨_, rfl, H3.out.1, H3.out.2⟩
    · have hW2 : (W.setCell ⟨b, 261, none⟩ (.bool o)).setCell ⟨b, 260, none⟩ (.bool false) = W1 := by rw [hW1, ht, if_pos rfl]
      have hxc : bits .xor .u8 z 32 = (cc.toNat : Int) := by rw [HC.out, ht, hx]; rfl
      obtain ⟨zx, hzx⟩ : ∃ zx, zx = bits .xor .u8 z 32 := ⟨_, rfl⟩
      have HX := Lib.hid (FIN.out zx (hzx.trans hxc))
      have hzx2 := hzx.symm
      have HW2 := Lib.hid hW2
      rw [ht] at c260
      clear hW1 hes2 hW2 hxc hz hx FIN HW hnx hzx
      cases o
      all_goals
        by_cases hle : s.held.length ≤ M
        · have hle2 : decide (n ≤ M) = true := by have := HL.out; simp; omega
          have hle3 : n ≤ M := by have := HL.out; omega
          have HLE := Lib.hid hle
          clear hle
          go_enter Tryd.func52, Tryd.ntmps52
          go_upto_region 6 with (fail)
          rw [HW2.out]
          go_quiet (fail)
          rename Nat => nq
          obtain ⟨A3, n3, c3, w3, r3, h3, t3, y1, ⟨y2, y3⟩, y4⟩ := (HX.out nq).1 HLE.out
          have H3 := Lib.hid h3
          have T3 := Lib.hid t3
          clear h3 t3
          go_wp2_with (at_builtin; refine wpList_app rfl (.tmp 46) (.tmp 48) rfl _ _ rfl rfl _ _ r3 ?_)
          go_end0
          exact ⟨_, rfl, H3.out, T3.out⟩
        · have hle2 : decide (n ≤ M) = false := by have := HL.out; simp; omega
          have hle3 : ¬ n ≤ M := by have := HL.out; omega
          have HLE := Lib.hid hle
          clear hle
          go_enter Tryd.func52, Tryd.ntmps52
          go_upto_region 6 with (fail)
          rw [HW2.out]
          go_quiet (fail)
          rename Nat => nq
          have H3 := Lib.hid ((HX.out nq).2 HLE.out)
          go_wp2
          go_end0
          exact ⟨_, rfl, H3.out.1, H3.out.2⟩
end Go.Proofs.YtmdlpbgelgeiaaaDoor
