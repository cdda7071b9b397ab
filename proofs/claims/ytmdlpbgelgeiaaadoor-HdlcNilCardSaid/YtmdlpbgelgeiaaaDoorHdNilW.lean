/-
  HdlcNil: a line that is not there.
-/
import Derived.Test.YtmdlpbgelgeiaaaDoorHdKnown
namespace Go.Proofs.YtmdlpbgelgeiaaaDoor
open Go.RowKit Go.Shelf
set_option maxRecDepth 100000
set_option maxHeartbeats 4000000
set_option linter.unusedSimpArgs false
set_option linter.unusedVariables false
attribute [local go_sem] Oper.semAt_some

theorem each1_none (n : Nat) (hn : 1 ≤ n) (lp Bs Ls : Nat) (W : World) (h : W.cell? ⟨Bs, 0, none⟩ = some (.slice none 0 0)) :
    CallsIn Fence.wide n Tryd.prog 50 #[.func (.yield lp) #[] #[], .pointer (some ⟨Bs, 0, none⟩), .pointer (some ⟨Ls, 0, none⟩)] W fun e W' => (∃ v, e = .returned v) ∧ W = W' := by
  refine callsIn_of_wp Tryd.func50 rfl trivial ?_ rfl
  simp only [Tryd.ntmps50, List.size_toArray, List.length_cons, List.length_nil, Nat.reduceAdd, Nat.reduceSub, Array.replicate_succ, Array.replicate_zero, List.push_toArray, List.append_toArray, List.nil_append, List.cons_append]
  gi_wp2
  refine hdIn_scope ?_
  gi_wp2
  refine wpIn_label ?_
  gi_wp2
  gi_loopw [7] (fun _ wr => W = wr) (fun _ wr => 0)
  case atStart => rfl
  case round =>
    subst hrel
    gi_wp2
    dsimp only [Exit.noGoto]
    go_end0
    exact ⟨⟨_, rfl⟩, rfl⟩
theorem blk_nocells {W W' : World} {k t : Nat} {cs : List Value} {row : Option Nat} (h : Blk W k t cs) (hg : W.grownBy W' row) (hr : ∀ r, row = some r → ∃ o : Obj, W.heap[r]? = some o ∧ o.isCells = false) : Blk W' k t cs := by
  refine (hg.block k (Blk.lt h) (fun e => ?_)).trans h
  obtain ⟨o, ho, hc⟩ := hr k e.symm
  rw [show W.heap[k]? = _ from h] at ho
  injection ho with ho
  subst ho
  cases hc
def NnI (w : World) (O Bs : Nat) (u : Value) (tO : Nat) (_ : Unit) (W : World) : Prop := Blk W O tO [u] ∧ Blk W Bs 22 [.slice none 0 0] ∧ Below w.heap.size w W
theorem NnI.nocells {w : World} {O Bs tO B : Nat} {u : Value} (hB : w.heap.size ≤ B) : OwnFrom B (NnI w O Bs u tO) := by
  rintro s W W' row ⟨h1, h2, h3⟩ hg hr
  exact ⟨blk_nocells h1 hg (fun r e => (hr r e).2), blk_nocells h2 hg (fun r e => (hr r e).2), h3.grown hg h3.size (fun k e => Nat.le_trans hB (hr k e).1)⟩

theorem feed_none (A : Option Addr) (n c : Nat) (w : World) :
    Calls Tryd.prog 28 #[.pointer none, .slice A n c] w fun e w' => e = .returned (.slice none 0 0) ∧ Below w.heap.size w w' := by
  obtain ⟨Wa, hWa⟩ : ∃ Wa, w.alloc (.cells #[.slice none 0 0] 42) = Wa := ⟨_, rfl⟩
  have sa : Wa.heap.size = w.heap.size + 1 := by rw [← hWa]; simp
  have ba : Below w.heap.size w Wa := by rw [← hWa]; exact (Below.refl _ _).alloc (Nat.le_refl _) _
  have ka : Blk Wa w.heap.size 42 [.slice none 0 0] := by rw [← hWa]; exact blk_new w _ _
  obtain ⟨W0, hW0⟩ : ∃ W0, (Wa.alloc (.cells #[.pointer none] 45)).alloc (.cells #[.slice none 0 0] 22) = W0 := ⟨_, rfl⟩
  have s0' : W0.heap.size = w.heap.size + 3 := by rw [← hW0]; simp; omega
  have b0' : Below Wa.heap.size Wa W0 := by rw [← hW0]; exact ((Below.refl _ _).alloc (Nat.le_refl _) _).alloc (by simp) _
  have kBs : Blk W0 (w.heap.size + 2) 22 [.slice none 0 0] := by
    have h := blk_new (Wa.alloc (.cells #[.pointer none] 45)) 22 [.slice none 0 0]
    rw [World.size_alloc, sa] at h
    rw [← hW0]; exact h
  have H0 : Hid (NnI w w.heap.size (w.heap.size + 2) (.slice none 0 0) 42 () W0) := ⟨(b0'.block _ (by omega)).trans ka, kBs, ba.trans (b0'.mono (by omega))⟩
  have EC := Lib.hid (each_none A n c Wa)
  rw [hW0] at EC
  have HWa := Lib.hid hWa
  have S0 := Lib.hid s0'
  have SA := Lib.hid sa
  clear hWa sa ba ka hW0 s0' b0' kBs
  refine (callsIn_wide (n := 12)).1 ?_
  refine callsIn_of_wp_marks Tryd.func28 rfl trivial ?_ rfl
  simp only [Tryd.ntmps28, List.size_toArray, List.length_cons, List.length_nil, Nat.reduceAdd, Nat.reduceSub, Array.replicate_succ, Array.replicate_zero, List.push_toArray, List.append_toArray, List.nil_append, List.cons_append]
  gi_wp2_with (first
    | (rw [HWa.out])
    | (refine ⟨trivial, ?_⟩; gi_at_call 46; refine (callsIn_wide.2 EC.out).mono ?_; rintro e w' ⟨rfl, rfl⟩))
  rw [SA.out, show w.heap.size + 1 + 1 = w.heap.size + 2 from rfl]
  rename World => W0
  have hs0 : w.heap.size + 3 ≤ W0.heap.size := by have := S0.out; omega
  have hw0 : w.heap.size ≤ W0.heap.size := by omega
  refine wpIn_rangeFunc_dir rfl (by omega) (gf := 50) (lb := #[.pointer (some ⟨w.heap.size + 2, 0, none⟩), .pointer (some ⟨w.heap.size + 1, 0, none⟩)]) rfl trivial (enters_of Tryd.func50 (by kernel_rfl) rfl)
    (encs := fun x : Int × Option Addr × Nat × Nat => #[frV x.1 x.2.1 x.2.2.1 x.2.2.2]) (fun x => rfl)
    (NnI w w.heap.size (w.heap.size + 2) (.slice none 0 0) 42) (fun _ _ _ => False) (fun _ _ => False) (fun s _ => s) () (fun _ => True)
    (NnI.nocells hw0) (fun _ _ _ _ _ h _ _ => h) H0.out (fun _ _ _ _ => False) (fun _ _ _ _ _ _ _ h _ _ => h)
    ?assign ?body ?hit ?done ?stop
  case assign =>
    rintro lp s x W K hi hok
    exact hok.elim
  case body =>
    rintro lp s x a' W hlp - hi hok
    exact hok.elim
  case hit =>
    rintro lp W1 R Rx hB1 hz1 hR hRx hY hI1 hR1
    refine (each1_none (n := 11) (by omega) lp (w.heap.size + 2) (w.heap.size + 1) W1 (hI1.2.1.cell 0)).mono ?_
    rintro e W' ⟨hv, rfl⟩
    exact ⟨hv, .inl ⟨(), trivial, hI1, hR1⟩⟩
  case done =>
    rintro D s W hD - ⟨h1, h2, h3⟩ hK
    have k0 : W.cell? ⟨w.heap.size, 0, none⟩ = some (.slice none 0 0) := h1.cell 0
    have hgr : W.grownBy (W.putObj D (.deferred none)) (some D) := grownBy_putObj' W D _
    have FIN : Hid (Below w.heap.size w (W.putObj D (.deferred none))) := h3.grown hgr h3.size (fun k e => by cases e; omega)
    clear h1 h2 h3
    gi_wp2
    refine ⟨by simp, .inl ⟨_, _, rfl, run_takeDeferred hK, ?_⟩⟩
    exact ⟨_, results_tmp rfl _ _ _, rfl, FIN.out⟩
  case stop =>
    rintro D cc s W _ h _
    exact h.elim
end Go.Proofs.YtmdlpbgelgeiaaaDoor
