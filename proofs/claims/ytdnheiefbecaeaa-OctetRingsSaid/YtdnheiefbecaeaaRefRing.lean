/-
  tetherref01's rings, call by call.
-/
import Derived.Test.YtdnheiefbecaeaaRing3
namespace Go.Proofs.Ytdnheiefbecaeaa
open Go.RowKit
set_option maxRecDepth 100000
set_option maxHeartbeats 2000000
set_option linter.unusedSimpArgs false
set_option linter.unusedVariables false

/-- the slice at A of n bytes reads as l, in block b -/
def RdB (w : World) (b : Nat) (A : Option Addr) (n : Nat) (l : List UInt8) : Prop :=
  l.length = n ∧ (0 < n → ∃ off, A = some ⟨b, off, none⟩ ∧ b < w.heap.size ∧ ∀ j, j < n → w.cell? ⟨b, off + j, none⟩ = some (.int .u8 (byteAt l j)))
theorem RdB.rd {w : World} {b n : Nat} {A : Option Addr} {l : List UInt8} (h : RdB w b A n l) : Rd w w.heap.size A n l :=
  ⟨h.1, fun h0 => by obtain ⟨off, e, hb, hc⟩ := h.2 h0; exact ⟨b, off, e, hb, hc⟩⟩
theorem RdB.kept {w w' : World} {b n : Nat} {A : Option Addr} {l : List UInt8} {row : Option Nat} (h : RdB w b A n l) (hG : w.grownBy w' row) (hr : some b ≠ row) : RdB w' b A n l := by
  refine ⟨h.1, fun h0 => ?_⟩
  obtain ⟨off, e, hb, hc⟩ := h.2 h0
  exact ⟨off, e, Nat.lt_of_lt_of_le hb hG.size, fun j hj => (World.cell?_of_block (hG.block b hb hr)).trans (hc j hj)⟩
/-- block gs is the document's ring: q waits, in block b -/
structure RefRing (w : World) (gs b room : Nat) (q : List UInt8) : Prop where
  ring : ∃ D cap, Blk w gs 29 [.int .i64 (room : Int), .slice D q.length cap] ∧ RdB w b D q.length q ∧ (D = none → cap = 0) ∧ q.length ≤ cap ∧ cap ≤ 9223372036854775807
  held : q.length ≤ room
  most : room ≤ 65536
theorem RefRing.lt {w : World} {gs b room : Nat} {q : List UInt8} (r : RefRing w gs b room q) : gs < w.heap.size := by
  obtain ⟨D, cap, h, _⟩ := r.ring
  exact Blk.lt h
theorem RefRing.kept {w w' : World} {gs b room : Nat} {q : List UInt8} {row : Option Nat} (r : RefRing w gs b room q) (hG : w.grownBy w' row) (h1 : some gs ≠ row) (h2 : some b ≠ row) : RefRing w' gs b room q := by
  obtain ⟨D, cap, h, hr, hn, hc⟩ := r.ring
  exact ⟨⟨D, cap, (hG.block gs (Blk.lt h) h1).trans h, hr.kept hG h2, hn, hc⟩, r.held, r.most⟩
theorem refpeek_any (gs b room : Nat) (n : Int) (q : List UInt8) (w : World) (r : RefRing w gs b room q) :
    Calls Try.prog 13 #[.pointer (some ⟨gs, 0, none⟩), .int .i64 n] w fun e w' => ∃ v, e = .returned v ∧ Own w' w.heap.size v (q.take (reach q.length n)) ∧ Below w.heap.size w w' := by
  obtain ⟨D, cap, hb, hr, hnil, hq, hcap⟩ := r.ring
  have c1 : w.cell? ⟨gs, 1, none⟩ = some (.slice D q.length cap) := Blk.cell hb 1
  have hm := r.most
  have hh := r.held
  have hre : reach q.length n ≤ q.length := by unfold reach; omega
  obtain ⟨v, w2, hrun, ho, hG, _⟩ := append_run (Own.nil w w.heap.size) cap (hr.rd.headk hre) hnil (by simp; omega) (Nat.le_refl _)
  rw [List.nil_append] at ho
  have HRUN := Lib.hid hrun
  have OO := Lib.hid ho
  have BB := Lib.hid ((Below.refl w.heap.size w).grown hG (Nat.le_refl _) (by simp [Value.ownBlock]))
  have hcases : (n < 0 ∧ reach q.length n = 0) ∨ (0 ≤ n ∧ n ≤ (q.length : Int) ∧ ((reach q.length n : Nat) : Int) = n) ∨ ((q.length : Int) < n ∧ reach q.length n = q.length) := by unfold reach; omega
  have hqc : (q.length : Int) ≤ (cap : Int) := by omega
  clear hrun ho hG hb hr r hnil
  rcases hcases with ⟨h1, e⟩ | ⟨h1, h2, e⟩ | ⟨h1, e⟩
  · rw [e] at HRUN OO
    rw [e]
    rw [List.take_zero] at OO ⊢
    clear e
    go_enter Try.func13, Try.ntmps13
    go_wp2_with (at_builtin; refine wpList_app rfl (.tmp 20) (.tmp 26) rfl _ _ rfl rfl _ _ HRUN.out ?_)
    go_ret
    exact ⟨_, rfl, OO.out, BB.out⟩
  · generalize reach q.length n = m at *
    subst e
    go_enter Try.func13, Try.ntmps13
    go_wp2_with (at_builtin; refine wpList_app rfl (.tmp 20) (.tmp 26) rfl _ _ rfl rfl _ _ HRUN.out ?_)
    go_ret
    exact ⟨_, rfl, OO.out, BB.out⟩
  · rw [e] at HRUN OO hre
    rw [e]
    rw [List.take_length] at OO ⊢
    have h0 : ¬ n < 0 := by omega
    clear e
    go_enter Try.func13, Try.ntmps13
    go_wp2_with (at_builtin; refine wpList_app rfl (.tmp 20) (.tmp 26) rfl _ _ rfl rfl _ _ HRUN.out ?_)
    go_ret
    exact ⟨_, rfl, OO.out, BB.out⟩
theorem RdB.from {w : World} {b n k cap : Nat} {A : Option Addr} {l : List UInt8} (h : RdB w b A n l) (hk : k ≤ n) (hn : n ≤ cap) : RdB w b (if cap = k then A else A.map (·.add (k * 1))) (n - k) (l.drop k) := by
  have hl := h.1
  refine ⟨by rw [List.length_drop]; omega, fun h0 => ?_⟩
  obtain ⟨off, rfl, hb, hcell⟩ := h.2 (by omega)
  refine ⟨off + k, ?_, hb, fun j hj => ?_⟩
  · rw [if_neg (by omega), Nat.mul_one]
    show some _ = some _
    congr 1
    unfold Addr.add
    split
    · subst_vars
      rfl
    · rfl
  · rw [Nat.add_assoc, hcell (k + j) (by omega)]
    congr 2
    unfold byteAt
    rw [List.getD_eq_getElem?_getD, List.getD_eq_getElem?_getD, List.getElem?_drop]
theorem slice_run (A : Option Addr) (n c k : Nat) (hk : k ≤ n) : ∀ W, (Instr.slice 27 (.slice A n c) (some (.int .i64 (k : Int))) none none).run Try.prog W = .ok (.slice (if c = k then A else A.map (·.add (k * 1))) (n - k) (c - k)) W := by
  intro W
  rw [run_slice_l W 27 _ _ _ (by rw [slice_elem]; exact Try.underlying27) .i64 _ (by omega) (by omega), slice_elem, byte_sizeOf]
  rfl
theorem refdrop_any (gs b room : Nat) (n : Int) (q : List UInt8) (w : World) (r : RefRing w gs b room q) :
    Calls Try.prog 14 #[.pointer (some ⟨gs, 0, none⟩), .int .i64 n] w fun e w' => e = .returned (.int .i64 ((reach q.length n : Nat) : Int)) ∧ RefRing w' gs b room (q.drop (reach q.length n)) ∧ w.grownBy w' (some gs) := by
  have PK := Lib.hid (refpeek_any gs b room n q w r)
  have hre : reach q.length n ≤ q.length := by unfold reach; omega
  have RR := Lib.hid r
  generalize hm : reach q.length n = m at *
  clear r
  go_enter Try.func14, Try.ntmps14
  go_wp2_with fail
  refine (PK.out).mono ?_
  rintro e w1 ⟨v, rfl, ho, hB⟩
  have hlen : (q.take m).length = m := by rw [List.length_take]; omega
  have hvf : ∃ A c, v = .slice A m c := by
    rcases ho.form with ⟨rfl, e⟩ | ⟨g', cap', rfl, _⟩
    · rw [e] at hlen
      exact ⟨none, 0, by rw [← hlen]; rfl⟩
    · exact ⟨_, _, by rw [hlen]⟩
  obtain ⟨A, c, rfl⟩ := hvf
  have R1 := RR.out.kept (only_of_below hB none) (by simp) (by simp)
  obtain ⟨D, cap, hb, hr, hnil, hq, hcap⟩ := R1.ring
  have c1 : w1.cell? ⟨gs, 1, none⟩ = some (.slice D q.length cap) := Blk.cell hb 1
  have f1 := Blk.frozen hb 1
  have hs := slice_run D q.length cap m hre
  obtain ⟨D2, hD2⟩ : ∃ D2, D2 = (if cap = m then D else D.map (·.add (m * 1))) := ⟨_, rfl⟩
  rw [← hD2] at hs
  have hr2 := hr.from hre hq
  rw [← hD2] at hr2
  have hnil2 : D2 = none → cap - m = 0 := by
    intro e
    rw [e] at hD2
    by_cases hck : cap = m
    · omega
    · rw [if_neg hck] at hD2
      cases D with
      | none => have := hnil rfl; omega
      | some x => cases hD2
  have hb2 := Blk.set_ hb 1 (.slice D2 (q.length - m) (cap - m))
  have HF := Lib.hid (show RefRing (w1.setCell ⟨gs, 1, none⟩ (.slice D2 (q.length - m) (cap - m))) gs b room (q.drop m) from by
    refine ⟨⟨D2, cap - m, ?_, ?_, hnil2, by rw [List.length_drop]; omega, by omega⟩, by rw [List.length_drop]; have := RR.out.held; omega, RR.out.most⟩
    · rw [List.length_drop]
      exact hb2
    · rw [List.length_drop]
      by_cases hbg : b = gs
      · refine ⟨hr2.1, fun h0 => ?_⟩
        obtain ⟨off, e, hlt, hc⟩ := hr2.2 h0
        subst hbg
        exfalso
        have h1 := hc 0 h0
        have h2 := Blk.cell hb (off + 0)
        rw [h1] at h2
        rcases hoff : off + 0 with _ | _ | z <;> rw [hoff] at h2 <;> simp at h2
      · exact hr2.kept (only_set (w := w1) (p := ⟨gs, 1, none⟩) _) (by simpa using hbg))
  have GG := Lib.hid (only_then (only_of_below hB (some gs)) (only_set (w := w1) (p := ⟨gs, 1, none⟩) (.slice D2 (q.length - m) (cap - m))) (fun i hi => .inl hi))
  clear ho hB R1 hb hr hr2 hb2 hD2 hnil2 hm
  go_wp2
  go_ret
  exact ⟨rfl, HF.out, GG.out⟩
end Go.Proofs.Ytdnheiefbecaeaa
