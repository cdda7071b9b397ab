/-
  octet.Reader's Take, Num, Rest, Left, Err: what they answer and what is left.
-/
import Derived.Test.YtjkdlmielckaaaaDoorReader
namespace Go.Proofs.YtjkdlmielckaaaaDoor
open Go.RowKit
set_option maxRecDepth 100000
set_option linter.unusedSimpArgs false
set_option linter.unusedVariables false

/-- the error, the bytes told, the bytes left behind 'the next n bytes' -/
def tkErr (r : List UInt8) (e n : Int) : Int := if e ≠ 0 then e else if n < 0 then 1 else if (r.length : Int) < n then 8 else 0
def tkOut (r : List UInt8) (e n : Int) : List UInt8 := if tkErr r e n = 0 then r.take n.toNat else []
def tkRest (r : List UInt8) (e n : Int) : List UInt8 := if tkErr r e n = 0 then r.drop n.toNat else []
/-- the same behind 'the next number of n bytes' -/
def nmErr (r : List UInt8) (e n : Int) : Int := if e ≠ 0 then e else if ¬ (1 ≤ n ∧ n ≤ 8) then 1 else if (r.length : Int) < n then 8 else 0
def nmVal (r : List UInt8) (e n : Int) : Int := if nmErr r e n = 0 then num r n.toNat else 0
def nmRest (r : List UInt8) (e n : Int) : List UInt8 := if nmErr r e n = 0 then r.drop n.toNat else []

def OctAt (w : World) (B g : Nat) (r : List UInt8) (e : Int) : Prop := Rdr w B g 60 r e ∧ (e ≠ 0 → r = [])
theorem OctAt.later {w w' : World} {B g : Nat} {r : List UInt8} {e : Int} (h : OctAt w B g r e) (hB : Below w.heap.size w w') : OctAt w' B g r e := ⟨h.1.later hB, h.2⟩

theorem OctAt.drewN {w : World} {B g : Nat} {r : List UInt8} {e : Int} (h : OctAt w B g r e) (k : Nat) : OctAt (w.drewN k) B g r e := h
theorem Rdr.size {w : World} {B g t : Nat} {r : List UInt8} {e : Int} (h : Rdr w B g t r e) : B ≤ w.heap.size := by
  obtain ⟨_, _, _, _, _, _, _, _, _, h5⟩ := h
  exact h5
theorem Rdr.bound {w : World} {B g t : Nat} {r : List UInt8} {e : Int} (h : Rdr w B g t r e) : r.length ≤ 140737488420864 := by
  obtain ⟨A, k, c, _, hr, h1, h2, _⟩ := h
  rw [hr.1]
  omega

theorem clone_next {w0 w : World} {B g n c : Nat} {A : Option Addr} {l r : List UInt8} {e : Int} (hr : Rd w B A n l) (hB0 : B ≤ w.heap.size) (hn : n ≤ 140737488420864) (hG : w0.grownBy w (some g)) (hR : OctAt w B g r e) :
    Calls Tryd.prog 34 #[.slice A n c] w fun e' w' => ∃ v, e' = .returned v ∧ Own w' w0.heap.size v l ∧ OctAt w' B g r e ∧ w0.grownBy w' (some g) := by
  refine (clone_big A n c B l w hr hB0 hn).mono ?_
  rintro e' w' ⟨rfl, ho, hB⟩
  refine ⟨_, rfl, ?_, hR.later hB, only_then hG (only_of_below hB none) (by simp)⟩
  refine ⟨ho.1, ?_⟩
  rcases ho.2 with h | ⟨g', cap, cur, h1, h2, h3⟩
  · exact .inl h
  · exact .inr ⟨g', cap, cur, h1, Nat.le_trans hG.size h2, h3⟩

theorem take_any (B g : Nat) (n : Int) (r : List UInt8) (e : Int) (w : World) (h : OctAt w B g r e) :
    Calls Tryd.prog 21 #[.pointer (some ⟨g, 0, none⟩), .int .i64 n] w fun e' w' =>
      ∃ v, e' = .returned v ∧ Own w' w.heap.size v (tkOut r e n) ∧ OctAt w' B g (tkRest r e n) (tkErr r e n) ∧ w.grownBy w' (some g) := by
  have hbd := h.1.bound
  by_cases he : e ≠ 0
  · have e1 : tkErr r e n = e := if_pos he
    have e2 : tkOut r e n = [] := by unfold tkOut; rw [e1, if_neg he]
    have e3 : tkRest r e n = r := by unfold tkRest; rw [e1, if_neg he]; exact (h.2 he).symm
    rw [e1, e2, e3]
    have P := Lib.hid fun b => next_err B g n b r e w h.1 he
    have C := Lib.hid (clone_next (A := none) (c := 0) Rd.nil h.1.size (Nat.zero_le _) (World.grownBy.refl w (some g)) h)
    clear h he e1 e2 e3 hbd
    go_enter Tryd.func21, Tryd.ntmps21
    go_wp2_with fail
    refine (P.out _).mono ?_
    rintro e' w1 ⟨rfl, rfl⟩
    go_wp2_with fail
    refine (C.out).mono ?_
    rintro e' w1 ⟨v, rfl, ho, hO, hG⟩
    have O := Lib.hid ho
    have OO := Lib.hid hO
    have G := Lib.hid hG
    clear ho hO hG
    go_wp2
    go_ret
    exact ⟨_, rfl, O.out, OO.out, G.out⟩
  · obtain rfl : e = 0 := by simpa using he
    by_cases hn : n < 0
    · have e1 : tkErr r 0 n = 1 := by unfold tkErr; simp [hn]
      have e2 : tkOut r 0 n = [] := by unfold tkOut; rw [e1]; rfl
      have e3 : tkRest r 0 n = [] := by unfold tkRest; rw [e1]; rfl
      rw [e1, e2, e3]
      have P := Lib.hid (next_wrong B g n r w h.1)
      have hd : decide (0 ≤ n) = false := by simp; omega
      clear h he e1 e2 e3 hbd
      go_enter Tryd.func21, Tryd.ntmps21
      go_wp2_with fail
      refine (P.out).mono ?_
      rintro e' w1 ⟨rfl, hR, hG⟩
      have C := Lib.hid (clone_next (A := none) (c := 0) Rd.nil hR.size (Nat.zero_le _) hG ⟨hR, fun _ => rfl⟩)
      clear hR hG
      go_wp2_with fail
      refine (C.out).mono ?_
      rintro e' w1 ⟨v, rfl, ho, hO, hG⟩
      have O := Lib.hid ho
      have OO := Lib.hid hO
      have G := Lib.hid hG
      clear ho hO hG
      go_wp2
      go_ret
      exact ⟨_, rfl, O.out, OO.out, G.out⟩
    · obtain ⟨m, rfl⟩ := Int.eq_ofNat_of_zero_le (show 0 ≤ n by omega)
      by_cases hlt : (r.length : Int) < m
      · have e1 : tkErr r 0 m = 8 := by unfold tkErr; rw [if_neg (by simp), if_neg hn, if_pos hlt]
        have e2 : tkOut r 0 m = [] := by unfold tkOut; rw [e1]; rfl
        have e3 : tkRest r 0 m = [] := by unfold tkRest; rw [e1]; rfl
        rw [e1, e2, e3]
        have P := Lib.hid (next_short B g m r w h.1 hlt)
        have hm0 : (0 : Int) ≤ (m : Int) := by omega
        clear h he e1 e2 e3 hbd hlt hn
        go_enter Tryd.func21, Tryd.ntmps21
        go_wp2_with fail
        refine (P.out).mono ?_
        rintro e' w1 ⟨rfl, hR, hG⟩
        have C := Lib.hid (clone_next (A := none) (c := 0) Rd.nil hR.size (Nat.zero_le _) hG ⟨hR, fun _ => rfl⟩)
        clear hR hG
        go_wp2_with fail
        refine (C.out).mono ?_
        rintro e' w1 ⟨v, rfl, ho, hO, hG⟩
        have O := Lib.hid ho
        have OO := Lib.hid hO
        have G := Lib.hid hG
        clear ho hO hG
        go_wp2
        go_ret
        exact ⟨_, rfl, O.out, OO.out, G.out⟩
      · have e1 : tkErr r 0 m = 0 := by unfold tkErr; rw [if_neg (by simp), if_neg hn, if_neg hlt]
        have e2 : tkOut r 0 m = r.take m := by unfold tkOut; rw [e1, if_pos rfl, Int.toNat_natCast]
        have e3 : tkRest r 0 m = r.drop m := by unfold tkRest; rw [e1, if_pos rfl, Int.toNat_natCast]
        rw [e1, e2, e3]
        have P := Lib.hid (next_ok B g m r w h.1 (by omega))
        have hm0 : (0 : Int) ≤ (m : Int) := by omega
        have hmb : m ≤ 140737488420864 := by omega
        clear h he e1 e2 e3 hbd hlt hn
        go_enter Tryd.func21, Tryd.ntmps21
        go_wp2_with fail
        refine (P.out).mono ?_
        rintro e' w1 ⟨A, c, rfl, hF, hc1, hc2, hR, hG⟩
        have C := Lib.hid (clone_next (c := c) hF hR.size hmb hG ⟨hR, fun h => absurd rfl h⟩)
        clear hR hG hF
        go_wp2_with fail
        refine (C.out).mono ?_
        rintro e' w1 ⟨v, rfl, ho, hO, hG⟩
        have O := Lib.hid ho
        have OO := Lib.hid hO
        have G := Lib.hid hG
        clear ho hO hG
        go_wp2
        go_ret
        exact ⟨_, rfl, O.out, OO.out, G.out⟩

theorem onum_any (B g : Nat) (n : Int) (r : List UInt8) (e : Int) (w : World) (h : OctAt w B g r e) :
    Calls Tryd.prog 20 #[.pointer (some ⟨g, 0, none⟩), .int .i64 n] w fun e' w' =>
      e' = .returned (.int .u64 (nmVal r e n)) ∧ OctAt w' B g (nmRest r e n) (nmErr r e n) ∧ w.grownBy w' (some g) := by
  have hbd := h.1.bound
  have NN := Lib.hid fun W => number_any none 0 0 [] W 0 Rd.nil (by omega) (Nat.le_refl _)
  by_cases he : e ≠ 0
  · have e1 : nmErr r e n = e := if_pos he
    have e2 : nmVal r e n = 0 := by unfold nmVal; rw [e1, if_neg he]
    have e3 : nmRest r e n = r := by unfold nmRest; rw [e1, if_neg he]; exact (h.2 he).symm
    rw [e1, e2, e3]
    have P := Lib.hid fun b => next_err B g n b r e w h.1 he
    have H := Lib.hid h
    clear h he e1 e2 e3 hbd
    go_enter Tryd.func20, Tryd.ntmps20
    go_wp2_with fail
    refine (size_right _ _).mono ?_
    rintro e' w1 ⟨rfl, rfl⟩
    go_wp2_with fail
    refine (P.out _).mono ?_
    rintro e' w1 ⟨rfl, rfl⟩
    go_wp2_with fail
    refine (NN.out _).mono ?_
    rintro e' w1 ⟨rfl, rfl⟩
    go_wp2
    go_ret
    exact ⟨rfl, H.out, World.grownBy.refl _ _⟩
  · obtain rfl : e = 0 := by simpa using he
    by_cases hs : 1 ≤ n ∧ n ≤ 8
    · obtain ⟨m, rfl⟩ := Int.eq_ofNat_of_zero_le (show 0 ≤ n by omega)
      have hd : decide (1 ≤ (m : Int) ∧ (m : Int) ≤ 8) = true := by simp; omega
      by_cases hlt : (r.length : Int) < m
      · have e1 : nmErr r 0 m = 8 := by unfold nmErr; rw [if_neg (by simp), if_neg (by simpa using hs), if_pos hlt]
        have e2 : nmVal r 0 m = 0 := by unfold nmVal; rw [e1]; rfl
        have e3 : nmRest r 0 m = [] := by unfold nmRest; rw [e1]; rfl
        rw [e1, e2, e3]
        have P := Lib.hid (next_short B g m r w h.1 hlt)
        clear h he e1 e2 e3 hbd hlt hs
        go_enter Tryd.func20, Tryd.ntmps20
        go_wp2_with fail
        refine (size_right _ _).mono ?_
        rintro e' w1 ⟨rfl, rfl⟩
        rw [hd]
        go_wp2_with fail
        refine (P.out).mono ?_
        rintro e' w1 ⟨rfl, hR, hG⟩
        have R := Lib.hid hR
        have G := Lib.hid hG
        clear hR hG
        go_wp2_with fail
        refine (NN.out _).mono ?_
        rintro e' w2 ⟨rfl, rfl⟩
        go_wp2
        go_ret
        exact ⟨rfl, ⟨R.out, fun _ => rfl⟩, G.out⟩
      · have e1 : nmErr r 0 m = 0 := by unfold nmErr; rw [if_neg (by simp), if_neg (by simpa using hs), if_neg hlt]
        have e2 : nmVal r 0 m = num r m := by unfold nmVal; rw [e1, if_pos rfl, Int.toNat_natCast]
        have e3 : nmRest r 0 m = r.drop m := by unfold nmRest; rw [e1, if_pos rfl, Int.toNat_natCast]
        rw [e1, e2, e3]
        have P := Lib.hid (next_ok B g m r w h.1 (by omega))
        have h8 : m ≤ 8 := by omega
        have en : num (r.take m) m = num r m := num_congr _ _ m fun j hj => byteAt_take _ _ _ hj
        have EN := Lib.hid en
        clear h he e1 e2 e3 hbd hlt hs en
        go_enter Tryd.func20, Tryd.ntmps20
        go_wp2_with fail
        refine (size_right _ _).mono ?_
        rintro e' w1 ⟨rfl, rfl⟩
        rw [hd]
        go_wp2_with fail
        refine (P.out).mono ?_
        rintro e' w1 ⟨A, c, rfl, hF, hc1, hc2, hR, hG⟩
        have N1 := number_any A m c (r.take m) w1 B hF h8 hc1
        rw [EN.out] at N1
        have N2 := Lib.hid N1
        have R := Lib.hid hR
        have G := Lib.hid hG
        clear hR hG hF N1
        go_wp2_with fail
        refine (N2.out).mono ?_
        rintro e' w2 ⟨rfl, rfl⟩
        go_wp2
        go_ret
        exact ⟨rfl, ⟨R.out, fun h => absurd rfl h⟩, G.out⟩
    · have hd : decide (1 ≤ n ∧ n ≤ 8) = false := by simpa using hs
      have e1 : nmErr r 0 n = 1 := by unfold nmErr; rw [if_neg (by simp), if_pos hs]
      have e2 : nmVal r 0 n = 0 := by unfold nmVal; rw [e1]; rfl
      have e3 : nmRest r 0 n = [] := by unfold nmRest; rw [e1]; rfl
      rw [e1, e2, e3]
      have P := Lib.hid (next_wrong B g n r w h.1)
      clear h he e1 e2 e3 hbd hs
      go_enter Tryd.func20, Tryd.ntmps20
      go_wp2_with fail
      refine (size_right _ _).mono ?_
      rintro e' w1 ⟨rfl, rfl⟩
      rw [hd]
      go_wp2_with fail
      refine (P.out).mono ?_
      rintro e' w1 ⟨rfl, hR, hG⟩
      have R := Lib.hid hR
      have G := Lib.hid hG
      clear hR hG
      go_wp2_with fail
      refine (NN.out _).mono ?_
      rintro e' w2 ⟨rfl, rfl⟩
      go_wp2
      go_ret
      exact ⟨rfl, ⟨R.out, fun _ => rfl⟩, G.out⟩

theorem err_any (B g : Nat) (r : List UInt8) (e : Int) (w : World) (h : OctAt w B g r e) :
    Calls Tryd.prog 48 #[.pointer (some ⟨g, 0, none⟩)] w fun e' w' => e' = .returned (.int .i64 e) ∧ w = w' := by
  obtain ⟨⟨A, k, c, hb, hr, _⟩, _⟩ := h
  have c1 : w.cell? ⟨g, 1, none⟩ = some (.int .i64 e) := hb.cell 1
  clear hb hr
  go_enter Tryd.func48, Tryd.ntmps48
  go_wp2
  go_ret
  exact ⟨rfl, rfl⟩
end Go.Proofs.YtjkdlmielckaaaaDoor
