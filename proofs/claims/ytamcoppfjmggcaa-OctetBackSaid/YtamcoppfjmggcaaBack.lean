/-
  tetherlaw01.OctetBack is true: what is put is read again, what is read is put so.
-/
import Derived.Test.YtamcoppfjmggcaaSpec
import Derived.Test.YtamcoppfjmggcaaKnown
import Derived.Deep.Light
namespace Go.Proofs.Ytamcoppfjmggcaa
open Go.RowKit
set_option maxRecDepth 100000
set_option linter.unusedSimpArgs false
set_option linter.unusedVariables false

theorem num_snoc (L : List UInt8) (c : UInt8) : num (L ++ [c]) (L.length + 1) = num L L.length * 256 + (c.toNat : Int) := by
  show num (L ++ [c]) L.length * 256 + byteAt (L ++ [c]) L.length = _
  rw [num_congr (L ++ [c]) L L.length (fun j hj => by
    unfold byteAt
    rw [List.getD_eq_getElem?_getD, List.getD_eq_getElem?_getD, List.getElem?_append_left hj])]
  congr 1
  rw [byteAt_eq _ _ (by simp)]
  simp
theorem num_putB : ∀ (k m : Nat), m < 256 ^ k → num (putB m k) k = (m : Int)
  | 0, m, h => by
    obtain rfl : m = 0 := by simpa using h
    rfl
  | k + 1, m, h => by
    have ih := num_putB k (m / 256) (by rw [Nat.pow_succ] at h; omega)
    have e := num_snoc (putB (m / 256) k) (UInt8.ofNat (m % 256))
    rw [putB_length, ih] at e
    rw [putB, e, UInt8.toNat_ofNat']
    omega
theorem putB_num : ∀ (L : List UInt8), putB (num L L.length).toNat L.length = L := by
  intro L
  generalize hk : L.length = k
  induction k generalizing L with
  | zero => rw [List.eq_nil_of_length_eq_zero hk]; rfl
  | succ k ih =>
    obtain ⟨M, c, rfl⟩ : ∃ M c, L = M ++ [c] := ⟨L.dropLast, L.getLast (by intro e; rw [e] at hk; cases hk), (List.dropLast_concat_getLast _).symm⟩
    have hM : M.length = k := by simpa using hk
    have e := num_snoc M c
    rw [hM] at e
    have h0 := num_lo M k
    have hc := c.toNat_lt
    have e1 : (num (M ++ [c]) (k + 1)).toNat / 256 = (num M k).toNat := by omega
    have e2 : (num (M ++ [c]) (k + 1)).toNat % 256 = c.toNat := by omega
    rw [putB, e1, e2, ih M hM]
    simp

theorem pow_eight (t : Nat) : (2 : Int) ^ (8 * t) = ((256 ^ t : Nat) : Int) := by
  rw [Int.pow_mul]
  simp
theorem small_of_put {x : Int} {t : Nat} (h0 : 0 ≤ x) (h : x / 2 ^ (8 * t) = 0) : x.toNat < 256 ^ t := by
  obtain ⟨m, rfl⟩ := Int.eq_ofNat_of_zero_le h0
  rw [pow_eight] at h
  rw [Int.toNat_natCast]
  have hp : 0 < 256 ^ t := Nat.pow_pos (by omega)
  have e : ((m / 256 ^ t : Nat) : Int) = 0 := by rw [Int.natCast_ediv]; exact h
  have e2 : m / 256 ^ t = 0 := by omega
  rcases Nat.div_eq_zero_iff.1 e2 with h | h
  · omega
  · exact h
theorem put_of_small {x : Int} {t : Nat} (h0 : 0 ≤ x) (h : x < 256 ^ t) : x / 2 ^ (8 * t) = 0 := by
  obtain ⟨m, rfl⟩ := Int.eq_ofNat_of_zero_le h0
  rw [pow_eight]
  have hm : m < 256 ^ t := by
    have e : ((256 ^ t : Nat) : Int) = (256 : Int) ^ t := by simp
    rw [← e] at h
    omega
  rw [← Int.natCast_ediv, Nat.div_eq_of_lt hm]
  rfl

/-- the first half: behind a Put that answers no error, Get tells the number -/
theorem back_put (n t : Nat) (x : Int) (l : List UInt8) (v : Value) (base : Nat) (w : World) (hl : l.length = n) (hn : n ≤ 140737488351232) (hx0 : 0 ≤ x) (h1 : 1 ≤ t) (h8 : t ≤ 8) (hok : x / 2 ^ (8 * t) = 0) (ho : Own w base v (l ++ putB x.toNat t)) :
    ∃ g cap, v = .slice (some ⟨g, 0, none⟩) (n + t) cap ∧
      Calls Try.prog 13 #[.slice (some ⟨g, 0, none⟩) (n + t) cap, .int .i64 (n : Int), .int .i64 (t : Int)] w fun e w' => e = .returned (.tuple #[.int .u64 x, .int .i64 0]) ∧ w = w' := by
  have hlen : (l ++ putB x.toNat t).length = n + t := by rw [List.length_append, putB_length, hl]
  rcases ho.form with ⟨_, e⟩ | ⟨g, cap, e, _, _, hcap⟩
  · rw [e] at hlen
    simp at hlen
    omega
  · rw [hlen] at e hcap
    subst e
    have hrd := ho.rd hlen.symm (n + t) (Nat.le_refl _)
    rw [List.take_of_length_le (by omega)] at hrd
    refine ⟨g, cap, rfl, (get_ok (some ⟨g, 0, none⟩) (n + t) cap n t _ w _ hrd h1 h8 (by omega) hcap (Nat.le_refl _)).mono ?_⟩
    rintro e w' ⟨rfl, rfl⟩
    have e1 : num ((l ++ putB x.toNat t).drop n) t = x := by
      rw [List.drop_append_of_le_length (by omega), List.drop_of_length_le (by omega), List.nil_append, num_putB t _ (small_of_put hx0 hok)]
      omega
    rw [e1]
    exact ⟨rfl, rfl⟩

/-- the second half: what Get answered without an error, Put puts so -/
theorem back_get (A : Option Addr) (n c p t : Nat) (l : List UInt8) (w : World) (hr : Rd w w.heap.size A n l) (hc : n ≤ c) (hn : n ≤ 140737488351232) (h1 : 1 ≤ t) (h8 : t ≤ 8) (hle : p + t ≤ n) :
    ∃ b o, A = some ⟨b, o, none⟩ ∧
      Calls Try.prog 9 #[.slice none 0 0, .int .u64 (num (l.drop p) t), .int .i64 (t : Int)] w fun e w' => ∃ v, e = .returned (.tuple #[v, .int .i64 0]) ∧
        Calls Try.prog 11 #[v, .slice (some ⟨b, o + p, none⟩) t (c - p)] w' (fun e w'' => e = .returned (.bool true) ∧ ∃ k, w'' = w'.drewN k) ∧ Below w.heap.size w w' := by
  obtain ⟨b, o, rfl, _, _⟩ := hr.2 (by omega)
  refine ⟨b, o, rfl, ?_⟩
  have hl := hr.1
  have hL : ((l.drop p).take t).length = t := by rw [List.length_take, List.length_drop]; omega
  have hnum : num (l.drop p) t = num ((l.drop p).take t) t := num_congr _ _ t fun j hj => (byteAt_take _ _ _ hj).symm
  have hput : putB (num (l.drop p) t).toNat t = (l.drop p).take t := by
    have := putB_num ((l.drop p).take t)
    rw [hL, ← hnum] at this
    exact this
  have h0 := num_lo (l.drop p) t
  have h2 := num_hi (l.drop p) t
  have hlt : num (l.drop p) t < 18446744073709551616 := by
    have := num_below (l.drop p) 
    rcases (show t < 8 ∨ t = 8 by omega) with h | rfl
    · have := this t h
      omega
    · omega
  refine (put_ok none 0 0 t (num (l.drop p) t) [] w Rd.nil h1 h8 h0 hlt (by simp [put_of_small h0 h2]) (by omega)).mono ?_
  rintro e w' ⟨rfl, hb, hB⟩
  refine ⟨_, rfl, ?_, hB⟩
  rw [List.nil_append, hput] at hb
  have ho := own_of_blk (base := w.heap.size) hb (Nat.le_refl _) (by omega)
  rw [hL] at ho
  have hrd := ho.rd hL.symm t (Nat.le_refl _)
  rw [List.take_of_length_le (by omega)] at hrd
  have hsub := (hr.below hB).sub hle
  have := same_yes (some ⟨w.heap.size, 0, none⟩) (some ⟨b, o + p, none⟩) t t (c - p) ((l.drop p).take t) w' w'.heap.size hrd (hsub.wide hB.size) (by unfold maxLen; omega)
  rw [Nat.zero_add]
  exact this

theorem back_err (A : Option Addr) (n c : Nat) (l : List UInt8) (p s : Int) (w : World) (B : Nat) (hr : Rd w B A n l) (hc : n ≤ c) (hn : n ≤ 140737488351232) (h : getErr l p s ≠ 0) :
    ∃ z : Int, (z == 0) = false ∧ Calls Try.prog 13 #[.slice A n c, .int .i64 p, .int .i64 s] w fun e w' => e = .returned (.tuple #[.int .u64 0, .int .i64 z]) ∧ w = w' := by
  refine ⟨getErr l p s, by simpa using h, (get_all A n c p s l w B hr hc hn).mono ?_⟩
  rintro e w' ⟨rfl, rfl⟩
  have e0 : getVal l p s = 0 := by unfold getVal; rw [if_neg h]
  rw [e0]
  exact ⟨rfl, rfl⟩
theorem back_fits (l : List UInt8) (p s : Int) (h : getErr l p s = 0) : ∃ q t : Nat, p = q ∧ s = t ∧ 1 ≤ t ∧ t ≤ 8 ∧ q + t ≤ l.length := by
  have hb : ¬ getBad l p s := by
    intro hb
    rw [show getErr l p s = 1 from if_pos hb] at h
    omega
  have hlt : ¬ ((l.length : Int) - p < s) := by
    intro hlt
    rw [show getErr l p s = 8 by unfold getErr; rw [if_neg hb, if_pos hlt]] at h
    omega
  unfold getBad at hb
  exact ⟨p.toNat, s.toNat, by omega, by omega, by omega, by omega, by omega⟩

theorem back_walk (A : Option Addr) (n c : Nat) (l : List UInt8) (x s p : Int) (w : World) (hr : Rd w w.heap.size A n l) (hc : n ≤ c) (hn : c ≤ 140737488351232) (hx0 : 0 ≤ x) (hx1 : x < 18446744073709551616) :
    Calls Try.prog 4 #[.slice A n c, .int .u64 x, .int .i64 s, .int .i64 p] w fun e w' => e = .returned (.bool true) ∧ Below w.heap.size w w' := by
  have hl := hr.1
  have P1 := put_all A n c x s l w hr hx0 hx1 (by omega)
  have HR := Lib.hid hr
  have HL := Lib.hid hl
  have X0 := Lib.hid hx0
  clear hr hl hx0 hx1
  by_cases hok : putOk x s <;> by_cases hge : getErr l p s = 0
  · obtain ⟨q, t, rfl, rfl, h1, h8, hle⟩ := back_fits l p s hge
    rw [show putErr x t = 0 from if_pos hok, show putList l x t = l ++ putB x.toNat t by unfold putList; rw [if_pos hok, Int.toNat_natCast]] at P1
    have hq := hok.2
    rw [Int.toNat_natCast] at hq
    rw [HL.out] at hle
    have Q := Lib.hid hq
    have P := Lib.hid P1
    clear P1 hok hge hq
    go_enter Try.func4, Try.ntmps4
    go_wp2_with fail
    refine (P.out).mono ?_
    rintro e w1 ⟨v, rfl, ho, hB⟩
    obtain ⟨g, cap, rfl, hget⟩ := back_put n t x l v w.heap.size w1 HL.out (by omega) X0.out h1 h8 Q.out ho
    have B1 := Lib.hid hB
    have G := Lib.hid hget
    clear hget ho hB
    go_wp2_with fail
    refine (G.out).mono ?_
    rintro e w2 ⟨rfl, rfl⟩
    obtain ⟨b, o, rfl, hput⟩ := back_get A n c q t l w1 ((HR.out.below B1.out).wide B1.out.size) hc (by omega) h1 h8 hle
    have G2 := Lib.hid (get_ok _ n c q t l w1 w.heap.size (HR.out.below B1.out) h1 h8 (by omega) hc hle)
    have U := Lib.hid hput
    clear hput
    go_wp2_with fail
    refine (G2.out).mono ?_
    rintro e w2 ⟨rfl, rfl⟩
    go_wp2_with fail
    refine (U.out).mono ?_
    rintro e w2 ⟨v, rfl, hS, hB⟩
    have B2 := Lib.hid (B1.out.trans (hB.mono B1.out.size))
    have S := Lib.hid hS
    clear hS hB
    have hcq : ¬ c = q := by omega
    have e1 : ((q : Int) + (t : Int)).toNat = q + t := by omega
    have e2 : q + t - q = t := by omega
    go_wp2_with fail
    refine (S.out).mono ?_
    rintro e w3 ⟨rfl, k, rfl⟩
    go_wp2_with fail
    refine (known_yes _).mono ?_
    rintro e w7 ⟨rfl, hB7⟩
    have B7 := Lib.hid ((below_drewN B2.out k).trans (hB7.mono (show w.heap.size ≤ w2.heap.size from B2.out.size)))
    clear hB7
    go_wp2
    go_ret
    exact ⟨rfl, B7.out⟩
  · obtain ⟨t, rfl⟩ := Int.eq_ofNat_of_zero_le (show 0 ≤ s by have := hok.1; omega)
    have h1 := hok.1.1
    have h8 := hok.1.2
    rw [show putErr x t = 0 from if_pos hok, show putList l x t = l ++ putB x.toNat t by unfold putList; rw [if_pos hok, Int.toNat_natCast]] at P1
    have hq := hok.2
    rw [Int.toNat_natCast] at hq
    have Q := Lib.hid hq
    have P := Lib.hid P1
    have E := Lib.hid hge
    clear P1 hok hge hq
    go_enter Try.func4, Try.ntmps4
    go_wp2_with fail
    refine (P.out).mono ?_
    rintro e w1 ⟨v, rfl, ho, hB⟩
    obtain ⟨g, cap, rfl, hget⟩ := back_put n t x l v w.heap.size w1 HL.out (by omega) X0.out (by omega) (by omega) Q.out ho
    have B1 := Lib.hid hB
    have G := Lib.hid hget
    clear hget ho hB
    go_wp2_with fail
    refine (G.out).mono ?_
    rintro e w2 ⟨rfl, rfl⟩
    obtain ⟨z, hz, hget⟩ := back_err A n c l p t w1 w.heap.size (HR.out.below B1.out) hc (by omega) E.out
    have G2 := Lib.hid hget
    clear hget
    go_wp2_with fail
    refine (G2.out).mono ?_
    rintro e w2 ⟨rfl, rfl⟩
    go_wp2_with fail
    refine (known_yes _).mono ?_
    rintro e w7 ⟨rfl, hB7⟩
    have B7 := Lib.hid (B1.out.trans (hB7.mono B1.out.size))
    clear hB7
    go_wp2
    go_ret
    exact ⟨rfl, B7.out⟩
  · obtain ⟨q, t, rfl, rfl, h1, h8, hle⟩ := back_fits l p s hge
    rw [show putErr x t = 1 from if_neg hok] at P1
    rw [HL.out] at hle
    have P := Lib.hid P1
    clear P1 hok hge
    go_enter Try.func4, Try.ntmps4
    go_wp2_with fail
    refine (P.out).mono ?_
    rintro e w1 ⟨v, rfl, ho, hB⟩
    have B1 := Lib.hid hB
    clear ho hB
    obtain ⟨b, o, rfl, hput⟩ := back_get A n c q t l w1 ((HR.out.below B1.out).wide B1.out.size) hc (by omega) h1 h8 hle
    have G2 := Lib.hid (get_ok _ n c q t l w1 w.heap.size (HR.out.below B1.out) h1 h8 (by omega) hc hle)
    have U := Lib.hid hput
    clear hput
    go_wp2_with fail
    refine (G2.out).mono ?_
    rintro e w2 ⟨rfl, rfl⟩
    go_wp2_with fail
    refine (U.out).mono ?_
    rintro e w2 ⟨v, rfl, hS, hB⟩
    have B2 := Lib.hid (B1.out.trans (hB.mono B1.out.size))
    have S := Lib.hid hS
    clear hS hB
    have hcq : ¬ c = q := by omega
    have e1 : ((q : Int) + (t : Int)).toNat = q + t := by omega
    have e2 : q + t - q = t := by omega
    go_wp2_with fail
    refine (S.out).mono ?_
    rintro e w3 ⟨rfl, k, rfl⟩
    go_wp2_with fail
    refine (known_yes _).mono ?_
    rintro e w7 ⟨rfl, hB7⟩
    have B7 := Lib.hid ((below_drewN B2.out k).trans (hB7.mono (show w.heap.size ≤ w2.heap.size from B2.out.size)))
    clear hB7
    go_wp2
    go_ret
    exact ⟨rfl, B7.out⟩
  · rw [show putErr x s = 1 from if_neg hok] at P1
    have P := Lib.hid P1
    have E := Lib.hid hge
    clear P1 hok hge
    go_enter Try.func4, Try.ntmps4
    go_wp2_with fail
    refine (P.out).mono ?_
    rintro e w1 ⟨v, rfl, ho, hB⟩
    have B1 := Lib.hid hB
    clear ho hB
    obtain ⟨z, hz, hget⟩ := back_err A n c l p s w1 w.heap.size (HR.out.below B1.out) hc (by omega) E.out
    have G2 := Lib.hid hget
    clear hget
    go_wp2_with fail
    refine (G2.out).mono ?_
    rintro e w2 ⟨rfl, rfl⟩
    go_wp2_with fail
    refine (known_yes _).mono ?_
    rintro e w7 ⟨rfl, hB7⟩
    have B7 := Lib.hid (B1.out.trans (hB7.mono B1.out.size))
    clear hB7
    go_wp2
    go_ret
    exact ⟨rfl, B7.out⟩
end Go.Proofs.Ytamcoppfjmggcaa
