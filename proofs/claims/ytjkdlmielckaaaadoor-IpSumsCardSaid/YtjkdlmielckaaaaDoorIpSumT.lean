/-
  IpSums: bytes with their checksum behind come to 0; the order of pairs is of no matter.
-/
import Derived.Test.YtjkdlmielckaaaaDoorIpSum
import Derived.Deep.RegionHeld3
import Derived.Deep.RegionHeldLaw
import Derived.Deep.RegionLaw
namespace Go.Proofs.YtjkdlmielckaaaaDoor
open Go.RowKit
set_option maxRecDepth 100000
set_option maxHeartbeats 4000000
set_option linter.unusedSimpArgs false
set_option linter.unusedVariables false

/-- an append whose run is known, at a step of a region that draws its order -/
theorem step_app2 {w : World} {ops : Array Oper} {o : Oper} {a : Act} {K : Act → World → Prop} {Q : Exit → Act → World → Prop} {E : Prop} (hgd : o.guard = none) (s x : Operand)
    (ho : o.op = .call { callee := .builtin .append, args := #[s, x], argTypes := #[22, 22] }) (v u : Value) (hs : a.eval s = v) (hx : a.eval x = u)
    (v' : Value) (w2 : World) (hrun : (Builtin.append_ #[22, 22] o.type #[v, u]).run Tryd.prog w = .ok v' w2)
    (h : K (a.put o.dst v') w2) : if Region.wanted o (yielded ops a.tmps) = true then Oper.wp Tryd.prog o a w K Q else E := by
  have hw : Region.wanted o (yielded ops a.tmps) = true := by simp [Region.wanted, hgd]
  rw [if_pos hw]
  unfold Oper.wp execOp
  simp only [ho, resolve, invoke, builtin, Sem.run_bind, Sem.run_pure, Result.andThen_ok, List.map_toArray, List.map_cons, List.map_nil, hs, hx, hrun]
  exact h
theorem rd_two (w : World) (c d : UInt8) (x y : Int) (hx : x = (c.toNat : Int)) (hy : y = (d.toNat : Int)) :
    Rd (w.alloc (.cells #[.int .u8 x, .int .u8 y] 5)) (w.heap.size + 1) (some ⟨w.heap.size, 0, none⟩) 2 [c, d] := by
  subst hx hy
  refine ⟨rfl, fun _ => ⟨w.heap.size, 0, rfl, by omega, fun j hj => ?_⟩⟩
  have h := (blk_new w 5 [.int .u8 (c.toNat : Int), .int .u8 (d.toNat : Int)]).cell j
  rw [Nat.zero_add]
  rcases (show j = 0 ∨ j = 1 by omega) with rfl | rfl <;> exact h
/-- two more bytes -/
theorem own_two {w : World} {base : Nat} {v : Value} {l : List UInt8} (W : World) (hW : Below w.heap.size w W) (hb : base = w.heap.size) (ho : Own W base v l) (a b : UInt8) (x y : Int)
    (hx : x = (a.toNat : Int)) (hy : y = (b.toNat : Int)) (hl : l.length ≤ 140737488355326) :
    ∃ v2 w2, (Builtin.append_ #[22, 22] 22 #[v, .slice (some ⟨W.heap.size, 0, none⟩) 2 2]).run Tryd.prog (W.alloc (.cells #[.int .u8 x, .int .u8 y] 5)) = .ok v2 w2 ∧ Own w2 base v2 (l ++ [a, b]) ∧ Below w.heap.size w w2 := by
  subst hb
  have hsz := hW.size
  obtain ⟨v2, w2, r2, o2, g2, b2⟩ := append_run (ho.alloc (.cells #[.int .u8 x, .int .u8 y] 5)) 2 (rd_two W _ _ x y hx hy) (by simp) (by omega) (by simp; omega)
  exact ⟨v2, w2, r2, o2, (hW.alloc hsz _).grown g2 (by simp; omega) (fun j hj => (ho.block j hj).1)⟩
theorem byte_hi (z : Nat) (h : z ≤ 65535) : (UInt8.ofNat (z / 256)).toNat = z / 256 := by simp; omega
theorem byte_lo (z : Nat) : (UInt8.ofNat (z % 256)).toNat = z % 256 := by simp


/-- the world behind the sum, c's two appends -/
structure SuA (w : World) (A : Option Addr) (m c : Nat) (l : List UInt8) (z : Nat) (v1 : Value) (w1 : World) (v2 : Value) (w2 : World) : Prop where
  run1 : (Builtin.append_ #[22, 22] 22 #[.slice none 0 0, .slice A m c]).run Tryd.prog w = .ok v1 w1
  run2 : (Builtin.append_ #[22, 22] 22 #[v1, .slice (some ⟨w1.heap.size, 0, none⟩) 2 2]).run Tryd.prog (w1.alloc (.cells #[.int .u8 ((z : Int) / 256), .int .u8 ((z : Int) % 256)] 5)) = .ok v2 w2
  own : Own w2 w.heap.size v2 (l ++ [UInt8.ofNat (z / 256), UInt8.ofNat (z % 256)])
  below : Below w.heap.size w w2
theorem su_a {w : World} {A : Option Addr} {m c : Nat} {l : List UInt8} (hr : Rd w w.heap.size A m l) (hA : A = none → c = 0) (hm : m ≤ 140737488351232) (z : Nat) (hz : z ≤ 65535) : ∃ v1 w1 v2 w2, SuA w A m c l z v1 w1 v2 w2 := by
  have hl := hr.1
  obtain ⟨v1, w1, r1, o1, g1, b1⟩ := append_run (Own.nil w w.heap.size) c hr hA (by simp; omega) (Nat.le_refl _)
  have B1 : Below w.heap.size w w1 := (Below.refl _ _).grown g1 (Nat.le_refl _) (by simp [Value.ownBlock])
  obtain ⟨v2, w2, r2, o2, b2⟩ := own_two w1 B1 rfl o1 (UInt8.ofNat (z / 256)) (UInt8.ofNat (z % 256)) ((z : Int) / 256) ((z : Int) % 256) (by rw [byte_hi z hz]; omega) (by rw [byte_lo z]; omega) (by simp; omega)
  exact ⟨v1, w1, v2, w2, r1, r2, by simpa using o2, b2⟩

theorem ipsums_even (m p : Nat) (A : Option Addr) (c : Nat) (l : List UInt8) (t : Int) (w : World) (AW : Hid (∀ W, Calls Tryd.prog 8 #[] W fun e w' => e = .returned (.bool true) ∧ Below W.heap.size W w'))
    (hr : Rd w w.heap.size A m l) (hA : A = none → c = 0) (hnc : m ≤ c) (hn : m ≤ 140737488351232) (hp : m = 2 * p)
    (ht0 : -9223372036854775808 ≤ t) (ht1 : t ≤ 9223372036854775807) :
    Calls Tryd.prog 6 #[.slice A m c, .int .i64 t] w fun e w' => e = .returned (.bool true) ∧ Below w.heap.size w w' := by
  have S0 := Lib.hid (ipSum_any A m c _ l w hr (by omega))
  have HR := Lib.hid hr
  have HL : Hid (l.length = m) := Lib.hid (by have := hr.1; omega)
  obtain ⟨z, hz⟩ : ∃ z, z = sumZ l := ⟨_, rfl⟩
  have hz1 : z ≤ 65535 := by rw [hz]; exact sumZ_le l
  obtain ⟨v1, w1, v2, w2, K⟩ := su_a hr hA hn z hz1
  rw [← hz] at S0
  have HZ := Lib.hid hz
  clear hz hr
  have R1 := Lib.hid K.run1
  have R2 := Lib.hid K.run2
  have O2 := Lib.hid K.own
  have B2 := Lib.hid K.below
  clear K
  have hm2 : (m : Int).tmod 2 = 0 := by rw [Int.tmod_eq_emod_of_nonneg (by omega)]; omega
  have hmp : (m : Int).tdiv 2 = (p : Int) := by rw [Int.tdiv_eq_ediv_of_nonneg (by omega)]; omega
  have hm2' : (m : Int) % 2 = 0 := by omega
  have hmp' : (m : Int) / 2 = (p : Int) := by omega
  have HP := Lib.hid hp
  clear hp
  go_enter Tryd.func6, Tryd.ntmps6
  go_wp2_with (first
    | (go_at_call 11; (with_reducible refine (S0.out).mono ?_); rintro e w' ⟨rfl, rfl⟩)
    | (at_builtin; refine wpList_app rfl (.tmp 22) (.tmp 23) rfl _ _ rfl rfl _ _ R1.out ?_)
    | (at_builtin; refine wpList_app rfl (.tmp 25) (.tmp 31) rfl _ _ rfl rfl _ _ R2.out ?_))
  go_loopw [7, 9] (fun v i wr => ∃ k : Nat, i = .int .i64 k ∧ k ≤ p ∧ Hid (Own wr w2.heap.size v (turnK l p (t % (p : Int)).toNat k)) ∧ Hid (Below w2.heap.size w2 wr)) (fun _ i _ => p - (intOf i).toNat)
  case atStart => exact ⟨0, rfl, by omega, Own.nil _ _, Below.refl _ _⟩
  case round =>
    rename_i wr
    obtain ⟨k, rfl, hk, ho, hB⟩ := hrel
    by_cases hkn : k < p
    · have BB : Below w.heap.size w wr := B2.out.trans (hB.out.mono B2.out.size)
      obtain ⟨b, o, rfl, hb, hcell⟩ := (HR.out.below BB).2 (by have := HP.out; omega)
      have hp0 : 0 < p := by omega
      have q0 : ((p : Int) == 0) = false := by simp; omega
      have q1 : (p : Int) ≠ 0 := by omega
      obtain ⟨r, e1⟩ : ∃ r, t.tmod (p : Int) = r := ⟨_, rfl⟩
      have r0 : -(p : Int) < r := by rw [← e1]; exact Int.lt_tmod_of_pos _ (by omega)
      have r1 : r < p := by rw [← e1]; exact Int.tmod_lt_of_pos _ (by omega)
      obtain ⟨s, e2⟩ : ∃ s, ((k : Int) + r).tmod (p : Int) = s := ⟨_, rfl⟩
      have s0 : -(p : Int) < s := by rw [← e2]; exact Int.lt_tmod_of_pos _ (by omega)
      have s1 : s < p := by rw [← e2]; exact Int.tmod_lt_of_pos _ (by omega)
      obtain ⟨kk, hkk⟩ : ∃ kk, kk = (k + (t % (p : Int)).toNat) % p := ⟨_, rfl⟩
      have e3 : (s + (p : Int)).tmod (p : Int) = (kk : Int) := by
        have h := turn_at k p t hp0
        rw [e1, e2] at h
        rw [h, hkk]
      have k1 : kk < p := by rw [hkk]; exact Nat.mod_lt _ hp0
      have c1 := hcell (2 * kk) (by have := HP.out; omega)
      have c2 := hcell (2 * kk + 1) (by have := HP.out; omega)
      have x0 := byteAt_lo l (2 * kk)
      have x1 := byteAt_hi l (2 * kk)
      have y0 := byteAt_lo l (2 * kk + 1)
      have y1 := byteAt_hi l (2 * kk + 1)
      have g1 : byteAt l (2 * kk) = ((l[2 * kk]?.getD 0).toNat : Int) := by simp [byteAt]
      have g2 : byteAt l (2 * kk + 1) = ((l[2 * kk + 1]?.getD 0).toNat : Int) := by simp [byteAt]
      have hlen := turnK_length l p (t % (p : Int)).toNat k
      obtain ⟨v3, w3, r3, o3, b3⟩ := own_two (w := w2) wr.drew (below_drewN hB.out 1) rfl ho.out (l[2 * kk]?.getD 0) (l[2 * kk + 1]?.getD 0) _ _ g1 g2 (by have := HP.out; omega)
      have ek : turnK l p (t % (p : Int)).toNat (k + 1) = turnK l p (t % (p : Int)).toNat k ++ [l[2 * kk]?.getD 0, l[2 * kk + 1]?.getD 0] := by rw [hkk]; rfl
      rw [← ek] at o3
      obtain ⟨x, hx⟩ : ∃ x, byteAt l (2 * kk) = x := ⟨_, rfl⟩
      obtain ⟨y, hy⟩ : ∃ y, byteAt l (2 * kk + 1) = y := ⟨_, rfl⟩
      rw [hx] at c1 x0 x1 r3
      rw [hy] at c2 y0 y1 r3
      have R3 := Lib.hid r3
      have O3 := Lib.hid o3
      have B3 := Lib.hid b3
      have HM : 2 * (kk : Int) + 1 < (m : Int) := by have := HP.out; omega
      clear hb hcell g1 g2 hlen r3 o3 b3 ek hx hy hkk ho hB BB
      have hn1 : 2 * kk + 1 < m := by omega
      have hn2 : 2 * kk < m := by omega
      have wr1 : IntKind.i64.wrap (2 * (kk : Int)) = 2 * (kk : Int) := by rw [IntKind.wrap_i64]; omega
      have wr2 : IntKind.i64.wrap (2 * (kk : Int) + 1) = 2 * (kk : Int) + 1 := by rw [IntKind.wrap_i64]; omega
      have b1 : 0 ≤ 2 * (kk : Int) := by omega
      have b2 : 2 * (kk : Int) < (m : Int) := by omega
      have b3 : 0 ≤ 2 * (kk : Int) + 1 := by omega
      have b5 : (2 * (kk : Int)).toNat = 2 * kk := by omega
      have b6 : (2 * (kk : Int) + 1).toNat = 2 * kk + 1 := by omega
      go_wp2
      go_region_law (refine step_app2 rfl (.tmp 52) (.tmp 64) rfl _ _ rfl rfl _ _ R3.out ?_)
      all_goals go_wp2
      all_goals go_roundw
      all_goals first
        | exact ⟨k + 1, by go_num, by omega, O3, B3⟩
        | (simp [intOf]; omega)
    · have e : k = p := by omega
      subst e
      have OD := own_later ho.out (Below.refl _ _)
      obtain ⟨D, cd, rfl, hD⟩ := OD
      obtain ⟨C, cc, rfl, hC⟩ := own_later O2.out hB.out
      have lD : (turnK l k (t % (k : Int)).toNat k).length = m := by rw [turnK_length]; have := HP.out; omega
      have lC : (l ++ [UInt8.ofNat (z / 256), UInt8.ofNat (z % 256)]).length = m + 2 := by simp; have := HL.out; omega
      rw [lD] at hD
      rw [lC] at hC
      have SC := Lib.hid (ipSum_any C (m + 2) cc _ _ wr hC (by omega))
      have SD := Lib.hid (ipSum_any D m cd _ _ wr hD (by omega))
      rw [sumZ_behind l (by have := HL.out; have := HP.out; omega) _ _ (by rw [byte_hi z hz1, HZ.out]) (by rw [byte_lo z, HZ.out])] at SC
      rw [sumZ_turn l k (t % (k : Int)).toNat (by have := HL.out; have := HP.out; omega), ← HZ.out] at SD
      have BB := Lib.hid (B2.out.trans (hB.out.mono B2.out.size))
      rw [lD, lC]
      clear lD lC hD hC ho hB
      go_wp2_with (first
        | (go_at_call 11; first
            | ((with_reducible refine (SC.out).mono ?_); rintro e w' ⟨rfl, rfl⟩)
            | ((with_reducible refine (SD.out).mono ?_); rintro e w' ⟨rfl, rfl⟩))
        | (go_at_call 8; (with_reducible refine (AW.out _).mono ?_); rintro e w4 ⟨rfl, HB4⟩))
      have HE := Lib.hid (BB.out.trans (HB4.mono BB.out.size))
      clear HB4
      go_ret
      exact ⟨rfl, HE.out⟩
theorem ipsums_odd (n m p b0 o0 : Nat) (c : Nat) (l : List UInt8) (t : Int) (w : World) (AW : Hid (∀ W, Calls Tryd.prog 8 #[] W fun e w' => e = .returned (.bool true) ∧ Below W.heap.size W w'))
    (hr : Rd w w.heap.size (some ⟨b0, o0, none⟩) m l) (hnm : n = m + 1) (hnc : n ≤ c) (hn : m ≤ 140737488351232) (hp : m = 2 * p)
    (ht0 : -9223372036854775808 ≤ t) (ht1 : t ≤ 9223372036854775807) :
    Calls Tryd.prog 6 #[.slice (some ⟨b0, o0, none⟩) n c, .int .i64 t] w fun e w' => e = .returned (.bool true) ∧ Below w.heap.size w w' := by
  have S0 := Lib.hid (ipSum_any (some ⟨b0, o0, none⟩) m c _ l w hr (by omega))
  have HR := Lib.hid hr
  have HL : Hid (l.length = m) := Lib.hid (by have := hr.1; omega)
  obtain ⟨z, hz⟩ : ∃ z, z = sumZ l := ⟨_, rfl⟩
  have hz1 : z ≤ 65535 := by rw [hz]; exact sumZ_le l
  obtain ⟨v1, w1, v2, w2, K⟩ := su_a (c := c) hr (by simp) hn z hz1
  rw [← hz] at S0
  have HZ := Lib.hid hz
  clear hz hr
  have R1 := Lib.hid K.run1
  have R2 := Lib.hid K.run2
  have O2 := Lib.hid K.own
  have B2 := Lib.hid K.below
  clear K
  have hm2 : (m : Int).tmod 2 = 0 := by rw [Int.tmod_eq_emod_of_nonneg (by omega)]; omega
  have hmp : (m : Int).tdiv 2 = (p : Int) := by rw [Int.tdiv_eq_ediv_of_nonneg (by omega)]; omega
  have hm2' : (m : Int) % 2 = 0 := by omega
  have hmp' : (m : Int) / 2 = (p : Int) := by omega
  have HP := Lib.hid hp
  clear hp
  have ho2 : (n : Int).tmod 2 = 1 := by rw [Int.tmod_eq_emod_of_nonneg (by omega)]; have := HP.out; omega
  have ho3 : (n : Int) % 2 = 1 := by have := HP.out; omega
  have hx1 : (n : Int) - 1 = (m : Int) := by omega
  have hx2 : (m : Int) ≤ (c : Int) := by omega
  have hx4 : m ≤ c := by omega
  have hx3 : ¬ (c = 0) := by omega
  have HNM := Lib.hid hnm
  clear hnm
  go_enter Tryd.func6, Tryd.ntmps6
  go_wp2_with (first
    | (go_at_call 11; (with_reducible refine (S0.out).mono ?_); rintro e w' ⟨rfl, rfl⟩)
    | (at_builtin; refine wpList_app rfl (.tmp 22) (.tmp 23) rfl _ _ rfl rfl _ _ R1.out ?_)
    | (at_builtin; refine wpList_app rfl (.tmp 25) (.tmp 31) rfl _ _ rfl rfl _ _ R2.out ?_))
  go_loopw [7, 9] (fun v i wr => ∃ k : Nat, i = .int .i64 k ∧ k ≤ p ∧ Hid (Own wr w2.heap.size v (turnK l p (t % (p : Int)).toNat k)) ∧ Hid (Below w2.heap.size w2 wr)) (fun _ i _ => p - (intOf i).toNat)
  case atStart => exact ⟨0, rfl, by omega, Own.nil _ _, Below.refl _ _⟩
  case round =>
    rename_i wr
    obtain ⟨k, rfl, hk, ho, hB⟩ := hrel
    by_cases hkn : k < p
    · have BB : Below w.heap.size w wr := B2.out.trans (hB.out.mono B2.out.size)
      obtain ⟨b, o, hbo, hb, hcell⟩ := (HR.out.below BB).2 (by have := HP.out; omega)
      cases hbo
      have hp0 : 0 < p := by omega
      have q0 : ((p : Int) == 0) = false := by simp; omega
      have q1 : (p : Int) ≠ 0 := by omega
      obtain ⟨r, e1⟩ : ∃ r, t.tmod (p : Int) = r := ⟨_, rfl⟩
      have r0 : -(p : Int) < r := by rw [← e1]; exact Int.lt_tmod_of_pos _ (by omega)
      have r1 : r < p := by rw [← e1]; exact Int.tmod_lt_of_pos _ (by omega)
      obtain ⟨s, e2⟩ : ∃ s, ((k : Int) + r).tmod (p : Int) = s := ⟨_, rfl⟩
      have s0 : -(p : Int) < s := by rw [← e2]; exact Int.lt_tmod_of_pos _ (by omega)
      have s1 : s < p := by rw [← e2]; exact Int.tmod_lt_of_pos _ (by omega)
      obtain ⟨kk, hkk⟩ : ∃ kk, kk = (k + (t % (p : Int)).toNat) % p := ⟨_, rfl⟩
      have e3 : (s + (p : Int)).tmod (p : Int) = (kk : Int) := by
        have h := turn_at k p t hp0
        rw [e1, e2] at h
        rw [h, hkk]
      have k1 : kk < p := by rw [hkk]; exact Nat.mod_lt _ hp0
      have c1 := hcell (2 * kk) (by have := HP.out; omega)
      have c2 := hcell (2 * kk + 1) (by have := HP.out; omega)
      have x0 := byteAt_lo l (2 * kk)
      have x1 := byteAt_hi l (2 * kk)
      have y0 := byteAt_lo l (2 * kk + 1)
      have y1 := byteAt_hi l (2 * kk + 1)
      have g1 : byteAt l (2 * kk) = ((l[2 * kk]?.getD 0).toNat : Int) := by simp [byteAt]
      have g2 : byteAt l (2 * kk + 1) = ((l[2 * kk + 1]?.getD 0).toNat : Int) := by simp [byteAt]
      have hlen := turnK_length l p (t % (p : Int)).toNat k
      obtain ⟨v3, w3, r3, o3, b3⟩ := own_two (w := w2) wr.drew (below_drewN hB.out 1) rfl ho.out (l[2 * kk]?.getD 0) (l[2 * kk + 1]?.getD 0) _ _ g1 g2 (by have := HP.out; omega)
      have ek : turnK l p (t % (p : Int)).toNat (k + 1) = turnK l p (t % (p : Int)).toNat k ++ [l[2 * kk]?.getD 0, l[2 * kk + 1]?.getD 0] := by rw [hkk]; rfl
      rw [← ek] at o3
      obtain ⟨x, hx⟩ : ∃ x, byteAt l (2 * kk) = x := ⟨_, rfl⟩
      obtain ⟨y, hy⟩ : ∃ y, byteAt l (2 * kk + 1) = y := ⟨_, rfl⟩
      rw [hx] at c1 x0 x1 r3
      rw [hy] at c2 y0 y1 r3
      have R3 := Lib.hid r3
      have O3 := Lib.hid o3
      have B3 := Lib.hid b3
      have HM : 2 * (kk : Int) + 1 < (m : Int) := by have := HP.out; omega
      clear hb hcell g1 g2 hlen r3 o3 b3 ek hx hy hkk ho hB BB
      have hn1 : 2 * kk + 1 < m := by omega
      have hn2 : 2 * kk < m := by omega
      have wr1 : IntKind.i64.wrap (2 * (kk : Int)) = 2 * (kk : Int) := by rw [IntKind.wrap_i64]; omega
      have wr2 : IntKind.i64.wrap (2 * (kk : Int) + 1) = 2 * (kk : Int) + 1 := by rw [IntKind.wrap_i64]; omega
      have b1 : 0 ≤ 2 * (kk : Int) := by omega
      have b2 : 2 * (kk : Int) < (m : Int) := by omega
      have b3 : 0 ≤ 2 * (kk : Int) + 1 := by omega
      have b5 : (2 * (kk : Int)).toNat = 2 * kk := by omega
      have b6 : (2 * (kk : Int) + 1).toNat = 2 * kk + 1 := by omega
      go_wp2
      go_region_law (refine step_app2 rfl (.tmp 52) (.tmp 64) rfl _ _ rfl rfl _ _ R3.out ?_)
      all_goals go_wp2
      all_goals go_roundw
      all_goals first
        | exact ⟨k + 1, by go_num, by omega, O3, B3⟩
        | (simp [intOf]; omega)
    · have e : k = p := by omega
      subst e
      have OD := own_later ho.out (Below.refl _ _)
      obtain ⟨D, cd, rfl, hD⟩ := OD
      obtain ⟨C, cc, rfl, hC⟩ := own_later O2.out hB.out
      have lD : (turnK l k (t % (k : Int)).toNat k).length = m := by rw [turnK_length]; have := HP.out; omega
      have lC : (l ++ [UInt8.ofNat (z / 256), UInt8.ofNat (z % 256)]).length = m + 2 := by simp; have := HL.out; omega
      rw [lD] at hD
      rw [lC] at hC
      have SC := Lib.hid (ipSum_any C (m + 2) cc _ _ wr hC (by omega))
      have SD := Lib.hid (ipSum_any D m cd _ _ wr hD (by omega))
      rw [sumZ_behind l (by have := HL.out; have := HP.out; omega) _ _ (by rw [byte_hi z hz1, HZ.out]) (by rw [byte_lo z, HZ.out])] at SC
      rw [sumZ_turn l k (t % (k : Int)).toNat (by have := HL.out; have := HP.out; omega), ← HZ.out] at SD
      have BB := Lib.hid (B2.out.trans (hB.out.mono B2.out.size))
      rw [lD, lC]
      clear lD lC hD hC ho hB
      go_wp2_with (first
        | (go_at_call 11; first
            | ((with_reducible refine (SC.out).mono ?_); rintro e w' ⟨rfl, rfl⟩)
            | ((with_reducible refine (SD.out).mono ?_); rintro e w' ⟨rfl, rfl⟩))
        | (go_at_call 8; (with_reducible refine (AW.out _).mono ?_); rintro e w4 ⟨rfl, HB4⟩))
      have HE := Lib.hid (BB.out.trans (HB4.mono BB.out.size))
      clear HB4
      go_ret
      exact ⟨rfl, HE.out⟩
end Go.Proofs.YtjkdlmielckaaaaDoor
