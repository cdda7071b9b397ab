/-
  tetherlaw02.FcsLinear is true, whatever it is asked, and writes nothing that was there.
-/
import Derived.Test.YtdnheiefbecaeaaDoorAwake
import Derived.LoopTactic
import Derived.Laws.BitsAllLaws
import Derived.StillTailTactics
import Derived.Deep.RegionHeld3
import Derived.Deep.RegionHeldLaw
import Derived.Deep.RegionLaw
import Derived.Deep.Light
import Derived.Lib.QuietBelow
namespace Go.Proofs.YtdnheiefbecaeaaDoor
open Go.RowKit
set_option maxRecDepth 100000
set_option maxHeartbeats 2000000
set_option linter.unusedSimpArgs false
set_option linter.unusedVariables false

theorem Rd.head {w : World} {B n k : Nat} {A : Option Addr} {l : List UInt8} (h : Rd w B A n l) (hk : k ≤ n) : Rd w B A k (l.take k) := by
  have hl := h.1
  refine ⟨by rw [List.length_take]; omega, fun h0 => ?_⟩
  obtain ⟨b, off, rfl, hb, hc⟩ := h.2 (by omega)
  refine ⟨b, off, rfl, hb, fun j hj => ?_⟩
  rw [hc j (by omega)]
  congr 2
  unfold byteAt
  rw [List.getD_eq_getElem?_getD, List.getD_eq_getElem?_getD, List.getElem?_take_of_lt hj]
theorem rd_one_l (w : World) (c : UInt8) (x : Int) (hx : x = (c.toNat : Int)) : Rd (w.alloc (.cells #[.int .u8 x] 5)) (w.heap.size + 1) (some ⟨w.heap.size, 0, none⟩) 1 [c] := by
  subst hx
  exact rd_built w [c] (0, 0)
theorem own_form_rd_l {w : World} {base : Nat} {v : Value} {l : List UInt8} (h : Own w base v l) :
    ∃ A c, v = .slice A l.length c ∧ Rd w w.heap.size A l.length l ∧ l.length ≤ c := by
  rcases h.form with ⟨rfl, rfl⟩ | ⟨g, cap, rfl, _, _, hc⟩
  · exact ⟨none, 0, rfl, Rd.nil, Nat.le_refl _⟩
  · have h2 := h.rd rfl l.length (Nat.le_refl _)
    rw [List.take_of_length_le (Nat.le_refl _)] at h2
    exact ⟨some ⟨g, 0, none⟩, cap, rfl, h2, hc⟩
theorem awake_behind_l (w : World) (h16 : Tab16 w) (h32 : Tab32 w) :
    ∀ W, Below w.heap.size w W → Calls Tryd.prog 32 #[] W fun e w' => e = .returned (.bool true) ∧ Below W.heap.size W w' := by
  intro W hB
  exact awake_yes W (h16.kept hB) (h32.kept hB)
theorem zip_next (a b : List UInt8) (k : Nat) (ha : k < a.length) (hb : k < b.length) :
    (List.zipWith (· ^^^ ·) a b).take (k + 1) = (List.zipWith (· ^^^ ·) a b).take k ++ [a.getD k 0 ^^^ b.getD k 0] := by
  rw [List.take_add_one]
  congr 1
  rw [List.getElem?_zipWith, List.getElem?_eq_getElem ha, List.getElem?_eq_getElem hb]
  simp [List.getD_eq_getElem?_getD, List.getElem?_eq_getElem ha, List.getElem?_eq_getElem hb]
theorem xor_u8 (a b : UInt8) : bits .xor .u8 (a.toNat : Int) (b.toNat : Int) = ((a ^^^ b).toNat : Int) := by
  have h := a.toNat_lt
  have h' := b.toNat_lt
  have h2 := u8_xor (a.toNat : Int) (b.toNat : Int) (by omega) (by omega) (by omega) (by omega)
  rw [h2]
  simp

/-- an append whose run is known, at a step of a region that draws its order -/
theorem step_app {w : World} {ops : Array Oper} {o : Oper} {a : Act} {K : Act → World → Prop} {Q : Exit → Act → World → Prop} {E : Prop} (hgd : o.guard = none) (s x : Operand)
    (ho : o.op = .call { callee := .builtin .append, args := #[s, x], argTypes := #[22, 22] }) (v u : Value) (hs : a.eval s = v) (hx : a.eval x = u)
    (v' : Value) (w2 : World) (hrun : (Builtin.append_ #[22, 22] o.type #[v, u]).run Tryd.prog w = .ok v' w2)
    (h : K (a.put o.dst v') w2) : if Region.wanted o (yielded ops a.tmps) = true then Oper.wp Tryd.prog o a w K Q else E := by
  have hw : Region.wanted o (yielded ops a.tmps) = true := by simp [Region.wanted, hgd]
  rw [if_pos hw]
  unfold Oper.wp execOp
  simp only [ho, resolve, invoke, builtin, Sem.run_bind, Sem.run_pure, Result.andThen_ok, List.map_toArray, List.map_cons, List.map_nil, hs, hx, hrun]
  exact h

/-- what the region's calls keep -/
structure Inv (w : World) (v : Value) (L : List UInt8) (W : World) : Prop where
  own : Own W w.heap.size v L
  below : Below w.heap.size w W
theorem Inv.on {w W W' : World} {v : Value} {L : List UInt8} (h : Inv w v L W) (hB : Below W.heap.size W W') : Inv w v L W' := ⟨h.own.later hB, h.below.trans (hB.mono h.below.size)⟩

theorem fcslinear_walk (A D : Option Addr) (n c m d N : Nat) (la lb : List UInt8) (r s p q : Int) (w : World) (hra : Rd w w.heap.size A n la) (hca : n ≤ c) (hc : c ≤ 140737488351232) (hrb : Rd w w.heap.size D m lb) (hcb : m ≤ d) (hd : d ≤ 140737488351232)
    (hr0 : 0 ≤ r) (hr1 : r ≤ 65535) (hs0 : 0 ≤ s) (hs1 : s ≤ 65535) (hp0 : 0 ≤ p) (hp1 : p ≤ 4294967295) (hq0 : 0 ≤ q) (hq1 : q ≤ 4294967295) (h16 : Tab16 w) (h32 : Tab32 w)
    (hN : (N = m ∧ m < n) ∨ (N = n ∧ ¬ m < n)) :
    Calls Tryd.prog 6 #[.slice A n c, .slice D m d, .int .u16 r, .int .u16 s, .int .u32 p, .int .u32 q] w fun e w' => e = .returned (.bool true) ∧ Below w.heap.size w w' := by
  have hNn : N ≤ n := by omega
  have hNm : N ≤ m := by omega
  have AW := Lib.hid (awake_behind_l w h16 h32)
  have T16 := Lib.hid h16
  have T32 := Lib.hid h32
  have RA := Lib.hid (hra.head hNn)
  have RB := Lib.hid (hrb.head hNm)
  obtain ⟨l1, hl1⟩ : ∃ l1, l1 = la.take N := ⟨_, rfl⟩
  obtain ⟨l2, hl2⟩ : ∃ l2, l2 = lb.take N := ⟨_, rfl⟩
  rw [← hl1] at RA
  rw [← hl2] at RB
  have L1 : Hid (l1.length = N) := RA.out.1
  have L2 : Hid (l2.length = N) := RB.out.1
  clear hra hrb hl1 hl2 h16 h32
  obtain ⟨R, hR⟩ : ∃ R : Nat, r = (R : Int) := ⟨r.toNat, by omega⟩
  obtain ⟨S, hS⟩ : ∃ S : Nat, s = (S : Int) := ⟨s.toNat, by omega⟩
  obtain ⟨P, hP⟩ : ∃ P : Nat, p = (P : Int) := ⟨p.toNat, by omega⟩
  obtain ⟨Q, hQ⟩ : ∃ Q : Nat, q = (Q : Int) := ⟨q.toNat, by omega⟩
  have hR2 : R < 2 ^ 16 := by omega
  have hS2 : S < 2 ^ 16 := by omega
  have hP2 : P < 2 ^ 32 := by omega
  have hQ2 : Q < 2 ^ 32 := by omega
  have ex16 := crc_xor P16 l1 l2 R S (by rw [L1.out, L2.out])
  have ex32 := crc_xor P32 l1 l2 P Q (by rw [L1.out, L2.out])
  obtain ⟨L, hL⟩ : ∃ L, L = List.zipWith (· ^^^ ·) l1 l2 := ⟨_, rfl⟩
  rw [← hL] at ex16 ex32
  have LL : Hid (L.length = N) := by show _ = _; rw [hL, List.length_zipWith, L1.out, L2.out, Nat.min_self]
  have NX : Hid (∀ k, k < N → L.take (k + 1) = L.take k ++ [l1.getD k 0 ^^^ l2.getD k 0]) := by
    show ∀ k, _ → _
    intro k hk
    rw [hL]
    exact zip_next l1 l2 k (by rw [L1.out]; exact hk) (by rw [L2.out]; exact hk)
  obtain ⟨rs, hrs⟩ : ∃ z : Int, z = ((R ^^^ S : Nat) : Int) := ⟨_, rfl⟩
  obtain ⟨pq, hpq⟩ : ∃ z : Int, z = ((P ^^^ Q : Nat) : Int) := ⟨_, rfl⟩
  have x1 : bits .xor .u16 r s = rs := by rw [hR, hS, hrs]; exact xor_int16 R S hR2 hS2
  have x2 : bits .xor .u32 p q = pq := by rw [hP, hQ, hpq]; exact xor_int32 P Q hP2 hQ2
  have hRS2 : R ^^^ S < 2 ^ 16 := Nat.xor_lt_two_pow hR2 hS2
  have hPQ2 : P ^^^ Q < 2 ^ 32 := Nat.xor_lt_two_pow hP2 hQ2
  obtain ⟨t1, ht1⟩ : ∃ z : Int, z = ((crc P16 (R ^^^ S) L : Nat) : Int) := ⟨_, rfl⟩
  obtain ⟨t2, ht2⟩ : ∃ z : Int, z = ((crc P16 R l1 : Nat) : Int) := ⟨_, rfl⟩
  obtain ⟨t3, ht3⟩ : ∃ z : Int, z = ((crc P16 S l2 : Nat) : Int) := ⟨_, rfl⟩
  obtain ⟨u1, hu1⟩ : ∃ z : Int, z = ((crc P32 (P ^^^ Q) L : Nat) : Int) := ⟨_, rfl⟩
  obtain ⟨u2, hu2⟩ : ∃ z : Int, z = ((crc P32 P l1 : Nat) : Int) := ⟨_, rfl⟩
  obtain ⟨u3, hu3⟩ : ∃ z : Int, z = ((crc P32 Q l2 : Nat) : Int) := ⟨_, rfl⟩
  have x3 : bits .xor .u16 t2 t3 = t1 := by rw [ht2, ht3, ht1, ex16]; exact xor_int16 _ _ (crc16_lt _ _ hR2) (crc16_lt _ _ hS2)
  have x4 : bits .xor .u32 u2 u3 = u1 := by rw [hu2, hu3, hu1, ex32]; exact xor_int32 _ _ (crc32_lt _ _ hP2) (crc32_lt _ _ hQ2)
  have e1 : (t1 == t1) = true := by simp
  have e2 : (u1 == u1) = true := by simp
  -- the calls
  have C2 : Hid (∀ V W, Inv w V L W → Calls Tryd.prog 35 #[.int .u16 r, .slice A N c] W fun e w' => e = .returned (.int .u16 t2) ∧ Below W.heap.size W w') := by
    show ∀ V W, _ → Calls _ _ _ W _
    intro V W hI
    have hB := hI.below
    rw [hR, ht2]
    refine (on16_any A N c R _ l1 W (RA.out.below hB) (by omega) (by unfold maxLen; omega) hR2 (T16.out.kept hB)).mono ?_
    rintro e w' ⟨rfl, k, rfl⟩
    exact ⟨rfl, below_drewN (Below.refl _ _) k⟩
  have C3 : Hid (∀ V W, Inv w V L W → Calls Tryd.prog 35 #[.int .u16 s, .slice D N d] W fun e w' => e = .returned (.int .u16 t3) ∧ Below W.heap.size W w') := by
    show ∀ V W, _ → Calls _ _ _ W _
    intro V W hI
    have hB := hI.below
    rw [hS, ht3]
    refine (on16_any D N d S _ l2 W (RB.out.below hB) (by omega) (by unfold maxLen; omega) hS2 (T16.out.kept hB)).mono ?_
    rintro e w' ⟨rfl, k, rfl⟩
    exact ⟨rfl, below_drewN (Below.refl _ _) k⟩
  have C5 : Hid (∀ V W, Inv w V L W → Calls Tryd.prog 36 #[.int .u32 p, .slice A N c] W fun e w' => e = .returned (.int .u32 u2) ∧ Below W.heap.size W w') := by
    show ∀ V W, _ → Calls _ _ _ W _
    intro V W hI
    have hB := hI.below
    rw [hP, hu2]
    refine (on32_any A N c P _ l1 W (RA.out.below hB) (by omega) (by unfold maxLen; omega) hP2 (T32.out.kept hB)).mono ?_
    rintro e w' ⟨rfl, k, rfl⟩
    exact ⟨rfl, below_drewN (Below.refl _ _) k⟩
  have C6 : Hid (∀ V W, Inv w V L W → Calls Tryd.prog 36 #[.int .u32 q, .slice D N d] W fun e w' => e = .returned (.int .u32 u3) ∧ Below W.heap.size W w') := by
    show ∀ V W, _ → Calls _ _ _ W _
    intro V W hI
    have hB := hI.below
    rw [hQ, hu3]
    refine (on32_any D N d Q _ l2 W (RB.out.below hB) (by omega) (by unfold maxLen; omega) hQ2 (T32.out.kept hB)).mono ?_
    rintro e w' ⟨rfl, k, rfl⟩
    exact ⟨rfl, below_drewN (Below.refl _ _) k⟩
  have C1 : Hid (∀ v W, Inv w v L W → Calls Tryd.prog 35 #[.int .u16 rs, v] W fun e w' => e = .returned (.int .u16 t1) ∧ Below W.heap.size W w') := by
    show ∀ v W, _ → Calls _ _ _ W _
    intro v W hI
    have hB := hI.below
    obtain ⟨E, cap, rfl, hrd, hcap⟩ := own_form_rd_l hI.own
    rw [hrs, ht1]
    refine (on16_any E _ cap (R ^^^ S) _ L W hrd hcap (by rw [LL.out]; unfold maxLen; omega) hRS2 (T16.out.kept hB)).mono ?_
    rintro e w' ⟨rfl, k, rfl⟩
    exact ⟨rfl, below_drewN (Below.refl _ _) k⟩
  have C4 : Hid (∀ v W, Inv w v L W → Calls Tryd.prog 36 #[.int .u32 pq, v] W fun e w' => e = .returned (.int .u32 u1) ∧ Below W.heap.size W w') := by
    show ∀ v W, _ → Calls _ _ _ W _
    intro v W hI
    have hB := hI.below
    obtain ⟨E, cap, rfl, hrd, hcap⟩ := own_form_rd_l hI.own
    rw [hpq, hu1]
    refine (on32_any E _ cap (P ^^^ Q) _ L W hrd hcap (by rw [LL.out]; unfold maxLen; omega) hPQ2 (T32.out.kept hB)).mono ?_
    rintro e w' ⟨rfl, k, rfl⟩
    exact ⟨rfl, below_drewN (Below.refl _ _) k⟩
  have CI : Hid (∀ k, k < N → ∀ W, Below w.heap.size w W → ∃ b o, A = some ⟨b, o, none⟩ ∧ W.cell? ⟨b, o + k, none⟩ = some (.int .u8 ((l1.getD k 0).toNat : Int))) := by
    show ∀ k, _ → ∀ W, _ → _
    intro k hk W hB
    obtain ⟨b, o, e, _, hc⟩ := (RA.out.below hB).2 (by omega)
    exact ⟨b, o, e, hc k hk⟩
  have DI : Hid (∀ k, k < N → ∀ W, Below w.heap.size w W → ∃ b o, D = some ⟨b, o, none⟩ ∧ W.cell? ⟨b, o + k, none⟩ = some (.int .u8 ((l2.getD k 0).toNat : Int))) := by
    show ∀ k, _ → ∀ W, _ → _
    intro k hk W hB
    obtain ⟨b, o, e, _, hc⟩ := (RB.out.below hB).2 (by omega)
    exact ⟨b, o, e, hc k hk⟩
  clear hR hS hP hQ hR2 hS2 hP2 hQ2 hRS2 hPQ2 ex16 ex32 hL hrs hpq ht1 ht2 ht3 hu1 hu2 hu3 RA RB L1 L2 T16 T32
  have hkc : (N : Int) ≤ (c : Int) := by omega
  have hkd : (N : Int) ≤ (d : Int) := by omega
  rcases hN with ⟨rfl, hlt⟩ | ⟨rfl, hlt⟩
  all_goals
    go_enter Tryd.func6, Tryd.ntmps6
    go_wp2
    go_loopw [14, 15] (fun v i wr => ∃ k : Nat, i = .int .i64 k ∧ k ≤ N ∧ Own wr w.heap.size v (L.take k) ∧ Below w.heap.size w wr) (fun _ i _ => N - (intOf i).toNat)
    case atStart => exact ⟨0, rfl, by omega, Own.nil _ _, Below.refl _ _⟩
    case round =>
      rename_i wr
      obtain ⟨k, rfl, hk, ho, hB⟩ := hrel
      by_cases hkn : k < N
      · obtain ⟨b1, o1, rfl, k1⟩ := CI.out k hkn wr hB
        obtain ⟨b2, o2, rfl, k2⟩ := DI.out k hkn wr hB
        have hx := xor_u8 (l1.getD k 0) (l2.getD k 0)
        obtain ⟨y1, hy1⟩ : ∃ z : Int, z = ((l1.getD k 0).toNat : Int) := ⟨_, rfl⟩
        obtain ⟨y2, hy2⟩ : ∃ z : Int, z = ((l2.getD k 0).toNat : Int) := ⟨_, rfl⟩
        obtain ⟨y3, hy3⟩ : ∃ z : Int, z = ((l1.getD k 0 ^^^ l2.getD k 0).toNat : Int) := ⟨_, rfl⟩
        rw [← hy1] at k1 hx
        rw [← hy2] at k2 hx
        rw [← hy3] at hx
        have i1 : (k : Int) < (N : Int) := by omega
        have i2 := Int.lt_of_lt_of_le i1 (Int.ofNat_le.2 hNn)
        have i3 := Int.lt_of_lt_of_le i1 (Int.ofNat_le.2 hNm)
        have hod : Own wr.drew w.heap.size _ (L.take k) := ho
        have hBd : Below w.heap.size w wr.drew := below_drewN hB 1
        have hsz := hBd.size
        have hsz2 : w.heap.size ≤ wr.heap.size := hB.size
        have hlen : (L.take k).length = k := by rw [List.length_take, LL.out]; omega
        obtain ⟨v2, w2, r2, o2, g2, b2⟩ := append_run (hod.alloc (.cells #[.int .u8 y3] 5)) 1 (rd_one_l wr.drew (l1.getD k 0 ^^^ l2.getD k 0) y3 hy3) (by simp) (by rw [hlen]; omega) (by simp; omega)
        rw [← NX.out k hkn] at o2
        have hB2 : Below w.heap.size w w2 := (hBd.alloc hsz _).grown g2 (by simp; omega) (by
          intro j hj
          have := (hod.block j hj).1
          omega)
        have R2 := Lib.hid r2
        have O2 := Lib.hid o2
        have B2 := Lib.hid hB2
        clear r2 o2 g2 b2 ho hB hB2 hod hBd hlen hy1 hy2 hy3 hsz hsz2
        go_wp2
        go_region_law (refine step_app rfl (.tmp 29) (.tmp 39) rfl _ _ rfl rfl _ _ R2.out ?_)
        all_goals go_wp2
        all_goals go_roundw
        all_goals first
          | exact ⟨k + 1, by go_num, by omega, O2.out, B2.out⟩
          | (simp [intOf]; omega)
      · have e : k = N := by omega
        subst e
        rw [List.take_of_length_le (by rw [LL.out]; exact Nat.le_refl _)] at ho
        have I1 : Inv w _ L wr := ⟨ho, hB⟩
        have q1 := fun d os => Calls.regrown_of (C1.out _ _ (I1.on (Go.below_regrown wr d os)))
        have q2 := fun d os => Calls.regrown_of (C2.out _ _ (I1.on (Go.below_regrown wr d os)))
        have q3 := fun d os => Calls.regrown_of (C3.out _ _ (I1.on (Go.below_regrown wr d os)))
        have q4 := fun d os => Calls.regrown_of (C4.out _ _ (I1.on (Go.below_regrown wr d os)))
        have q5 := fun d os => Calls.regrown_of (C5.out _ _ (I1.on (Go.below_regrown wr d os)))
        have q6 := fun d os => Calls.regrown_of (C6.out _ _ (I1.on (Go.below_regrown wr d os)))
        have q7 := fun d os => Calls.regrown_of (AW.out _ (I1.on (Go.below_regrown wr d os)).below)
        have Q1 := Lib.hid q1
        have Q2 := Lib.hid q2
        have Q3 := Lib.hid q3
        have Q4 := Lib.hid q4
        have Q5 := Lib.hid q5
        have Q6 := Lib.hid q6
        have Q7 := Lib.hid q7
        have J := Lib.hid I1.below
        clear ho hB NX CI DI LL q1 q2 q3 q4 q5 q6 q7 C1 C2 C3 C4 C5 C6 AW I1
        go_wp2
        refine wp_region_quiet_below (by kernel_rfl) (by kernel_rfl) ?_
        iterate 40 (quiet_step (with_reducible (first | exact Q1.out _ _ | exact Q2.out _ _ | exact Q3.out _ _ | exact Q4.out _ _ | exact Q5.out _ _ | exact Q6.out _ _ | exact Q7.out _ _)))
        refine wpQuiet_nil ?_
        intro _ hw'
        obtain ⟨⟨dq, osq⟩, hw''⟩ := hw'
        subst hw''
        go_wp2
        go_ret
        exact ⟨rfl, J.out.trans ((Go.below_regrown wr dq osq).mono J.out.size)⟩
end Go.Proofs.YtdnheiefbecaeaaDoor
