/-
  tetherlaw02.FcsJoins is true, whatever it is asked, and writes nothing that was there.
-/
import Derived.Test.YtamcoppfjmggcaaDoorJoins
import Derived.Test.YtamcoppfjmggcaaDoorKeeps
import Derived.Test.YtamcoppfjmggcaaDoorFcsFarWalk
namespace Go.Proofs.YtamcoppfjmggcaaDoor
open Go.RowKit
set_option maxRecDepth 100000
set_option maxHeartbeats 2000000
set_option linter.unusedSimpArgs false
set_option linter.unusedVariables false

/-- the world behind w in which nothing of w was written, and a slice of the call's own holds the bytes -/
structure All (w : World) (v : Value) (l : List UInt8) (W : World) : Prop where
  below : Below w.heap.size w W
  own : Own W w.heap.size v l
theorem All.later {w W W' : World} {v : Value} {l : List UInt8} (h : All w v l W) (hB : Below W.heap.size W W') : All w v l W' := ⟨h.below.trans (hB.mono h.below.size), h.own.later hB⟩
theorem All.drewN {w W : World} {v : Value} {l : List UInt8} (h : All w v l W) (k : Nat) : All w v l (W.drewN k) := h.later (below_drewN (Below.refl _ _) k)

theorem all_append {w W : World} {v : Value} {l : List UInt8} (h : All w v l W) {A : Option Addr} {n c : Nat} {m : List UInt8} (hr : Rd w w.heap.size A n m) (hnil : A = none → c = 0) (hb : l.length + n ≤ 140737488355328) :
    ∃ v' w2, (Builtin.append_ #[22, 22] 22 #[v, .slice A n c]).run Tryd.prog W = .ok v' w2 ∧ All w v' (l ++ m) w2 := by
  obtain ⟨v', w2, hrun, ho, hG, _⟩ := append_run h.own c (hr.below h.below) hnil hb h.below.size
  exact ⟨v', w2, hrun, below_own h.below h.own hG (Nat.le_refl _) h.below.size, ho⟩

section
variable {w W : World} {v : Value} {t : List UInt8} {A : Option Addr} {n c : Nat} {l : List UInt8}
theorem a_sum16 (h : All w v t W) (hr : Rd w w.heap.size A n l) (hc : n ≤ c) (hn : n ≤ 140737488351232) (hT : Tab16 w) (s : Int) (hs : s = ((sum16 l : Nat) : Int)) :
    Calls Tryd.prog 28 #[.slice A n c] W fun e w' => e = .returned (.int .u16 s) ∧ All w v t w' := by
  subst hs
  refine (sum16_any A n c w.heap.size l W (hr.below h.below) hc (by unfold maxLen; omega) (hT.kept h.below)).mono ?_
  rintro e w' ⟨rfl, k, rfl⟩
  exact ⟨rfl, h.drewN k⟩
theorem a_sum32 (h : All w v t W) (hr : Rd w w.heap.size A n l) (hc : n ≤ c) (hn : n ≤ 140737488351232) (hT : Tab32 w) (s : Int) (hs : s = ((sum32 l : Nat) : Int)) :
    Calls Tryd.prog 29 #[.slice A n c] W fun e w' => e = .returned (.int .u32 s) ∧ All w v t w' := by
  subst hs
  refine (sum32_any A n c w.heap.size l W (hr.below h.below) hc (by unfold maxLen; omega) (hT.kept h.below)).mono ?_
  rintro e w' ⟨rfl, k, rfl⟩
  exact ⟨rfl, h.drewN k⟩
theorem a_refsum16 (h : All w v t W) (hn : t.length ≤ 422212465053696) (s : Int) (hs : s = ((sum16 t : Nat) : Int)) :
    Calls Tryd.prog 21 #[v] W fun e w' => e = .returned (.int .u16 s) ∧ W = w' := by
  subst hs
  obtain ⟨D, d, rfl, hr⟩ := own_form_rd h.own
  exact refsum16_any D _ d W.heap.size t W hr (by unfold maxLen; omega)
theorem a_refsum32 (h : All w v t W) (hn : t.length ≤ 422212465053696) (s : Int) (hs : s = ((sum32 t : Nat) : Int)) :
    Calls Tryd.prog 22 #[v] W fun e w' => e = .returned (.int .u32 s) ∧ W = w' := by
  subst hs
  obtain ⟨D, d, rfl, hr⟩ := own_form_rd h.own
  exact refsum32_any D _ d W.heap.size t W hr (by unfold maxLen; omega)
end
theorem a_rd {w W : World} {v : Value} {t : List UInt8} (h : All w v t W) : Below w.heap.size w W := h.below

theorem fcsjoins_walk (A D E : Option Addr) (n c m d k f : Nat) (la lb lc : List UInt8) (nn p q : Int) (w : World)
    (hra : Rd w w.heap.size A n la) (hza : A = none → c = 0) (hca : n ≤ c) (hrb : Rd w w.heap.size D m lb) (hzb : D = none → d = 0) (hcb : m ≤ d) (hrc : Rd w w.heap.size E k lc) (hzc : E = none → f = 0) (hcc : k ≤ f)
    (hb : n + m + k ≤ 140737488351232) (hp0 : 0 ≤ p) (hp1 : p ≤ 4294967295) (hq0 : 0 ≤ q) (hq1 : q ≤ 4294967295) (hn1 : nn ≤ 9223372036854775807) (h16 : Tab16 w) (h32 : Tab32 w) :
    Calls Tryd.prog 6 #[.slice A n c, .slice D m d, .slice E k f, .int .i64 nn, .int .u32 p, .int .u32 q] w fun e w' => e = .returned (.bool true) ∧ Below w.heap.size w w' := by
  have hla := hra.1
  have hlb := hrb.1
  have hlc := hrc.1
  have AW := Lib.hid (awake_behind_far w h16 h32)
  have T16 := Lib.hid h16
  have T32 := Lib.hid h32
  have RA := Lib.hid hra
  have RB := Lib.hid hrb
  have RC := Lib.hid hrc
  -- the sums
  have e1 := sum16_two la lb (by omega)
  have e2 := sum32_two la lb (by omega)
  have e3 := sum16_two (la ++ lb) lc (by omega)
  have e4 := sum16_two lb lc (by omega)
  have e5 := sum16_two la (lb ++ lc) (by rw [List.length_append]; omega)
  rw [hlb] at e1 e2
  rw [hlc] at e3 e4
  rw [List.length_append, hlb, hlc, ← List.append_assoc] at e5
  obtain ⟨sa, hsa⟩ : ∃ z : Int, z = ((sum16 la : Nat) : Int) := ⟨_, rfl⟩
  obtain ⟨sb, hsb⟩ : ∃ z : Int, z = ((sum16 lb : Nat) : Int) := ⟨_, rfl⟩
  obtain ⟨sc, hsc⟩ : ∃ z : Int, z = ((sum16 lc : Nat) : Int) := ⟨_, rfl⟩
  obtain ⟨ta, hta⟩ : ∃ z : Int, z = ((sum32 la : Nat) : Int) := ⟨_, rfl⟩
  obtain ⟨tb, htb⟩ : ∃ z : Int, z = ((sum32 lb : Nat) : Int) := ⟨_, rfl⟩
  obtain ⟨sab, hsab⟩ : ∃ z : Int, z = ((sum16 (la ++ lb) : Nat) : Int) := ⟨_, rfl⟩
  obtain ⟨tab, htab⟩ : ∃ z : Int, z = ((sum32 (la ++ lb) : Nat) : Int) := ⟨_, rfl⟩
  obtain ⟨sbc, hsbc⟩ : ∃ z : Int, z = ((sum16 (lb ++ lc) : Nat) : Int) := ⟨_, rfl⟩
  obtain ⟨sabc, hsabc⟩ : ∃ z : Int, z = ((sum16 (la ++ lb ++ lc) : Nat) : Int) := ⟨_, rfl⟩
  have J1 := Lib.hid fun W => join16_of (sum16 la) (sum16 lb) m sa sb (m : Int) sab W hsa hsb rfl (by rw [e1]; exact hsab) (sum16_lt _) (sum16_lt _) (by omega)
  have J2 := Lib.hid fun W => join32_of (sum32 la) (sum32 lb) m ta tb (m : Int) tab W hta htb rfl (by rw [e2]; exact htab) (sum32_lt _) (sum32_lt _) (by omega)
  have J3 := Lib.hid fun W => join16_of (sum16 (la ++ lb)) (sum16 lc) k sab sc (k : Int) sabc W hsab hsc rfl (by rw [e3]; exact hsabc) (sum16_lt _) (sum16_lt _) (by omega)
  have J4 := Lib.hid fun W => join16_of (sum16 lb) (sum16 lc) k sb sc (k : Int) sbc W hsb hsc rfl (by rw [e4]; exact hsbc) (sum16_lt _) (sum16_lt _) (by omega)
  have J5 := Lib.hid fun W => join16_of (sum16 la) (sum16 (lb ++ lc)) (m + k) sa sbc ((m : Int) + (k : Int)) sabc W hsa hsbc (by omega) (by rw [e5]; exact hsabc) (sum16_lt _) (sum16_lt _) (by omega)
  have SA := Lib.hid hsa
  have SB := Lib.hid hsb
  have SC := Lib.hid hsc
  have TA := Lib.hid hta
  have TB := Lib.hid htb
  have SAB := Lib.hid hsab
  have TAB := Lib.hid htab
  have SABC := Lib.hid hsabc
  have ne1 : (sab != sab) = false := by simp
  have ne2 : (tab != tab) = false := by simp
  have ne3 : (sabc != sabc) = false := by simp
  have A0 : All w (.slice none 0 0) [] w := ⟨Below.refl _ _, Own.nil _ _⟩
  obtain ⟨v1, w1, r1, A1⟩ := all_append A0 (c := c) hra hza (by simp; omega)
  obtain ⟨v2, w2, r2, A2⟩ := all_append A1 (c := d) hrb hzb (by simp; omega)
  have P1 := Lib.hid r1
  have P2 := Lib.hid r2
  have K2 : Hid (All w v2 (la ++ lb) w2) := by
    rw [List.nil_append] at A2
    exact A2
  have HZ := Lib.hid hzc
  have LA := Lib.hid hla
  have LB := Lib.hid hlb
  have LC := Lib.hid hlc
  clear hsa hsb hsc hta htb hsab htab hsbc hsabc e1 e2 e3 e4 e5 h16 h32 hra hrb hrc hza hzb hzc A0 A1 A2 r1 r2 hla hlb hlc
  go_enter Tryd.func6, Tryd.ntmps6
  go_wp2_with (first
    | (at_builtin; refine wpList_app rfl (.tmp 30) (.tmp 31) rfl _ _ rfl rfl _ _ P1.out ?_)
    | (at_builtin; refine wpList_app rfl (.tmp 33) (.tmp 34) rfl _ _ rfl rfl _ _ P2.out ?_)
    | fail)
  clear P1 P2
  refine (a_sum16 K2.out RA.out hca (by omega) T16.out _ SA.out).mono ?_
  rintro e w3 ⟨rfl, h⟩
  have K3 := Lib.hid h
  clear h K2
  go_wp2_with fail
  refine (a_sum16 K3.out RB.out hcb (by omega) T16.out _ SB.out).mono ?_
  rintro e w4 ⟨rfl, h⟩
  have K4 := Lib.hid h
  clear h K3
  go_wp2_with fail
  refine (J1.out _).mono ?_
  rintro e w5 ⟨rfl, hB⟩
  have K5 := Lib.hid (K4.out.later hB)
  clear hB K4
  go_wp2_with fail
  refine (a_sum32 K5.out RA.out hca (by omega) T32.out _ TA.out).mono ?_
  rintro e w6 ⟨rfl, h⟩
  have K6 := Lib.hid h
  clear h K5
  go_wp2_with fail
  refine (a_sum32 K6.out RB.out hcb (by omega) T32.out _ TB.out).mono ?_
  rintro e w7 ⟨rfl, h⟩
  have K7 := Lib.hid h
  clear h K6
  go_wp2_with fail
  refine (J2.out _).mono ?_
  rintro e w8 ⟨rfl, hB⟩
  have K8 := Lib.hid (K7.out.later hB)
  clear hB K7
  go_wp2_with fail
  refine (a_refsum16 K8.out (by rw [List.length_append, LA.out, LB.out]; omega) _ SAB.out).mono ?_
  rintro e w' ⟨rfl, rfl⟩
  go_wp2_with fail
  refine (a_refsum32 K8.out (by rw [List.length_append, LA.out, LB.out]; omega) _ TAB.out).mono ?_
  rintro e w' ⟨rfl, rfl⟩
  obtain ⟨v3, w3', r3, A3⟩ := all_append K8.out (c := f) RC.out HZ.out (by rw [List.length_append, LA.out, LB.out]; omega)
  have P3 := Lib.hid r3
  have KA := Lib.hid A3
  clear r3 A3 K8
  go_wp2_with (first
    | (at_builtin; refine wpList_app rfl (.tmp 74) (.tmp 75) rfl _ _ rfl rfl _ _ P3.out ?_)
    | fail)
  clear P3
  refine (a_sum16 KA.out RC.out hcc (by omega) T16.out _ SC.out).mono ?_
  rintro e w9 ⟨rfl, h⟩
  have K9 := Lib.hid h
  clear h KA
  go_wp2_with fail
  refine (J3.out _).mono ?_
  rintro e w10 ⟨rfl, hB⟩
  have K10 := Lib.hid (K9.out.later hB)
  clear hB K9
  go_wp2_with fail
  refine (a_sum16 K10.out RB.out hcb (by omega) T16.out _ SB.out).mono ?_
  rintro e w11 ⟨rfl, h⟩
  have K11 := Lib.hid h
  clear h K10
  go_wp2_with fail
  refine (a_sum16 K11.out RC.out hcc (by omega) T16.out _ SC.out).mono ?_
  rintro e w12 ⟨rfl, h⟩
  have K12 := Lib.hid h
  clear h K11
  go_wp2_with fail
  refine (J4.out _).mono ?_
  rintro e w13 ⟨rfl, hB⟩
  have K13 := Lib.hid (K12.out.later hB)
  clear hB K12
  go_wp2_with fail
  refine (a_sum16 K13.out RA.out hca (by omega) T16.out _ SA.out).mono ?_
  rintro e w14 ⟨rfl, h⟩
  have K14 := Lib.hid h
  clear h K13
  go_wp2_with fail
  refine (J5.out _).mono ?_
  rintro e w15 ⟨rfl, hB⟩
  have K15 := Lib.hid (K14.out.later hB)
  clear hB K14
  go_wp2_with fail
  refine (a_refsum16 K15.out (by rw [List.length_append, List.length_append, LA.out, LB.out, LC.out]; omega) _ SABC.out).mono ?_
  rintro e w' ⟨rfl, rfl⟩
  by_cases hneg : nn < 0
  · go_wp2_with fail
    refine (join16_neg _ _ nn _ hneg).mono ?_
    rintro e w' ⟨rfl, rfl⟩
    go_wp2_with fail
    refine (join32_neg _ _ nn _ hneg).mono ?_
    rintro e w' ⟨rfl, rfl⟩
    go_wp2_with fail
    refine (AW.out _ K15.out.below).mono ?_
    rintro e w' ⟨rfl, hB⟩
    have BB := Lib.hid hB
    clear hB
    go_wp2
    go_ret
    exact ⟨rfl, BB.out⟩
  · obtain ⟨P, hP⟩ : ∃ P : Nat, p = (P : Int) := ⟨p.toNat, by omega⟩
    obtain ⟨Q, hQ⟩ : ∃ Q : Nat, q = (Q : Int) := ⟨q.toNat, by omega⟩
    obtain ⟨N, hN⟩ : ∃ N : Nat, nn = (N : Int) := ⟨nn.toNat, by omega⟩
    have hnn : 0 ≤ nn := by omega
    obtain ⟨u, hu⟩ : ∃ z : Int, z = ((join16 (P % 65536) (Q % 65536) N : Nat) : Int) := ⟨_, rfl⟩
    obtain ⟨v, hv⟩ : ∃ z : Int, z = ((join32 P Q N : Nat) : Int) := ⟨_, rfl⟩
    obtain ⟨x, hx⟩ : ∃ z : Int, z = ((join32 P Q 0 : Nat) : Int) := ⟨_, rfl⟩
    have hxor : bits .xor .u32 p q = x := by
      rw [hP, hQ, hx]
      exact xor_int32 P Q (by omega) (by omega)
    have J6 := Lib.hid fun W => join16_of (P % 65536) (Q % 65536) N (p % 65536) (q % 65536) nn u W (by omega) (by omega) hN hu (by omega) (by omega) (by omega)
    have J7 := Lib.hid fun W => join32_of P Q N p q nn v W hP hQ hN hv (by omega) (by omega) (by omega)
    have J8 := Lib.hid fun W => join32_of P Q 0 p q 0 x W hP hQ rfl hx (by omega) (by omega) (by omega)
    have nex : (x == x) = true := by simp
    clear hu hv hx hP hQ hN hneg
    go_wp2_with fail
    refine (J6.out _).mono ?_
    rintro e y1 ⟨rfl, hB⟩
    have Y1 := Lib.hid (K15.out.later hB)
    clear hB K15
    go_wp2_with fail
    refine (J7.out _).mono ?_
    rintro e y2 ⟨rfl, hB⟩
    have Y2 := Lib.hid (Y1.out.later hB)
    clear hB Y1
    go_wp2_with fail
    refine (J8.out _).mono ?_
    rintro e y3 ⟨rfl, hB⟩
    have Y3 := Lib.hid (Y2.out.later hB)
    clear hB Y2
    go_wp2_with fail
    refine (AW.out _ Y3.out.below).mono ?_
    rintro e w' ⟨rfl, hB⟩
    have BB := Lib.hid hB
    clear hB
    go_wp2
    go_ret
    exact ⟨rfl, BB.out⟩
end Go.Proofs.YtamcoppfjmggcaaDoor
