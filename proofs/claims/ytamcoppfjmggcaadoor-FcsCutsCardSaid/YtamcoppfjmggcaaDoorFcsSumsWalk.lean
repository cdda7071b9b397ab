/-
  tetherlaw02.FcsSums is true, whatever it is asked, and writes nothing that was there.
-/
import Derived.Test.YtamcoppfjmggcaaDoorKeeps
import Derived.Test.YtamcoppfjmggcaaDoorFcsGoodWalk
namespace Go.Proofs.YtamcoppfjmggcaaDoor
open Go.RowKit
set_option maxRecDepth 100000
set_option maxHeartbeats 1000000
set_option linter.unusedSimpArgs false
set_option linter.unusedVariables false

theorem Own.base {w : World} {b b' : Nat} {v : Value} {l : List UInt8} (h : Own w b v l) (hb : b' ≤ b) : Own w b' v l := by
  refine ⟨h.1, ?_⟩
  rcases h.2 with h | ⟨g', cap, cur, h1, h2, h3⟩
  · exact .inl h
  · exact .inr ⟨g', cap, cur, h1, Nat.le_trans hb h2, h3⟩
theorem Own.at_ {w : World} {b g n cap : Nat} {l : List UInt8} (h : Own w b (.slice (some ⟨g, 0, none⟩) n cap) l) : b ≤ g ∧ g < w.heap.size := h.block g (by simp [Value.ownBlock])

section
variable {w W : World} {A : Option Addr} {n c g cap : Nat} {l : List UInt8}
theorem k_put16 (h : Keeps w A n c g cap l W) (hc : n + 1 ≤ cap) (hn : n ≤ 140737488351232) (hT : Tab16 w) :
    Calls Tryd.prog 17 #[.slice (some ⟨g, 0, none⟩) n cap] W fun e w' => ∃ k, e = .returned (.slice (some ⟨k, 0, none⟩) (n + 2) (n + 2)) ∧ W.heap.size ≤ k ∧ Own w' w.heap.size (.slice (some ⟨k, 0, none⟩) (n + 2) (n + 2)) (l ++ low16 (sum16 l)) ∧ Below W.heap.size W w' := by
  refine (put16_any _ n cap W.heap.size l W h.read (Nat.le_refl _) (by omega) (by omega) (hT.kept h.below)).mono ?_
  rintro e w' ⟨k, rfl, ho, hB⟩
  exact ⟨k, rfl, ho.at_.1, ho.base h.below.size, hB⟩
theorem k_put32 (h : Keeps w A n c g cap l W) (hc : n + 1 ≤ cap) (hn : n ≤ 140737488351232) (hT : Tab32 w) :
    Calls Tryd.prog 18 #[.slice (some ⟨g, 0, none⟩) n cap] W fun e w' => ∃ k, e = .returned (.slice (some ⟨k, 0, none⟩) (n + 4) (n + 4)) ∧ W.heap.size ≤ k ∧ Own w' w.heap.size (.slice (some ⟨k, 0, none⟩) (n + 4) (n + 4)) (l ++ low32 (sum32 l)) ∧ Below W.heap.size W w' := by
  refine (put32_any _ n cap W.heap.size l W h.read (Nat.le_refl _) (by omega) (by omega) (hT.kept h.below)).mono ?_
  rintro e w' ⟨k, rfl, ho, hB⟩
  exact ⟨k, rfl, ho.at_.1, ho.base h.below.size, hB⟩
theorem k_refput16 (h : Keeps w A n c g cap l W) (hnil : A = none → c = 0) (hn : n ≤ 140737488351232) :
    Calls Tryd.prog 20 #[.slice A n c, .int .u32 (sum16 l : Nat), .int .i64 2] W fun e w' => ∃ D d, e = .returned (.slice D (n + 2) d) ∧ Rd w' w'.heap.size D (n + 2) (l ++ low16 (sum16 l)) ∧ Below W.heap.size W w' := by
  have hs := sum16_lt l
  have hl := h.rd.1
  refine (refput2_any A n c 2 w.heap.size (sum16 l) _ rfl l W h.rd hnil (by omega) (by omega) (by omega)).mono ?_
  rintro e w' ⟨v, rfl, ho, hB⟩
  rw [lowN_16] at ho
  obtain ⟨D, d, rfl, hr⟩ := own_form_rd ho
  rw [show (l ++ low16 (sum16 l)).length = n + 2 by rw [List.length_append, low16_length]; omega] at *
  exact ⟨D, d, rfl, hr, hB⟩
theorem k_refput32 (h : Keeps w A n c g cap l W) (hnil : A = none → c = 0) (hn : n ≤ 140737488351232) :
    Calls Tryd.prog 20 #[.slice A n c, .int .u32 (sum32 l : Nat), .int .i64 4] W fun e w' => ∃ D d, e = .returned (.slice D (n + 4) d) ∧ Rd w' w'.heap.size D (n + 4) (l ++ low32 (sum32 l)) ∧ Below W.heap.size W w' := by
  have hs := sum32_lt l
  have hl := h.rd.1
  refine (refput2_any A n c 4 w.heap.size (sum32 l) _ rfl l W h.rd hnil (by omega) (by omega) (by omega)).mono ?_
  rintro e w' ⟨v, rfl, ho, hB⟩
  rw [lowN_32] at ho
  obtain ⟨D, d, rfl, hr⟩ := own_form_rd ho
  rw [show (l ++ low32 (sum32 l)).length = n + 4 by rw [List.length_append, low32_length]; omega] at *
  exact ⟨D, d, rfl, hr, hB⟩
theorem k_on16 (h : Keeps w A n c g cap l W) (hc : n + 1 ≤ cap) (hn : n ≤ 140737488351232) (hT : Tab16 w) (r : Int) (R : Nat) (hr : r = (R : Int)) (hR : R < 2 ^ 16) :
    Calls Tryd.prog 24 #[.int .u16 r, .slice (some ⟨g, 0, none⟩) n cap] W fun e w' => e = .returned (.int .u16 (crc P16 R l : Nat)) ∧ Keeps w A n c g cap l w' := by
  subst hr
  refine (on16_any _ n cap R W.heap.size l W h.read (by omega) (by unfold maxLen; omega) hR (hT.kept h.below)).mono ?_
  rintro e w' ⟨rfl, k, rfl⟩
  exact ⟨rfl, h.drewN k⟩
theorem k_on32 (h : Keeps w A n c g cap l W) (hc : n + 1 ≤ cap) (hn : n ≤ 140737488351232) (hT : Tab32 w) (r : Int) (R : Nat) (hr : r = (R : Int)) (hR : R < 2 ^ 32) :
    Calls Tryd.prog 26 #[.int .u32 r, .slice (some ⟨g, 0, none⟩) n cap] W fun e w' => e = .returned (.int .u32 (crc P32 R l : Nat)) ∧ Keeps w A n c g cap l w' := by
  subst hr
  refine (on32_any _ n cap R W.heap.size l W h.read (by omega) (by unfold maxLen; omega) hR (hT.kept h.below)).mono ?_
  rintro e w' ⟨rfl, k, rfl⟩
  exact ⟨rfl, h.drewN k⟩
theorem k_refon16 (h : Keeps w A n c g cap l W) (hn : n ≤ 140737488351232) (r : Int) (R : Nat) (hr : r = (R : Int)) (hR : R < 2 ^ 16) :
    Calls Tryd.prog 25 #[.int .u16 r, .slice A n c] W fun e w' => e = .returned (.int .u16 (crc P16 R l : Nat)) ∧ W = w' := by
  subst hr
  exact refon16_any A n c R w.heap.size l W h.rd (by unfold maxLen; omega) hR
theorem k_refon32 (h : Keeps w A n c g cap l W) (hn : n ≤ 140737488351232) (r : Int) (R : Nat) (hr : r = (R : Int)) (hR : R < 2 ^ 32) :
    Calls Tryd.prog 27 #[.int .u32 r, .slice A n c] W fun e w' => e = .returned (.int .u32 (crc P32 R l : Nat)) ∧ W = w' := by
  subst hr
  exact refon32_any A n c R w.heap.size l W h.rd (by unfold maxLen; omega) hR
theorem k_sum16 (h : Keeps w A n c g cap l W) (hc : n + 1 ≤ cap) (hn : n ≤ 140737488351232) (hT : Tab16 w) :
    Calls Tryd.prog 28 #[.slice (some ⟨g, 0, none⟩) n cap] W fun e w' => e = .returned (.int .u16 (sum16 l : Nat)) ∧ Keeps w A n c g cap l w' := by
  refine (sum16_any _ n cap W.heap.size l W h.read (by omega) (by unfold maxLen; omega) (hT.kept h.below)).mono ?_
  rintro e w' ⟨rfl, k, rfl⟩
  exact ⟨rfl, h.drewN k⟩
theorem k_sum32 (h : Keeps w A n c g cap l W) (hc : n + 1 ≤ cap) (hn : n ≤ 140737488351232) (hT : Tab32 w) :
    Calls Tryd.prog 29 #[.slice (some ⟨g, 0, none⟩) n cap] W fun e w' => e = .returned (.int .u32 (sum32 l : Nat)) ∧ Keeps w A n c g cap l w' := by
  refine (sum32_any _ n cap W.heap.size l W h.read (by omega) (by unfold maxLen; omega) (hT.kept h.below)).mono ?_
  rintro e w' ⟨rfl, k, rfl⟩
  exact ⟨rfl, h.drewN k⟩
theorem k_refsum16 (h : Keeps w A n c g cap l W) (hn : n ≤ 140737488351232) :
    Calls Tryd.prog 21 #[.slice A n c] W fun e w' => e = .returned (.int .u16 (sum16 l : Nat)) ∧ W = w' := refsum16_any A n c w.heap.size l W h.rd (by unfold maxLen; omega)
theorem k_refsum32 (h : Keeps w A n c g cap l W) (hn : n ≤ 140737488351232) :
    Calls Tryd.prog 22 #[.slice A n c] W fun e w' => e = .returned (.int .u32 (sum32 l : Nat)) ∧ W = w' := refsum32_any A n c w.heap.size l W h.rd (by unfold maxLen; omega)
theorem k_kept (h : Keeps w A n c g cap l W) (hn : n ≤ 140737488351232) :
    Calls Tryd.prog 30 #[.slice (some ⟨g, 0, none⟩) n cap, .slice A n c] W fun e w' => e = .returned (.bool true) ∧ W = w' := kept2_any A g n c cap w.heap.size w.heap.size l W h.own h.rd (by omega)
end

theorem fcssums_walk (A : Option Addr) (n c : Nat) (l : List UInt8) (r q : Int) (w : World) (hr : Rd w w.heap.size A n l) (hnil : A = none → c = 0) (hc : n ≤ c) (hn : c ≤ 140737488351232)
    (hr0 : 0 ≤ r) (hr1 : r ≤ 65535) (hq0 : 0 ≤ q) (hq1 : q ≤ 4294967295) (h16 : Tab16 w) (h32 : Tab32 w) :
    Calls Tryd.prog 4 #[.slice A n c, .int .u16 r, .int .u32 q] w fun e w' => e = .returned (.bool true) ∧ Below w.heap.size w w' := by
  obtain ⟨R, hR⟩ : ∃ R : Nat, r = (R : Int) := ⟨r.toNat, by omega⟩
  obtain ⟨Q, hQ⟩ : ∃ Q : Nat, q = (Q : Int) := ⟨q.toNat, by omega⟩
  have RR := Lib.hid hR
  have QQ := Lib.hid hQ
  have R1 : Hid (R < 2 ^ 16) := by show _ < _; omega
  have Q1 : Hid (Q < 2 ^ 32) := by show _ < _; omega
  have hn2 : n ≤ 140737488351232 := by omega
  have LE := Lib.hid (lent2_any A n c w.heap.size l w hr hnil (by omega))
  have AW := Lib.hid (awake_behind w h16 h32)
  have T16 := Lib.hid h16
  have T32 := Lib.hid h32
  have HR := Lib.hid hr
  have NIL := Lib.hid hnil
  obtain ⟨s16, hs16⟩ : ∃ z : Int, z = ((sum16 l : Nat) : Int) := ⟨_, rfl⟩
  obtain ⟨s32, hs32⟩ : ∃ z : Int, z = ((sum32 l : Nat) : Int) := ⟨_, rfl⟩
  have s160 : 0 ≤ s16 := by omega
  have s161 : s16 ≤ 65535 := by have := sum16_lt l; omega
  have S16 := Lib.hid hs16
  have S32 := Lib.hid hs32
  clear hr h16 h32 hnil hR hQ hs16 hs32
  go_enter Tryd.func4, Tryd.ntmps4
  go_wp2_with fail
  refine (LE.out).mono ?_
  rintro e w1 ⟨g, cap, rfl, hcap, hO, hB⟩
  have K1 : Hid (Keeps w A n c g cap l w1) := ⟨hB, hO, HR.out.below hB⟩
  clear hO hB LE HR
  go_wp2_with fail
  refine (k_put16 K1.out hcap hn2 T16.out).mono ?_
  rintro e w2 ⟨k1, rfl, hk1, ho, hB⟩
  have K2 := Lib.hid (K1.out.later hB)
  have X2 := Lib.hid ho
  have E1 : Hid (g < k1) := by show _ < _; have := K1.out.own.at_; omega
  clear hk1 ho hB K1
  go_wp2_with fail
  refine (k_put32 K2.out hcap hn2 T32.out).mono ?_
  rintro e w3 ⟨k2, rfl, hk2, ho, hB⟩
  have K3 := Lib.hid (K2.out.later hB)
  have X3 := Lib.hid (X2.out.later hB)
  have Y3 := Lib.hid ho
  have E2 : Hid (k1 < k2) := by show _ < _; have := X2.out.at_; omega
  clear hk2 ho hB K2 X2
  go_wp2_with fail
  refine (k_refsum16 K3.out hn2).mono ?_
  rintro e w4 ⟨rfl, rfl⟩
  rw [← S16.out]
  have RP := k_refput16 K3.out NIL.out hn2
  rw [← S16.out] at RP
  have RP2 := Lib.hid RP
  clear RP
  go_wp2_with fail
  refine (RP2.out).mono ?_
  rintro e w4 ⟨D, d, rfl, hrd, hB⟩
  have K4 := Lib.hid (K3.out.later hB)
  have X4 := Lib.hid (X3.out.later hB)
  have Y4 := Lib.hid (Y3.out.later hB)
  have hx := X4.out.rd (by have := K4.out.rd.1; rw [List.length_append, low16_length]; omega) (n + 2) (Nat.le_refl _)
  rw [List.take_of_length_le (by have := K4.out.rd.1; rw [List.length_append, low16_length]; omega)] at hx
  have SM := Lib.hid (same2_yes (some ⟨k1, 0, none⟩) D (n + 2) (n + 2) d w4.heap.size _ w4 hx hrd)
  clear hrd hB hx K3 X3 Y3 RP2
  go_wp2_with fail
  refine (SM.out).mono ?_
  rintro e w5 ⟨rfl, rfl⟩
  clear SM
  go_wp2_with fail
  refine (k_refsum32 K4.out hn2).mono ?_
  rintro e w5 ⟨rfl, rfl⟩
  rw [← S32.out]
  have RP := k_refput32 K4.out NIL.out hn2
  rw [← S32.out] at RP
  have RP2 := Lib.hid RP
  clear RP
  go_wp2_with fail
  refine (RP2.out).mono ?_
  rintro e w5 ⟨D2, d2, rfl, hrd, hB⟩
  have K5 := Lib.hid (K4.out.later hB)
  have X5 := Lib.hid (X4.out.later hB)
  have Y5 := Lib.hid (Y4.out.later hB)
  have hx := Y5.out.rd (by have := K5.out.rd.1; rw [List.length_append, low32_length]; omega) (n + 4) (Nat.le_refl _)
  rw [List.take_of_length_le (by have := K5.out.rd.1; rw [List.length_append, low32_length]; omega)] at hx
  have SM := Lib.hid (same2_yes (some ⟨k2, 0, none⟩) D2 (n + 4) (n + 4) d2 w5.heap.size _ w5 hx hrd)
  clear hrd hB hx K4 X4 Y4 RP2
  go_wp2_with fail
  refine (SM.out).mono ?_
  rintro e w6 ⟨rfl, rfl⟩
  clear SM
  have SP := Lib.hid (spoil2_row k1 (n + 2) (n + 2) (n + 2) w.heap.size _ w5 (by have := K5.out.rd.1; rw [List.length_append, low16_length]; omega) X5.out (Nat.le_refl _) (by omega))
  go_wp2_with fail
  refine (SP.out).mono ?_
  rintro e w6 ⟨rfl, hG⟩
  have K6 := Lib.hid (K5.out.grown hG X5.out.at_.1 (by have := E1.out; omega))
  have Y6 := Lib.hid (Y5.out.grown hG (.inr (by have := E2.out; simp [Value.ownBlock]; omega)))
  clear hG K5 X5 Y5 SP
  have SP := Lib.hid (spoil2_row k2 (n + 4) (n + 4) (n + 4) w.heap.size _ w6 (by have := K6.out.rd.1; rw [List.length_append, low32_length]; omega) Y6.out (Nat.le_refl _) (by omega))
  go_wp2_with fail
  refine (SP.out).mono ?_
  rintro e w7 ⟨rfl, hG⟩
  have K7 := Lib.hid (K6.out.grown hG Y6.out.at_.1 (by have := E1.out; have := E2.out; omega))
  clear hG K6 Y6 SP
  go_wp2_with fail
  refine (k_on16 K7.out hcap hn2 T16.out r R RR.out R1.out).mono ?_
  rintro e w8 ⟨rfl, h8⟩
  have K8 := Lib.hid h8
  clear h8 K7
  go_wp2_with fail
  refine (k_refon16 K8.out hn2 r R RR.out R1.out).mono ?_
  rintro e w9 ⟨rfl, rfl⟩
  go_wp2_with fail
  refine (k_on32 K8.out hcap hn2 T32.out q Q QQ.out Q1.out).mono ?_
  rintro e w9 ⟨rfl, h9⟩
  have K9 := Lib.hid h9
  clear h9 K8
  go_wp2_with fail
  refine (k_refon32 K9.out hn2 q Q QQ.out Q1.out).mono ?_
  rintro e w10 ⟨rfl, rfl⟩
  go_wp2_with fail
  refine (k_sum16 K9.out hcap hn2 T16.out).mono ?_
  rintro e w10 ⟨rfl, h10⟩
  have K10 := Lib.hid h10
  clear h10 K9
  go_wp2_with fail
  refine (k_refsum16 K10.out hn2).mono ?_
  rintro e w11 ⟨rfl, rfl⟩
  go_wp2_with fail
  refine (k_sum32 K10.out hcap hn2 T32.out).mono ?_
  rintro e w11 ⟨rfl, h11⟩
  have K11 := Lib.hid h11
  clear h11 K10
  go_wp2_with fail
  refine (k_refsum32 K11.out hn2).mono ?_
  rintro e w12 ⟨rfl, rfl⟩
  go_wp2_with fail
  refine (k_kept K11.out hn2).mono ?_
  rintro e w12 ⟨rfl, rfl⟩
  go_wp2_with fail
  refine (AW.out _ K11.out.below).mono ?_
  rintro e w13 ⟨rfl, hB⟩
  have BB := Lib.hid hB
  clear hB
  go_wp2
  go_ret
  exact ⟨rfl, BB.out⟩
end Go.Proofs.YtamcoppfjmggcaaDoor
