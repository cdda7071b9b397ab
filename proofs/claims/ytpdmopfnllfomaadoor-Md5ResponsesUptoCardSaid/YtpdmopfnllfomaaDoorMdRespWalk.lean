/-
  tetherlaw04.Md5Responses: the walk.
-/
import Derived.Test.YtpdmopfnllfomaaDoorMdEq
import Derived.Test.YtpdmopfnllfomaaDoorMdResp
import Derived.Test.YtpdmopfnllfomaaDoorMdRefResp
namespace Go.Proofs.YtpdmopfnllfomaaDoor
open Go.RowKit
set_option maxRecDepth 100000
set_option maxHeartbeats 1000000
set_option linter.unusedSimpArgs false
set_option linter.unusedVariables false

theorem list16 (l : List UInt8) (h : l.length = 16) : ∃ d0 d1 d2 d3 d4 d5 d6 d7 d8 d9 d10 d11 d12 d13 d14 d15, l = [d0, d1, d2, d3, d4, d5, d6, d7, d8, d9, d10, d11, d12, d13, d14, d15] := by
  match l, h with
  | [a0, a1, a2, a3, a4, a5, a6, a7, a8, a9, a10, a11, a12, a13, a14, a15], _ => exact ⟨a0, a1, a2, a3, a4, a5, a6, a7, a8, a9, a10, a11, a12, a13, a14, a15, rfl⟩
theorem resp_key (id : Int) (x : ByteArray) (l : List UInt8) (n : Nat) (hm : n ≤ 1048576) (hx : x.size ≤ 1048576) (hlo : -9223372036854775808 ≤ id) (hhi : id ≤ 9223372036854775807) :
    ∃ (D : List UInt8) (k : Int), D.length = 16 ∧ (∀ A c B W, Rd W B A n l → B ≤ W.heap.size → (A = none → c = 0) → TabK W → TabS W → Calls Tryd.prog 20 #[.int .i64 id, .string x, .slice A n c] W fun e w' => e = .returned (.tuple #[.agg (D.map cellOf).toArray, .int .i64 k]) ∧ Below W.heap.size W w') ∧
      (∀ A c B W, Rd W B A n l → B ≤ W.heap.size → (A = none → c = 0) → Calls Tryd.prog 21 #[.int .i64 id, .string x, .slice A n c] W fun e w' => e = .returned (.tuple #[.agg (D.map cellOf).toArray, .int .i64 k]) ∧ Below W.heap.size W w') := by
  by_cases h : 0 ≤ id ∧ id ≤ 255
  · refine ⟨mdBytes (mdOver (mdPad (respL id x l)) ((mdPad (respL id x l)).length / 64)), 0, mdBytes_length _, fun A c B W hr hB hnil hK hS => ?_, fun A c B W hr hB hnil => ?_⟩
    · rw [← partB_bytes]
      exact resp_ok id x A n c B l W h.1 h.2 hr hB hnil (by omega) (by omega) hK hS
    · rw [← partB_bytes]
      exact rresp_ok id x A n c B l W h.1 h.2 hr hB hnil (by omega) (by omega)
  · have hb : id < 0 ∨ 255 < id := by omega
    exact ⟨List.replicate 16 0, 1, rfl, fun A c B W hr hB hnil hK hS => resp_bad id x A n c W hb hlo hhi, fun A c B W hr hB hnil => rresp_bad id x A n c W hb hlo hhi⟩
theorem md5responses_walk (id : Int) (x : ByteArray) (A : Option Addr) (n c B : Nat) (l : List UInt8) (w : World) (hr : Rd w B A n l) (hB : B ≤ w.heap.size) (hnil : A = none → c = 0) (hm : n ≤ 1048576) (hx : x.size ≤ 1048576) (hlo : -9223372036854775808 ≤ id) (hhi : id ≤ 9223372036854775807) (hK : TabK w) (hS : TabS w) :
    Calls Tryd.prog 5 #[.int .i64 id, .string x, .slice A n c] w fun e w' => e = .returned (.bool true) ∧ Below w.heap.size w w' := by
  obtain ⟨D, k, hD, hA, hRf⟩ := resp_key id x l n hm hx hlo hhi
  obtain ⟨d0, d1, d2, d3, d4, d5, d6, d7, d8, d9, d10, d11, d12, d13, d14, d15, rfl⟩ := list16 D hD
  have EQ : ∀ W, (Op.equalIn 10000 24 (.agg #[.int .u8 (d0.toNat : Int), .int .u8 (d1.toNat : Int), .int .u8 (d2.toNat : Int), .int .u8 (d3.toNat : Int), .int .u8 (d4.toNat : Int), .int .u8 (d5.toNat : Int), .int .u8 (d6.toNat : Int), .int .u8 (d7.toNat : Int), .int .u8 (d8.toNat : Int), .int .u8 (d9.toNat : Int), .int .u8 (d10.toNat : Int), .int .u8 (d11.toNat : Int), .int .u8 (d12.toNat : Int), .int .u8 (d13.toNat : Int), .int .u8 (d14.toNat : Int), .int .u8 (d15.toNat : Int)]) (.agg #[.int .u8 (d0.toNat : Int), .int .u8 (d1.toNat : Int), .int .u8 (d2.toNat : Int), .int .u8 (d3.toNat : Int), .int .u8 (d4.toNat : Int), .int .u8 (d5.toNat : Int), .int .u8 (d6.toNat : Int), .int .u8 (d7.toNat : Int), .int .u8 (d8.toNat : Int), .int .u8 (d9.toNat : Int), .int .u8 (d10.toNat : Int), .int .u8 (d11.toNat : Int), .int .u8 (d12.toNat : Int), .int .u8 (d13.toNat : Int), .int .u8 (d14.toNat : Int), .int .u8 (d15.toNat : Int)])).run Tryd.prog W = .ok true W := fun W => by
    have h := eq16_bytes [d0, d1, d2, d3, d4, d5, d6, d7, d8, d9, d10, d11, d12, d13, d14, d15] [d0, d1, d2, d3, d4, d5, d6, d7, d8, d9, d10, d11, d12, d13, d14, d15] rfl rfl W
    rw [beq_self_eq_true] at h
    exact h
  have LA := Lib.hid (lent2_any A n c B l w hr hnil (by omega))
  have HA : Hid (∀ A c B W, Rd W B A n l → B ≤ W.heap.size → (A = none → c = 0) → TabK W → TabS W → Calls Tryd.prog 20 #[.int .i64 id, .string x, .slice A n c] W fun e w' => e = .returned (.tuple #[.agg #[.int .u8 (d0.toNat : Int), .int .u8 (d1.toNat : Int), .int .u8 (d2.toNat : Int), .int .u8 (d3.toNat : Int), .int .u8 (d4.toNat : Int), .int .u8 (d5.toNat : Int), .int .u8 (d6.toNat : Int), .int .u8 (d7.toNat : Int), .int .u8 (d8.toNat : Int), .int .u8 (d9.toNat : Int), .int .u8 (d10.toNat : Int), .int .u8 (d11.toNat : Int), .int .u8 (d12.toNat : Int), .int .u8 (d13.toNat : Int), .int .u8 (d14.toNat : Int), .int .u8 (d15.toNat : Int)], .int .i64 k]) ∧ Below W.heap.size W w') := hA
  have HRf : Hid (∀ A c B W, Rd W B A n l → B ≤ W.heap.size → (A = none → c = 0) → Calls Tryd.prog 21 #[.int .i64 id, .string x, .slice A n c] W fun e w' => e = .returned (.tuple #[.agg #[.int .u8 (d0.toNat : Int), .int .u8 (d1.toNat : Int), .int .u8 (d2.toNat : Int), .int .u8 (d3.toNat : Int), .int .u8 (d4.toNat : Int), .int .u8 (d5.toNat : Int), .int .u8 (d6.toNat : Int), .int .u8 (d7.toNat : Int), .int .u8 (d8.toNat : Int), .int .u8 (d9.toNat : Int), .int .u8 (d10.toNat : Int), .int .u8 (d11.toNat : Int), .int .u8 (d12.toNat : Int), .int .u8 (d13.toNat : Int), .int .u8 (d14.toNat : Int), .int .u8 (d15.toNat : Int)], .int .i64 k]) ∧ Below W.heap.size W w') := hRf
  have HR := Lib.hid hr
  have HK := Lib.hid hK
  have HS := Lib.hid hS
  have HL : Hid (l.length = n) := hr.1
  clear hr hK hS hA hRf hD
  go_enter Tryd.func5, Tryd.ntmps5
  go_wp2_with fail
  refine LA.out.mono ?_
  rintro e w1 ⟨g, cap, rfl, hcap, ho, hb1⟩
  have hs1 := hb1.size
  have hrd := ho.rd (by simp [HL.out]) n (by omega)
  rw [List.take_append_of_le_length (by rw [HL.out]; exact Nat.le_refl _), List.take_of_length_le (by rw [HL.out]; exact Nat.le_refl _)] at hrd
  have SA := Lib.hid (HA.out (some ⟨g, 0, none⟩) cap w1.heap.size w1 hrd (Nat.le_refl _) (fun h => nomatch h) (HK.out.kept hb1) (HS.out.kept hb1))
  have HO := Lib.hid ho
  have B1 := Lib.hid hb1
  clear ho hb1 hrd
  go_wp2_with fail
  refine SA.out.mono ?_
  rintro e w2 ⟨rfl, hb2⟩
  have hs2 := hb2.size
  have B2 := Lib.hid (B1.out.trans (hb2.mono hs1))
  have HO2 := Lib.hid (HO.out.later hb2)
  clear hb2
  obtain ⟨W3, hW3⟩ : ∃ W3, W3 = w2.alloc (.cells #[.int .u8 (d0.toNat : Int), .int .u8 (d1.toNat : Int), .int .u8 (d2.toNat : Int), .int .u8 (d3.toNat : Int), .int .u8 (d4.toNat : Int), .int .u8 (d5.toNat : Int), .int .u8 (d6.toNat : Int), .int .u8 (d7.toNat : Int), .int .u8 (d8.toNat : Int), .int .u8 (d9.toNat : Int), .int .u8 (d10.toNat : Int), .int .u8 (d11.toNat : Int), .int .u8 (d12.toNat : Int), .int .u8 (d13.toNat : Int), .int .u8 (d14.toNat : Int), .int .u8 (d15.toNat : Int)] 24) := ⟨_, rfl⟩
  have hs3 : W3.heap.size = w2.heap.size + 1 := by rw [hW3, World.size_alloc]
  have hk3 : Blk W3 w2.heap.size 24 ([d0, d1, d2, d3, d4, d5, d6, d7, d8, d9, d10, d11, d12, d13, d14, d15].map cellOf) := by rw [hW3]; exact blk_new w2 24 ([d0, d1, d2, d3, d4, d5, d6, d7, d8, d9, d10, d11, d12, d13, d14, d15].map cellOf)
  have B3 := Lib.hid (show Below w.heap.size w W3 by rw [hW3]; exact B2.out.alloc (by omega) _)
  have HO3 := Lib.hid (show Own W3 w.heap.size _ _ by rw [hW3]; exact HO2.out.alloc _)
  have RA := Lib.hid (HRf.out A c B W3 (HR.out.later hB B3.out) (by omega) hnil)
  rw [hW3] at RA
  have HW3 := Lib.hid hW3
  have HK3 := Lib.hid hk3
  clear hW3 hk3
  go_wp2_with fail
  refine RA.out.mono ?_
  rintro e w4 ⟨rfl, hb4⟩
  rw [← HW3.out] at hb4
  have hs4 := hb4.size
  obtain ⟨W5, hW5⟩ : ∃ W5, W5 = w4.alloc (.cells #[.int .u8 (d0.toNat : Int), .int .u8 (d1.toNat : Int), .int .u8 (d2.toNat : Int), .int .u8 (d3.toNat : Int), .int .u8 (d4.toNat : Int), .int .u8 (d5.toNat : Int), .int .u8 (d6.toNat : Int), .int .u8 (d7.toNat : Int), .int .u8 (d8.toNat : Int), .int .u8 (d9.toNat : Int), .int .u8 (d10.toNat : Int), .int .u8 (d11.toNat : Int), .int .u8 (d12.toNat : Int), .int .u8 (d13.toNat : Int), .int .u8 (d14.toNat : Int), .int .u8 (d15.toNat : Int)] 24) := ⟨_, rfl⟩
  have hs5 : W5.heap.size = w4.heap.size + 1 := by rw [hW5, World.size_alloc]
  have hk5 : Blk W5 w4.heap.size 24 ([d0, d1, d2, d3, d4, d5, d6, d7, d8, d9, d10, d11, d12, d13, d14, d15].map cellOf) := by rw [hW5]; exact blk_new w4 24 ([d0, d1, d2, d3, d4, d5, d6, d7, d8, d9, d10, d11, d12, d13, d14, d15].map cellOf)
  have hk4 : Blk W5 w2.heap.size 24 ([d0, d1, d2, d3, d4, d5, d6, d7, d8, d9, d10, d11, d12, d13, d14, d15].map cellOf) := by rw [hW5]; exact (Below.heap_alloc _ _ _ (by omega)).trans ((hb4.block _ (by omega)).trans HK3.out)
  have B5 := Lib.hid (show Below w.heap.size w W5 by rw [hW5]; exact (B3.out.trans (hb4.mono (by omega))).alloc (by omega) _)
  have HO5 := Lib.hid (show Own W5 w.heap.size _ _ by rw [hW5]; exact (HO3.out.later hb4).alloc _)
  have KA := Lib.hid (kept2_any A g n c cap w.heap.size B l W5 HO5.out (HR.out.later hB B5.out) (by omega))
  have AW := Lib.hid (awake_yes W5 (HK.out.kept B5.out) (HS.out.kept B5.out))
  have HKa : Hid ((w4.alloc (.cells #[.int .u8 (d0.toNat : Int), .int .u8 (d1.toNat : Int), .int .u8 (d2.toNat : Int), .int .u8 (d3.toNat : Int), .int .u8 (d4.toNat : Int), .int .u8 (d5.toNat : Int), .int .u8 (d6.toNat : Int), .int .u8 (d7.toNat : Int), .int .u8 (d8.toNat : Int), .int .u8 (d9.toNat : Int), .int .u8 (d10.toNat : Int), .int .u8 (d11.toNat : Int), .int .u8 (d12.toNat : Int), .int .u8 (d13.toNat : Int), .int .u8 (d14.toNat : Int), .int .u8 (d15.toNat : Int)] 24)).heap[w2.heap.size]? = some (.cells #[.int .u8 (d0.toNat : Int), .int .u8 (d1.toNat : Int), .int .u8 (d2.toNat : Int), .int .u8 (d3.toNat : Int), .int .u8 (d4.toNat : Int), .int .u8 (d5.toNat : Int), .int .u8 (d6.toNat : Int), .int .u8 (d7.toNat : Int), .int .u8 (d8.toNat : Int), .int .u8 (d9.toNat : Int), .int .u8 (d10.toNat : Int), .int .u8 (d11.toNat : Int), .int .u8 (d12.toNat : Int), .int .u8 (d13.toNat : Int), .int .u8 (d14.toNat : Int), .int .u8 (d15.toNat : Int)] 24 (0, 0))) := by rw [hW5] at hk4; exact hk4
  have HKb : Hid ((w4.alloc (.cells #[.int .u8 (d0.toNat : Int), .int .u8 (d1.toNat : Int), .int .u8 (d2.toNat : Int), .int .u8 (d3.toNat : Int), .int .u8 (d4.toNat : Int), .int .u8 (d5.toNat : Int), .int .u8 (d6.toNat : Int), .int .u8 (d7.toNat : Int), .int .u8 (d8.toNat : Int), .int .u8 (d9.toNat : Int), .int .u8 (d10.toNat : Int), .int .u8 (d11.toNat : Int), .int .u8 (d12.toNat : Int), .int .u8 (d13.toNat : Int), .int .u8 (d14.toNat : Int), .int .u8 (d15.toNat : Int)] 24)).heap[w4.heap.size]? = some (.cells #[.int .u8 (d0.toNat : Int), .int .u8 (d1.toNat : Int), .int .u8 (d2.toNat : Int), .int .u8 (d3.toNat : Int), .int .u8 (d4.toNat : Int), .int .u8 (d5.toNat : Int), .int .u8 (d6.toNat : Int), .int .u8 (d7.toNat : Int), .int .u8 (d8.toNat : Int), .int .u8 (d9.toNat : Int), .int .u8 (d10.toNat : Int), .int .u8 (d11.toNat : Int), .int .u8 (d12.toNat : Int), .int .u8 (d13.toNat : Int), .int .u8 (d14.toNat : Int), .int .u8 (d15.toNat : Int)] 24 (0, 0))) := by rw [hW5] at hk5; exact hk5
  rw [hW5] at KA AW B5
  clear hb4 hk4 hk5 hs5 hW5
  go_wp2_with (first
    | (refine wpList_load_row rfl 24 (.tmp 8) rfl w2.heap.size rfl 24 #[.int .u8 (d0.toNat : Int), .int .u8 (d1.toNat : Int), .int .u8 (d2.toNat : Int), .int .u8 (d3.toNat : Int), .int .u8 (d4.toNat : Int), .int .u8 (d5.toNat : Int), .int .u8 (d6.toNat : Int), .int .u8 (d7.toNat : Int), .int .u8 (d8.toNat : Int), .int .u8 (d9.toNat : Int), .int .u8 (d10.toNat : Int), .int .u8 (d11.toNat : Int), .int .u8 (d12.toNat : Int), .int .u8 (d13.toNat : Int), .int .u8 (d14.toNat : Int), .int .u8 (d15.toNat : Int)] (0, 0) _ HKa.out Tryd.underlying24 rfl info16 ?_)
    | (refine wpList_load_row rfl 24 (.tmp 10) rfl w4.heap.size rfl 24 #[.int .u8 (d0.toNat : Int), .int .u8 (d1.toNat : Int), .int .u8 (d2.toNat : Int), .int .u8 (d3.toNat : Int), .int .u8 (d4.toNat : Int), .int .u8 (d5.toNat : Int), .int .u8 (d6.toNat : Int), .int .u8 (d7.toNat : Int), .int .u8 (d8.toNat : Int), .int .u8 (d9.toNat : Int), .int .u8 (d10.toNat : Int), .int .u8 (d11.toNat : Int), .int .u8 (d12.toNat : Int), .int .u8 (d13.toNat : Int), .int .u8 (d14.toNat : Int), .int .u8 (d15.toNat : Int)] (0, 0) _ HKb.out Tryd.underlying24 rfl info16 ?_))
  refine KA.out.mono ?_
  rintro e w6 ⟨rfl, rfl⟩
  go_wp2_with fail
  refine AW.out.mono ?_
  rintro e w7 ⟨rfl, hb7⟩
  have B7 := Lib.hid (B5.out.trans (hb7.mono B5.out.size))
  clear hb7
  go_wp2
  go_ret
  exact ⟨rfl, B7.out⟩
end Go.Proofs.YtpdmopfnllfomaaDoor
