/-
  tetherlaw02.FcsFar is true, whatever it is asked, and writes nothing that was there.
-/
import Derived.Test.YtamcoppfjmggcaaDoorJoins
namespace Go.Proofs.YtamcoppfjmggcaaDoor
open Go.RowKit
set_option maxRecDepth 100000
set_option maxHeartbeats 1000000
set_option linter.unusedSimpArgs false
set_option linter.unusedVariables false

theorem awake_behind_far (w : World) (h16 : Tab16 w) (h32 : Tab32 w) :
    ∀ W, Below w.heap.size w W → Calls Tryd.prog 31 #[] W fun e w' => e = .returned (.bool true) ∧ Below w.heap.size w w' := by
  intro W hB
  refine (awake_yes W (h16.kept hB) (h32.kept hB)).mono ?_
  rintro e w' ⟨rfl, hB'⟩
  exact ⟨rfl, hB.trans (hB'.mono hB.size)⟩

theorem fcsfar_walk (p m n : Int) (w : World) (hp0 : 0 ≤ p) (hp1 : p ≤ 4294967295) (h16 : Tab16 w) (h32 : Tab32 w) :
    Calls Tryd.prog 7 #[.int .u32 p, .int .i64 m, .int .i64 n] w fun e w' => e = .returned (.bool true) ∧ Below w.heap.size w w' := by
  have AW := Lib.hid (awake_behind_far w h16 h32)
  clear h16 h32
  by_cases h1 : m < 0
  · go_enter Tryd.func7, Tryd.ntmps7
    go_wp2_with fail
    refine (AW.out _ (Below.refl _ _)).mono ?_
    rintro e w1 ⟨rfl, hB⟩
    have BB := Lib.hid hB
    clear hB
    go_wp2
    go_ret
    exact ⟨rfl, BB.out⟩
  by_cases h2 : n < 0
  · go_enter Tryd.func7, Tryd.ntmps7
    go_wp2_with fail
    refine (AW.out _ (Below.refl _ _)).mono ?_
    rintro e w1 ⟨rfl, hB⟩
    have BB := Lib.hid hB
    clear hB
    go_wp2
    go_ret
    exact ⟨rfl, BB.out⟩
  by_cases h3 : 2305843009213693952 < m
  · go_enter Tryd.func7, Tryd.ntmps7
    go_wp2_with fail
    refine (AW.out _ (Below.refl _ _)).mono ?_
    rintro e w1 ⟨rfl, hB⟩
    have BB := Lib.hid hB
    clear hB
    go_wp2
    go_ret
    exact ⟨rfl, BB.out⟩
  by_cases h4 : 2305843009213693952 < n
  · go_enter Tryd.func7, Tryd.ntmps7
    go_wp2_with fail
    refine (AW.out _ (Below.refl _ _)).mono ?_
    rintro e w1 ⟨rfl, hB⟩
    have BB := Lib.hid hB
    clear hB
    go_wp2
    go_ret
    exact ⟨rfl, BB.out⟩
  obtain ⟨P, hP⟩ : ∃ P : Nat, p = (P : Int) := ⟨p.toNat, by omega⟩
  obtain ⟨M, hM⟩ : ∃ M : Nat, m = (M : Int) := ⟨m.toNat, by omega⟩
  obtain ⟨N, hN⟩ : ∃ N : Nat, n = (N : Int) := ⟨n.toNat, by omega⟩
  have hPl : P < 2 ^ 32 := by omega
  have hMl : M < 2 ^ 62 := by omega
  have hNl : N < 2 ^ 62 := by omega
  have hQ : p % 65536 = ((P % 65536 : Nat) : Int) := by omega
  have hQl : P % 65536 < 2 ^ 16 := by omega
  have e32 := join32_far P M N hPl hMl hNl
  have e16 := join16_far (P % 65536) M N hQl hMl hNl
  have l32 := join32_lt P 0 M hPl (by omega)
  have l16 := join16_lt (P % 65536) 0 M hQl (by omega)
  have c1 := fun W a ha => join32_of P 0 M p 0 m a W hP rfl hM ha hPl (by omega) (by omega)
  have c2 := fun W a b ha hb => join32_of (join32 P 0 M) 0 N a 0 n b W ha rfl hN hb l32 (by omega) (by omega)
  have c3 := fun W a ha => join32_of P 0 (M + N) p 0 (m + n) a W hP rfl (by omega) ha hPl (by omega) (by omega)
  have c4 := fun W a ha => join16_of (P % 65536) 0 M (p % 65536) 0 m a W hQ rfl hM ha hQl (by omega) (by omega)
  have c5 := fun W a b ha hb => join16_of (join16 (P % 65536) 0 M) 0 N a 0 n b W ha rfl hN hb l16 (by omega) (by omega)
  have c6 := fun W a ha => join16_of (P % 65536) 0 (M + N) (p % 65536) 0 (m + n) a W hQ rfl (by omega) ha hQl (by omega) (by omega)
  rw [e32] at c2
  rw [e16] at c5
  obtain ⟨a, ha⟩ : ∃ z : Int, z = ((join32 P 0 M : Nat) : Int) := ⟨_, rfl⟩
  obtain ⟨b, hb⟩ : ∃ z : Int, z = ((join32 P 0 (M + N) : Nat) : Int) := ⟨_, rfl⟩
  obtain ⟨d, hd⟩ : ∃ z : Int, z = ((join16 (P % 65536) 0 M : Nat) : Int) := ⟨_, rfl⟩
  obtain ⟨x, hx⟩ : ∃ z : Int, z = ((join16 (P % 65536) 0 (M + N) : Nat) : Int) := ⟨_, rfl⟩
  have C1 := Lib.hid fun W => c1 W a ha
  have C2 := Lib.hid fun W => c2 W a b ha hb
  have C3 := Lib.hid fun W => c3 W b hb
  have C4 := Lib.hid fun W => c4 W d hd
  have C5 := Lib.hid fun W => c5 W d x hd hx
  have C6 := Lib.hid fun W => c6 W x hx
  have m0 : 0 ≤ m := by omega
  have n0 : 0 ≤ n := by omega
  have m1 : m ≤ 2305843009213693952 := by omega
  have n1 : n ≤ 2305843009213693952 := by omega
  clear c1 c2 c3 c4 c5 c6 e32 e16 l32 l16 ha hb hd hx hP hM hN hQ hPl hMl hNl hQl h1 h2 h3 h4
  go_enter Tryd.func7, Tryd.ntmps7
  go_wp2_with fail
  refine (C1.out _).mono ?_
  rintro e w1 ⟨rfl, hB⟩
  have B1 := Lib.hid hB
  clear hB
  go_wp2_with fail
  refine (C2.out _).mono ?_
  rintro e w2 ⟨rfl, hB⟩
  have B2 := Lib.hid (B1.out.trans (hB.mono B1.out.size))
  clear hB B1
  go_wp2_with fail
  refine (C3.out _).mono ?_
  rintro e w3 ⟨rfl, hB⟩
  have B3 := Lib.hid (B2.out.trans (hB.mono B2.out.size))
  clear hB B2
  go_wp2_with fail
  refine (C4.out _).mono ?_
  rintro e w4 ⟨rfl, hB⟩
  have B4 := Lib.hid (B3.out.trans (hB.mono B3.out.size))
  clear hB B3
  go_wp2_with fail
  refine (C5.out _).mono ?_
  rintro e w5 ⟨rfl, hB⟩
  have B5 := Lib.hid (B4.out.trans (hB.mono B4.out.size))
  clear hB B4
  go_wp2_with fail
  refine (C6.out _).mono ?_
  rintro e w6 ⟨rfl, hB⟩
  have B6 := Lib.hid (B5.out.trans (hB.mono B5.out.size))
  clear hB B5
  go_wp2_with fail
  refine (AW.out _ B6.out).mono ?_
  rintro e w7 ⟨rfl, hB⟩
  have BB := Lib.hid hB
  clear hB
  go_wp2
  go_ret
  exact ⟨rfl, BB.out⟩
end Go.Proofs.YtamcoppfjmggcaaDoor
