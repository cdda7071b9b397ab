/-
  IpSums: the law's walk.
-/
import Derived.Test.YtjkdlmielckaaaaDoorIpSumT
import Derived.Test.YtjkdlmielckaaaaDoorIpAw
namespace Go.Proofs.YtjkdlmielckaaaaDoor
open Go.RowKit
theorem ipsums_walk (A : Option Addr) (n c : Nat) (l : List UInt8) (t : Int) (w : World) (hr : Rd w w.heap.size A n l) (hA : A = none → c = 0) (hnc : n ≤ c) (hn : n ≤ 140737488351232)
    (ht0 : -9223372036854775808 ≤ t) (ht1 : t ≤ 9223372036854775807) :
    Calls Tryd.prog 6 #[.slice A n c, .int .i64 t] w fun e w' => e = .returned (.bool true) ∧ Below w.heap.size w w' := by
  have AW := Lib.hid (fun W => awake18 W)
  obtain ⟨p, hp⟩ : ∃ p, n = 2 * p ∨ n = 2 * p + 1 := ⟨n / 2, by omega⟩
  rcases hp with hp | hp
  · exact ipsums_even n p A c l t w AW hr hA hnc hn hp ht0 ht1
  · obtain ⟨b, o, rfl, _, _⟩ := hr.2 (by omega)
    exact ipsums_odd n (2 * p) p b o c (l.take (2 * p)) t w AW (hr.front (by omega)) hp hnc (by omega) rfl ht0 ht1
end Go.Proofs.YtjkdlmielckaaaaDoor
