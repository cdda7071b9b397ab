/-
  tetherref01.Same tells whether two slices hold the same bytes; it only reads.
-/
import Derived.Test.YtlpboleclehilaaDoorProg
import Derived.Test.YtlpboleclehilaaDoorMath
import Derived.Deep.QuietTactic
import Derived.BigQuiet
import Derived.LoopTactic
import Derived.Lib.Hide
namespace Go.Proofs.YtlpboleclehilaaDoor
open Go.RowKit

theorem same_yes (A C : Option Addr) (n ca cb : Nat) (l : List UInt8) (w : World) (B : Nat) (ha : Rd w B A n l) (hb : Rd w B C n l) (hm : n ≤ maxLen) :
    Calls Tryd.prog 51 #[.slice A n ca, .slice C n cb] w fun e w' => e = .returned (.bool true) ∧ ∃ k, w' = w.drewN k := by
  unfold maxLen at hm
  have heq : ((n : Int) != (n : Int)) = false := by simp
  have Ha := Lib.hid ha
  have Hb := Lib.hid hb
  clear ha hb
  go_enter Tryd.func51, Tryd.ntmps51
  go_wp2
  go_loopw [5] (fun i wr => ∃ k : Nat, k ≤ n ∧ i = .int .i64 k ∧ ∃ m, wr = w.drewN m) (fun i _ => n - (intOf i).toNat)
  case atStart => exact ⟨0, Nat.zero_le _, rfl, 0, rfl⟩
  case round =>
    obtain ⟨k, hk, rfl, m, rfl⟩ := hrel
    by_cases hlt : k < n
    · obtain ⟨a, o, rfl, _, hc⟩ := Ha.out.2 (by omega)
      obtain ⟨b, q, rfl, _, hd⟩ := Hb.out.2 (by omega)
      have h1 := hc k hlt
      have h2 := hd k hlt
      have hs : (byteAt l k != byteAt l k) = false := by simp
      clear hc hd
      go_wp2
      go_quiet (fail)
      go_wp2
      go_roundw
      case rel => exact ⟨k + 1, by omega, by go_num, _, rfl⟩
      case measure => simp [intOf]; omega
    · go_wp2
      go_ret
      exact ⟨rfl, _, rfl⟩
end Go.Proofs.YtlpboleclehilaaDoor
