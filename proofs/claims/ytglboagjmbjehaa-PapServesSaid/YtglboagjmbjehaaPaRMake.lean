/-
  pap: what writes packets, the reference's and the program's, of anything.
-/
import Derived.Test.YtglboagjmbjehaaPaSame
namespace Go.Proofs.Ytglboagjmbjehaa
open Go.RowKit Go.Shelf
set_option maxRecDepth 100000
set_option maxHeartbeats 4000000
set_option linter.unusedSimpArgs false
set_option linter.unusedVariables false

def reqE (id : Int) (a b : ByteArray) : Int := if idB id = false then 1 else if 255 < a.size ∨ 255 < b.size then 4 else 0
def ansE (id : Int) (a : ByteArray) : Int := if idB id = false then 1 else if 255 < a.size then 4 else if shB a = false then 3 else 0
/-- a packet, or none -/
def PktZ (w : World) (code id : Int) (l : List UInt8) (err : Int) (e : Ending) (w' : World) : Prop :=
  PktR w (if err = 0 then code else 0) (if err = 0 then id else 0) (if err = 0 then l else []) err e w'
theorem pktZ_yes {w w' : World} {code id : Int} {l : List UInt8} {e : Ending} (h : PktR w code id l 0 e w') : PktZ w code id l 0 e w' := h
theorem pktZ_no {w w' : World} {code id err : Int} {l : List UInt8} (he : err ≠ 0) (hB : Below w.heap.size w w') : PktZ w code id l err (.returned (.tuple #[.agg #[.int .i64 0, .int .i64 0, .slice none 0 0], .int .i64 err])) w' := by
  unfold PktZ
  rw [if_neg he, if_neg he, if_neg he]
  exact ⟨hB, none, 0, 0, rfl, Own.nil _ _⟩
theorem number_any (id : Int) (w : World) : Calls Try.prog 56 #[.int .i64 id] w fun e w' => e = .returned (.bool (idB id)) ∧ w = w' := by
  obtain ⟨r, hr⟩ : ∃ r, idB id = r := ⟨_, rfl⟩
  rw [hr]
  unfold idB at hr
  by_cases h0 : 0 ≤ id
  · by_cases h1 : id ≤ 255
    · have HR : Hid (r = true) := by rw [← hr]; show _ = _; simp [h0, h1]
      clear hr
      go_enter Try.func56, Try.ntmps56
      go_wp2
      go_ret
      exact ⟨by rw [HR.out]; rfl, rfl⟩
    · have HR : Hid (r = false) := by rw [← hr]; show _ = _; simp [h1]
      clear hr
      go_enter Try.func56, Try.ntmps56
      go_wp2
      go_ret
      exact ⟨by rw [HR.out]; rfl, rfl⟩
  · have HR : Hid (r = false) := by rw [← hr]; show _ = _; simp [h0]
    clear hr
    go_enter Try.func56, Try.ntmps56
    go_wp2
    go_ret
    exact ⟨by rw [HR.out]; rfl, rfl⟩
theorem plain_any (s : ByteArray) (w : World) (hs : s.size ≤ maxLen) : Calls Try.prog 58 #[.string s] w fun e w' => e = .returned (.bool (shB s)) ∧ w = w' := by
  unfold maxLen at hs
  go_enter Try.func58, Try.ntmps58
  go_wp2
  go_loop [6] (fun i => ∃ k : Nat, k ≤ s.size ∧ i = .int .i64 k ∧ (s.data.toList.take k).all shc = true) (fun i => s.size - (intOf i).toNat)
  case atStart => exact ⟨0, Nat.zero_le _, rfl, by simp⟩
  case round =>
    obtain ⟨k, hk, rfl, hall⟩ := hrel
    by_cases hlt : k < s.size
    · have HA := Lib.hid hall
      clear hall
      rcases shc_ways s[k] with ⟨h, q⟩ | ⟨h, q1, q⟩ | ⟨h, q1, q2⟩
      case' inr.inr =>
        have HT : Hid ((s.data.toList.take (k + 1)).all shc = true) := by
          show _ = _
          rw [takeB s k hlt, List.all_append, HA.out, List.all_cons, h]
          rfl
        clear h
        go_wp2
        go_round
        case rel => exact ⟨k + 1, by omega, by go_num, HT.out⟩
        case measure => simp [intOf]; omega
      all_goals
        have hn := Lib.hid (sh_no hlt h)
        clear h
        go_wp2
        go_ret
        exact ⟨by rw [hn.out]; rfl, rfl⟩
    · obtain rfl : k = s.size := by omega
      rw [List.take_of_length_le (by simp)] at hall
      have hn : Hid (shB s = true) := hall
      clear hall
      go_wp2
      go_ret
      exact ⟨by rw [hn.out]; rfl, rfl⟩
theorem part_any (W w : World) (v : Value) (l : List UInt8) (s : ByteArray) (ho : Own w W.heap.size v l) (hB : Below W.heap.size W w) (hs : s.size ≤ 255) (hl : l.length ≤ 300000) :
    Calls Try.prog 59 #[v, .string s] w fun e w' => ∃ D k d, e = .returned (.slice D k d) ∧ Own w' W.heap.size (.slice D k d) (l ++ ptL s) ∧ Below W.heap.size W w' := by
  obtain ⟨A1, n1, c1, w1, A2, n2, c2, w2, r1, r2, o2, b2⟩ := part_run ho hB s hs hl
  have R1 := Lib.hid r1
  have R2 := Lib.hid r2
  have RES : Hid (Own w2 W.heap.size (.slice A2 n2 c2) (l ++ ptL s) ∧ Below W.heap.size W w2) := ⟨o2, b2⟩
  have wr8 : IntKind.u8.wrap (s.size : Int) = (s.size : Int) := by rw [IntKind.wrap_u8']; omega
  have s0 : (0 : Int) ≤ (s.size : Int) := by omega
  have s1 : (s.size : Int) ≤ 255 := by omega
  clear r1 r2 o2 b2 ho hB
  go_enter Try.func59, Try.ntmps59
  go_wp2_with (first
    | (at_builtin; refine wpList_appT rfl (.tmp 5) (.tmp 9) #[36, 36] rfl _ _ rfl rfl _ _ R1.out ?_)
    | (at_builtin; refine wpList_appT rfl (.tmp 11) (.tmp 12) #[36, 9] rfl _ _ rfl rfl _ _ R2.out ?_))
  go_ret
  exact ⟨_, _, _, rfl, RES.out⟩
end Go.Proofs.Ytglboagjmbjehaa
