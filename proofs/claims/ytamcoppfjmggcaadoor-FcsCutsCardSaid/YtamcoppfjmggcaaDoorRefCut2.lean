/-
  tetherref02.Good, tetherref02.Cut; fcs.Cut16, fcs.Cut32 of any bytes.
-/
import Derived.Test.YtamcoppfjmggcaaDoorFcsSumsWalk
namespace Go.Proofs.YtamcoppfjmggcaaDoor
open Go.RowKit
set_option maxRecDepth 100000
set_option maxHeartbeats 400000
set_option linter.unusedSimpArgs false
set_option linter.unusedVariables false

/-- is the sum behind the bytes theirs -/
def fine16 (l : List UInt8) : Bool := decide (2 ≤ l.length ∧ crc P16 65535 l = 61624)
def fine32 (l : List UInt8) : Bool := decide (4 ≤ l.length ∧ crc P32 4294967295 l = 3736805603)

theorem refgood16_any (A : Option Addr) (n c B : Nat) (l : List UInt8) (w : World) (hr : Rd w B A n l) (hn : n ≤ maxLen) :
    Calls Tryd.prog 41 #[.slice A n c, .bool false] w fun e w' => e = .returned (.bool (fine16 l)) ∧ w = w' := by
  have C : Calls Tryd.prog 25 #[.int .u16 65535, .slice A n c] w _ := refon16_any A n c 65535 B l w hr hn (by omega)
  have hl := hr.1
  have hlt := crc16_lt l 65535 (by omega)
  obtain ⟨y, hy⟩ : ∃ y : Int, y = ((crc P16 65535 l : Nat) : Int) := ⟨_, rfl⟩
  rw [← hy] at C
  by_cases h2 : 2 ≤ n
  · have HF : Hid ((y == 61624) = fine16 l) := by
      show _ = _
      unfold fine16
      rw [Bool.eq_iff_iff]
      simp
      omega
    have CC := Lib.hid C
    clear C hy hr hl hlt
    go_enter Tryd.func41, Tryd.ntmps41
    go_wp2_with fail
    refine (CC.out).mono ?_
    rintro e w1 ⟨rfl, rfl⟩
    go_wp2
    go_ret
    exact ⟨by rw [HF.out]; rfl, rfl⟩
  · have HF : Hid (fine16 l = false) := by
      show _ = _
      unfold fine16
      simp
      omega
    clear C hy hr hl hlt
    go_enter Tryd.func41, Tryd.ntmps41
    go_wp2
    go_ret
    exact ⟨by rw [HF.out]; rfl, rfl⟩
theorem refgood32_any (A : Option Addr) (n c B : Nat) (l : List UInt8) (w : World) (hr : Rd w B A n l) (hn : n ≤ maxLen) :
    Calls Tryd.prog 41 #[.slice A n c, .bool true] w fun e w' => e = .returned (.bool (fine32 l)) ∧ w = w' := by
  have C : Calls Tryd.prog 27 #[.int .u32 4294967295, .slice A n c] w _ := refon32_any A n c 4294967295 B l w hr hn (by omega)
  have hl := hr.1
  have hlt := crc32_lt l 4294967295 (by omega)
  obtain ⟨y, hy⟩ : ∃ y : Int, y = ((crc P32 4294967295 l : Nat) : Int) := ⟨_, rfl⟩
  rw [← hy] at C
  by_cases h2 : 4 ≤ n
  · have HF : Hid ((y == 3736805603) = fine32 l) := by
      show _ = _
      unfold fine32
      rw [Bool.eq_iff_iff]
      simp
      omega
    have CC := Lib.hid C
    clear C hy hr hl hlt
    go_enter Tryd.func41, Tryd.ntmps41
    go_wp2_with fail
    refine (CC.out).mono ?_
    rintro e w1 ⟨rfl, rfl⟩
    go_wp2
    go_ret
    exact ⟨by rw [HF.out]; rfl, rfl⟩
  · have HF : Hid (fine32 l = false) := by
      show _ = _
      unfold fine32
      simp
      omega
    clear C hy hr hl hlt
    go_enter Tryd.func41, Tryd.ntmps41
    go_wp2
    go_ret
    exact ⟨by rw [HF.out]; rfl, rfl⟩

/-- what is told of bytes with a sum behind: where there is one, a slice of them -/
def CutIs (l : List UInt8) (k : Nat) (ok : Bool) (v : Value) (s : Nat) (er : Int) (W : World) : Prop :=
  (ok = true ∧ er = 0 ∧ ∃ D d, v = .slice D (s - k) d ∧ Rd W W.heap.size D (s - k) (l.take (s - k))) ∨ (ok = false ∧ v = .slice none 0 0 ∧ er = (if s < k then 8 else 20))

theorem refcut16_any (A : Option Addr) (n c B : Nat) (l : List UInt8) (w : World) (hr : Rd w B A n l) (hB : B ≤ w.heap.size) (hc : n ≤ c) (hn : n ≤ maxLen) :
    Calls Tryd.prog 33 #[.slice A n c, .bool false] w fun e w' => ∃ v er, e = .returned (.tuple #[v, .int .i64 er]) ∧ CutIs l 2 (fine16 l) v n er w' ∧ w = w' := by
  have C := refgood16_any A n c B l w hr hn
  have hl := hr.1
  unfold maxLen at hn
  by_cases h2 : 2 ≤ n
  · obtain ⟨b, off, rfl, hlt, hcell⟩ := hr.2 (by omega)
    rcases hf : fine16 l with _ | _
    · rw [hf] at C
      have CC := Lib.hid C
      have hn2 : (2 : Int) ≤ (n : Int) := by omega
      clear C hr hl hf hcell
      go_enter Tryd.func33, Tryd.ntmps33
      go_wp2_with fail
      refine (CC.out).mono ?_
      rintro e w1 ⟨rfl, rfl⟩
      go_wp2
      go_ret2
      exact ⟨_, _, rfl, .inr ⟨rfl, rfl, by rw [if_neg (by omega)]⟩, rfl⟩
    · rw [hf] at C
      have CC := Lib.hid C
      have hn2 : (2 : Int) ≤ (n : Int) := by omega
      have hns : ((n : Int) - 2).toNat = n - 2 := by omega
      have hnc : n - 2 ≤ c := by omega
      have RD : Hid (Rd w w.heap.size (some ⟨b, off, none⟩) (n - 2) (l.take (n - 2))) := by
        refine ⟨by rw [List.length_take]; omega, fun h0 => ⟨b, off, rfl, by omega, fun j hj => ?_⟩⟩
        have h := hcell j (by omega)
        rw [show byteAt (l.take (n - 2)) j = byteAt l j by unfold byteAt; rw [List.getD_eq_getElem?_getD, List.getD_eq_getElem?_getD, List.getElem?_take_of_lt hj]]
        exact h
      clear C hr hl hf hcell
      go_enter Tryd.func33, Tryd.ntmps33
      go_wp2_with fail
      refine (CC.out).mono ?_
      rintro e w1 ⟨rfl, rfl⟩
      go_wp2
      go_ret2
      exact ⟨_, _, rfl, .inl ⟨rfl, rfl, _, _, rfl, RD.out⟩, rfl⟩
  · have HF : Hid (fine16 l = false) := by
      show _ = _
      unfold fine16
      simp
      omega
    clear C hr hl
    go_enter Tryd.func33, Tryd.ntmps33
    go_wp2
    go_ret2
    exact ⟨_, _, rfl, .inr ⟨HF.out, rfl, by rw [if_pos (by omega)]⟩, rfl⟩
theorem refcut32_any (A : Option Addr) (n c B : Nat) (l : List UInt8) (w : World) (hr : Rd w B A n l) (hB : B ≤ w.heap.size) (hc : n ≤ c) (hn : n ≤ maxLen) :
    Calls Tryd.prog 33 #[.slice A n c, .bool true] w fun e w' => ∃ v er, e = .returned (.tuple #[v, .int .i64 er]) ∧ CutIs l 4 (fine32 l) v n er w' ∧ w = w' := by
  have C := refgood32_any A n c B l w hr hn
  have hl := hr.1
  unfold maxLen at hn
  by_cases h2 : 4 ≤ n
  · obtain ⟨b, off, rfl, hlt, hcell⟩ := hr.2 (by omega)
    rcases hf : fine32 l with _ | _
    · rw [hf] at C
      have CC := Lib.hid C
      have hn2 : (4 : Int) ≤ (n : Int) := by omega
      clear C hr hl hf hcell
      go_enter Tryd.func33, Tryd.ntmps33
      go_wp2_with fail
      refine (CC.out).mono ?_
      rintro e w1 ⟨rfl, rfl⟩
      go_wp2
      go_ret2
      exact ⟨_, _, rfl, .inr ⟨rfl, rfl, by rw [if_neg (by omega)]⟩, rfl⟩
    · rw [hf] at C
      have CC := Lib.hid C
      have hn2 : (4 : Int) ≤ (n : Int) := by omega
      have hns : ((n : Int) - 4).toNat = n - 4 := by omega
      have hnc : n - 4 ≤ c := by omega
      have RD : Hid (Rd w w.heap.size (some ⟨b, off, none⟩) (n - 4) (l.take (n - 4))) := by
        refine ⟨by rw [List.length_take]; omega, fun h0 => ⟨b, off, rfl, by omega, fun j hj => ?_⟩⟩
        have h := hcell j (by omega)
        rw [show byteAt (l.take (n - 4)) j = byteAt l j by unfold byteAt; rw [List.getD_eq_getElem?_getD, List.getD_eq_getElem?_getD, List.getElem?_take_of_lt hj]]
        exact h
      clear C hr hl hf hcell
      go_enter Tryd.func33, Tryd.ntmps33
      go_wp2_with fail
      refine (CC.out).mono ?_
      rintro e w1 ⟨rfl, rfl⟩
      go_wp2
      go_ret2
      exact ⟨_, _, rfl, .inl ⟨rfl, rfl, _, _, rfl, RD.out⟩, rfl⟩
  · have HF : Hid (fine32 l = false) := by
      show _ = _
      unfold fine32
      simp
      omega
    clear C hr hl
    go_enter Tryd.func33, Tryd.ntmps33
    go_wp2
    go_ret2
    exact ⟨_, _, rfl, .inr ⟨HF.out, rfl, by rw [if_pos (by omega)]⟩, rfl⟩
end Go.Proofs.YtamcoppfjmggcaaDoor
