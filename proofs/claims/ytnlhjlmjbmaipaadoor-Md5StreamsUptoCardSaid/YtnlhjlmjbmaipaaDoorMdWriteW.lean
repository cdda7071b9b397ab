/-
  (*md5.Stream).Write: the walks.
-/
import Derived.Test.YtnlhjlmjbmaipaaDoorMdWrite
import Derived.Outline
namespace Go.Proofs.YtnlhjlmjbmaipaaDoor
open Go.RowKit
set_option maxRecDepth 100000
set_option maxHeartbeats 2000000
set_option linter.unusedSimpArgs false
set_option linter.unusedVariables false

theorem write_short (base g nn c B : Nat) (l m : List UInt8) (v : Value) (A : Option Addr) (w : World) (h : Stm w base g l v) (hr : Rd w B A nn m) (hg : ∀ x o, A = some ⟨x, o, none⟩ → 0 < nn → x ≠ g)
    (hm : l.length + nn ≤ 140737488351240) (hlt : l.length % 64 + nn < 64) :
    Calls Tryd.prog 8 #[.pointer (some ⟨g, 0, none⟩), .slice A nn c] w fun e w' => e = .returned (.int .i64 0) ∧ ∃ v', Stm w' base g (l ++ m) v' ∧ Frm g v v' w w' := by
  obtain ⟨rest, hst, hrest⟩ := h
  have hl := hr.1
  obtain ⟨w2, hcp, hst2, hg2⟩ := write_first (c := c) hst hr hg (Nat.mod_lt l.length (by omega)) (k := nn) (by omega)
  have POST : Hid (∃ v', Stm w2 base g (l ++ m) v' ∧ Frm g v v' w w2) := by
    refine ⟨v, ⟨rest.take (l.length % 64) ++ (m.take nn ++ rest.drop (l.length % 64 + nn)), ?_, ?_⟩, (Frm.refl g v w).grownG hg2⟩
    · rw [wordsAll_short l m (by omega), List.length_append, hl]
      exact hst2
    · have e : (l ++ m).length % 64 = l.length % 64 + nn := by rw [List.length_append]; omega
      have h64 := hst.len
      rw [restOf_short l m (by omega), e, ← hrest, List.take_of_length_le (l := m) (by omega), ← List.append_assoc, List.take_append_of_le_length (by simp; omega), List.take_of_length_le (by simp; omega)]
  have c65 := hst.size
  have f65 := hst.blk.frozen 65
  have HE := Lib.hid (held_any g l.length w c65 (by omega))
  obtain ⟨n, hn⟩ : ∃ n, n = l.length := ⟨_, rfl⟩
  rw [← hn] at HE c65 hcp hm hlt
  obtain ⟨r, hr0⟩ : ∃ r, r = n % 64 := ⟨_, rfl⟩
  rw [← hr0] at HE hlt hcp
  have i0 : (0 : Int) ≤ (r : Int) := by omega
  have i1 : (r : Int) ≤ 64 := by omega
  have i2 : ¬ (64 = r) := by omega
  have i3 : ¬ ((64 : Int) = (r : Int)) := by omega
  clear hst hst2 hr hg2 hrest hl hn hr0 hg
  go_enter Tryd.func8, Tryd.ntmps8
  go_wp2_with (go_at_call 18; refine HE.out.mono ?_; rintro e w' ⟨rfl, rfl⟩)
  go_outline
  go_ret
  exact ⟨rfl, POST.out⟩
end Go.Proofs.YtnlhjlmjbmaipaaDoor
