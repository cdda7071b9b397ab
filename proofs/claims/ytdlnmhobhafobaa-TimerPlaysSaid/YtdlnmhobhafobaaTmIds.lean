/-
  tetherlaw08.ids: two rows of numbers that are the same.
-/
import Derived.Test.YtdlnmhobhafobaaTmDueW
import Derived.BigQuiet
namespace Go.Proofs.Ytdlnmhobhafobaa
open Go.RowKit Go.Shelf
set_option maxRecDepth 100000
set_option maxHeartbeats 2000000
set_option linter.unusedSimpArgs false
set_option linter.unusedVariables false

theorem below_drewI {B : Nat} {a b : World} (h : Below B a b) (n : Nat) : Below B a (b.drewN n) := ⟨h.os, h.tape, h.output, h.size, h.block⟩
theorem ownI_cell {w : World} {base g n cap : Nat} {l : List Int} (h : OwnI w base (.slice (some ⟨g, 0, none⟩) n cap) l) (i : Nat) (z : Int) (hz : l[i]? = some z) : w.cell? ⟨g, i, none⟩ = some (.int .i64 z) := by
  have h0 := World.ownsRow.cells h (g := g) rfl i (.int .i64 z) (by rw [List.getElem?_map, hz]; rfl)
  rwa [addr_add] at h0
theorem ownI_shape {w : World} {base : Nat} {v : Value} {l : List Int} (h : OwnI w base v l) (h0 : 0 < l.length) : ∃ g c, v = .slice (some ⟨g, 0, none⟩) l.length c ∧ g < w.heap.size := by
  rcases h.2 with ⟨e, e0⟩ | ⟨g, cap, cur, e, hb, hg, _⟩
  · omega
  · exact ⟨g, cap, e, (Array.getElem?_eq_some_iff.1 hg).1⟩
theorem ids_yes (u v : Value) (l : List Int) (b1 b2 : Nat) (w : World) (h : OwnI w b1 u l) (k : OwnI w b2 v l) (hm : l.length ≤ 1152921504606846976) :
    Calls Try.prog 60 #[u, v] w fun e w' => e = .returned (.bool true) ∧ Below w.heap.size w w' := by
  obtain ⟨n, hn⟩ : ∃ n, l.length = n := ⟨_, rfl⟩
  obtain ⟨A, c, rfl, _⟩ := h.form.1
  obtain ⟨D, d, rfl, _⟩ := k.form.1
  have HO := Lib.hid h
  have KO := Lib.hid k
  rw [hn] at HO KO hm
  rw [hn]
  clear h k
  go_enter Try.func60, Try.ntmps60
  go_wp2
  go_loopw [13] (fun i wr => ∃ (k q : Nat), k ≤ n ∧ i = .int .i64 k ∧ wr = w.drewN q) (fun i _ => n - (intOf i).toNat)
  case atStart => exact ⟨0, 0, Nat.zero_le _, rfl, rfl⟩
  case round =>
    obtain ⟨k, q, hk, rfl, rfl⟩ := hrel
    by_cases hlt : k < n
    · obtain ⟨z, hz⟩ : ∃ z, l[k]? = some z := ⟨l[k]'(by omega), List.getElem?_eq_getElem _⟩
      obtain ⟨g1, d1, e1, hg1⟩ := ownI_shape HO.out (by omega)
      obtain ⟨g2, d2, e2, hg2⟩ := ownI_shape KO.out (by omega)
      injection e1 with e1 e3 e4
      injection e2 with e2 e5 e6
      clear e3 e4 e5 e6
      subst e1 e2
      have c1 := ownI_cell HO.out k z hz
      have c2 := ownI_cell KO.out k z hz
      have ez : (z != z) = false := by simp
      have HL := Lib.hid hn
      clear hz hn
      go_upto_region 6 with (fail)
      go_quiet (fail)
      go_wp2
      go_roundw
      case rel => exact ⟨k + 1, _, by omega, by go_num, rfl⟩
      case measure => simp [intOf]; omega
    · go_wp2
      go_ret
      exact ⟨rfl, below_drewI (Below.refl _ _) _⟩
end Go.Proofs.Ytdlnmhobhafobaa
