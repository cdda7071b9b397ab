/-
  Check.Add, Sum and Good.
-/
import Derived.Test.YtdnheiefbecaeaaDoorCheck
import Derived.Test.YtdnheiefbecaeaaDoorSums16
import Derived.Test.YtdnheiefbecaeaaDoorSums32
namespace Go.Proofs.YtdnheiefbecaeaaDoor
open Go.RowKit
set_option maxRecDepth 100000
set_option maxHeartbeats 800000
set_option linter.unusedSimpArgs false
set_option linter.unusedVariables false

theorem Chk.on {w w' : World} {g : Nat} {b r n : Int} (h : Chk w g b r n) (hB : Below w.heap.size w w') : Chk w' g b r n := h.kept (only_of_below hB none) (by simp)

theorem add16_any (g : Nat) (r m : Int) (R : Nat) (A : Option Addr) (k c B : Nat) (l : List UInt8) (w : World) (h : Chk w g 16 r m) (hr0 : 0 ≤ r) (hr1 : r ≤ 4294967295) (hR : r % 65536 = (R : Int)) (hm0 : 0 ≤ m) (hm1 : m ≤ 1048576)
    (hr : Rd w B A k l) (hc : k ≤ c) (hk : k ≤ 1048576) (hT : Tab16 w) :
    Calls Tryd.prog 22 #[.pointer (some ⟨g, 0, none⟩), .slice A k c] w fun e w' => e = .returned (.int .i64 0) ∧ Chk w' g 16 (crc P16 R l : Nat) (m + k) ∧ w.grownBy w' (some g) := by
  obtain ⟨c0, c1, c2⟩ := h.cells
  obtain ⟨z, hz⟩ : ∃ z : Int, z = ((crc P16 R l : Nat) : Int) := ⟨_, rfl⟩
  have hlt := crc16_lt l R (by omega)
  have z0 : 0 ≤ z := by omega
  have z1 : z ≤ 65535 := by omega
  have C := on16_any A k c R B l w hr hc (by unfold maxLen; omega) (by omega) hT
  rw [← hz, ← hR] at C
  rw [← hz]
  have CC := Lib.hid C
  have HC : Hid (∀ q, Chk (w.drewN q) g 16 r m) := fun q => h
  have f1 : ∀ q, (w.drewN q).frozen? ⟨g, 1, none⟩ = false := fun q => Blk.frozen (HC.out q) 1
  have H1 : Hid (∀ q, Chk ((w.drewN q).setCell ⟨g, 1, none⟩ (.int .u32 z)) g 16 z m) := fun q => Blk.set_ (HC.out q) 1 _
  have H2 : Hid (∀ q, Chk (((w.drewN q).setCell ⟨g, 1, none⟩ (.int .u32 z)).setCell ⟨g, 2, none⟩ (.int .i64 (m + k))) g 16 z (m + k)) := fun q => Blk.set_ (H1.out q) 2 _
  have GG : Hid (∀ q, w.grownBy (((w.drewN q).setCell ⟨g, 1, none⟩ (.int .u32 z)).setCell ⟨g, 2, none⟩ (.int .i64 (m + k))) (some g)) := by
    show ∀ q, _
    intro q
    exact only_then (only_then (only_of_below (below_drewN (Below.refl _ _) q) (some g)) (only_set (w := w.drewN q) (p := ⟨g, 1, none⟩) (.int .u32 z)) (fun i hi => .inl hi)) (only_set (w := (w.drewN q).setCell ⟨g, 1, none⟩ (.int .u32 z)) (p := ⟨g, 2, none⟩) (.int .i64 (m + k))) (fun i hi => .inl hi)
  clear C hz hlt hr hT
  go_enter Tryd.func22, Tryd.ntmps22
  go_wp2_with fail
  refine (CC.out).mono ?_
  rintro e w1 ⟨rfl, q, rfl⟩
  have c0' : (w.drewN q).cell? ⟨g, 0, none⟩ = some (.int .i64 16) := c0
  have c2' : (w.drewN q).cell? ⟨g, 2, none⟩ = some (.int .i64 m) := c2
  have f1' := f1 q
  have f2' := Blk.frozen (H1.out q) 2
  go_wp2
  go_ret
  exact ⟨rfl, H2.out q, GG.out q⟩
theorem add32_any (g : Nat) (r m : Int) (R : Nat) (A : Option Addr) (k c B : Nat) (l : List UInt8) (w : World) (h : Chk w g 32 r m) (hR : r = (R : Int)) (hr1 : R < 2 ^ 32) (hm0 : 0 ≤ m) (hm1 : m ≤ 1048576)
    (hr : Rd w B A k l) (hc : k ≤ c) (hk : k ≤ 1048576) (hT : Tab32 w) :
    Calls Tryd.prog 22 #[.pointer (some ⟨g, 0, none⟩), .slice A k c] w fun e w' => e = .returned (.int .i64 0) ∧ Chk w' g 32 (crc P32 R l : Nat) (m + k) ∧ w.grownBy w' (some g) := by
  obtain ⟨c0, c1, c2⟩ := h.cells
  obtain ⟨z, hz⟩ : ∃ z : Int, z = ((crc P32 R l : Nat) : Int) := ⟨_, rfl⟩
  have hlt := crc32_lt l R hr1
  have z0 : 0 ≤ z := by omega
  have z1 : z ≤ 4294967295 := by omega
  have C := on32_any A k c R B l w hr hc (by unfold maxLen; omega) hr1 hT
  rw [← hz, ← hR] at C
  rw [← hz]
  have CC := Lib.hid C
  have HC : Hid (∀ q, Chk (w.drewN q) g 32 r m) := fun q => h
  have f1 : ∀ q, (w.drewN q).frozen? ⟨g, 1, none⟩ = false := fun q => Blk.frozen (HC.out q) 1
  have H1 : Hid (∀ q, Chk ((w.drewN q).setCell ⟨g, 1, none⟩ (.int .u32 z)) g 32 z m) := fun q => Blk.set_ (HC.out q) 1 _
  have H2 : Hid (∀ q, Chk (((w.drewN q).setCell ⟨g, 1, none⟩ (.int .u32 z)).setCell ⟨g, 2, none⟩ (.int .i64 (m + k))) g 32 z (m + k)) := fun q => Blk.set_ (H1.out q) 2 _
  have GG : Hid (∀ q, w.grownBy (((w.drewN q).setCell ⟨g, 1, none⟩ (.int .u32 z)).setCell ⟨g, 2, none⟩ (.int .i64 (m + k))) (some g)) := by
    show ∀ q, _
    intro q
    exact only_then (only_then (only_of_below (below_drewN (Below.refl _ _) q) (some g)) (only_set (w := w.drewN q) (p := ⟨g, 1, none⟩) (.int .u32 z)) (fun i hi => .inl hi)) (only_set (w := (w.drewN q).setCell ⟨g, 1, none⟩ (.int .u32 z)) (p := ⟨g, 2, none⟩) (.int .i64 (m + k))) (fun i hi => .inl hi)
  clear C hz hlt hr hT hR
  go_enter Tryd.func22, Tryd.ntmps22
  go_wp2_with fail
  refine (CC.out).mono ?_
  rintro e w1 ⟨rfl, q, rfl⟩
  have c0' : (w.drewN q).cell? ⟨g, 0, none⟩ = some (.int .i64 32) := c0
  have c2' : (w.drewN q).cell? ⟨g, 2, none⟩ = some (.int .i64 m) := c2
  have f1' := f1 q
  have f2' := Blk.frozen (H1.out q) 2
  go_wp2
  go_ret
  exact ⟨rfl, H2.out q, GG.out q⟩
theorem csum16_any (g : Nat) (r m : Int) (R : Nat) (w : World) (h : Chk w g 16 r m) (hr0 : 0 ≤ r) (hr1 : r ≤ 4294967295) (hR : r % 65536 = (R : Int)) :
    Calls Tryd.prog 27 #[.pointer (some ⟨g, 0, none⟩)] w fun e w' => e = .returned (.int .u32 ((65535 - R : Nat) : Int)) ∧ w = w' := by
  obtain ⟨c0, c1, c2⟩ := h.cells
  have hx : bits .xor .u16 IntKind.u16.max (R : Int) = ((65535 - R : Nat) : Int) := by
    have h := xor_int16 65535 R (by omega) (by omega)
    rw [full_xor16 _ (by omega)] at h
    exact h
  obtain ⟨s, hs⟩ : ∃ s : Int, s = ((65535 - R : Nat) : Int) := ⟨_, rfl⟩
  rw [← hs] at hx
  rw [← hs]
  have s0 : 0 ≤ s := by omega
  have s1 : s ≤ 65535 := by omega
  have hw : IntKind.u16.wrap r = (R : Int) := by rw [IntKind.wrap_u16]; exact hR
  have hsm : s % 4294967296 = s := by omega
  clear h hs
  go_enter Tryd.func27, Tryd.ntmps27
  go_wp2
  go_ret
  exact ⟨rfl, rfl⟩
theorem csum32_any (g : Nat) (r m : Int) (R : Nat) (w : World) (h : Chk w g 32 r m) (hR : r = (R : Int)) (hr1 : R < 2 ^ 32) :
    Calls Tryd.prog 27 #[.pointer (some ⟨g, 0, none⟩)] w fun e w' => e = .returned (.int .u32 ((4294967295 - R : Nat) : Int)) ∧ w = w' := by
  obtain ⟨c0, c1, c2⟩ := h.cells
  have hx : bits .xor .u32 IntKind.u32.max r = ((4294967295 - R : Nat) : Int) := by
    have h := xor_int32 4294967295 R (by omega) (by omega)
    rw [full_xor32 _ (by omega)] at h
    rw [hR]
    exact h
  obtain ⟨s, hs⟩ : ∃ s : Int, s = ((4294967295 - R : Nat) : Int) := ⟨_, rfl⟩
  rw [← hs] at hx
  rw [← hs]
  clear h hs hR
  go_enter Tryd.func27, Tryd.ntmps27
  go_wp2
  go_ret
  exact ⟨rfl, rfl⟩
theorem cgood16_any (g : Nat) (r m : Int) (b : Bool) (w : World) (h : Chk w g 16 r m) (hb : b = decide (2 ≤ m ∧ r = 61624)) :
    Calls Tryd.prog 28 #[.pointer (some ⟨g, 0, none⟩)] w fun e w' => e = .returned (.bool b) ∧ w = w' := by
  obtain ⟨c0, c1, c2⟩ := h.cells
  clear h
  by_cases h2 : 2 ≤ m
  · have HF : Hid ((r == 61624) = b) := by
      show _ = _
      rw [hb, Bool.eq_iff_iff]
      simp [h2]
    clear hb
    go_enter Tryd.func28, Tryd.ntmps28
    go_wp2
    go_ret
    exact ⟨by rw [← HF.out]; rfl, rfl⟩
  · have HF : Hid (b = false) := by
      show _ = _
      rw [hb]
      simp [h2]
    have h2' : m < 2 := by omega
    clear hb
    go_enter Tryd.func28, Tryd.ntmps28
    go_wp2
    go_ret
    exact ⟨by rw [HF.out]; rfl, rfl⟩
theorem cgood32_any (g : Nat) (r m : Int) (b : Bool) (w : World) (h : Chk w g 32 r m) (hb : b = decide (4 ≤ m ∧ r = 3736805603)) :
    Calls Tryd.prog 28 #[.pointer (some ⟨g, 0, none⟩)] w fun e w' => e = .returned (.bool b) ∧ w = w' := by
  obtain ⟨c0, c1, c2⟩ := h.cells
  clear h
  by_cases h2 : 4 ≤ m
  · have HF : Hid ((r == 3736805603) = b) := by
      show _ = _
      rw [hb, Bool.eq_iff_iff]
      simp [h2]
    clear hb
    go_enter Tryd.func28, Tryd.ntmps28
    go_wp2
    go_ret
    exact ⟨by rw [← HF.out]; rfl, rfl⟩
  · have HF : Hid (b = false) := by
      show _ = _
      rw [hb]
      simp [h2]
    have h2' : m < 4 := by omega
    clear hb
    go_enter Tryd.func28, Tryd.ntmps28
    go_wp2
    go_ret
    exact ⟨by rw [HF.out]; rfl, rfl⟩
end Go.Proofs.YtdnheiefbecaeaaDoor
