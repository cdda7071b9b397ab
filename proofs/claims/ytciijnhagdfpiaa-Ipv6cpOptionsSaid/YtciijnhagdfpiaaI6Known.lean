/-
  tetherlaw17.known: what must come of fixed calls.
-/
import Derived.Test.YtciijnhagdfpiaaI6Judge
import Derived.Test.YtciijnhagdfpiaaI6Addr
namespace Go.Proofs.Ytciijnhagdfpiaa
open Go.RowKit
set_option maxRecDepth 100000
set_option maxHeartbeats 4000000
set_option linter.unusedSimpArgs false
set_option linter.unusedVariables false

def confK : Array Value := #[.string ⟨#[]⟩, .string ⟨#[]⟩, .int .i64 0, .slice none 0 0, .int .i64 0, .int .i64 0, .bool false, .bool false, .bool false, .int .i64 0, .int .i64 0, .int .i64 0, .int .i64 0, .bool false, .bool false, .int .u64 0, .int .i64 0, .int .i64 0, .int .i64 0, .int .i64 0, .int .i64 0, .int .i64 5, .int .i64 0, .int .i64 0, .int .i64 0, .int .i64 0, .int .i64 0, .int .i64 0, .bool false, .bool false, .int .i64 0, .string ⟨#[]⟩, .string ⟨#[]⟩]
theorem jd_known : jd6 5 5 [(1, putB 5 8)] 0 5 = (3, [(1, putB 6 8)]) := by decide
theorem own_one6 {w : World} {base : Nat} {A : Option Addr} {c : Nat} {K : Int} {l : List UInt8} (h : OwnL w base (.slice A 1 c) [(K, l)]) :
    ∃ g E k cE, A = some ⟨g, 0, none⟩ ∧ base ≤ g ∧ g < w.heap.size ∧ w.cell? ⟨g, 0, none⟩ = some (.int .i64 K) ∧ w.cell? ⟨g, 1, none⟩ = some (.slice E k cE) ∧ Own w base (.slice E k cE) l := by
  obtain ⟨cs, h1, h2⟩ := h
  have h1' := h1
  rcases h1.2 with ⟨h, h0⟩ | ⟨g, cap, cur, e, hb, hg, hc, hcur⟩
  · cases h
  · injection e with e1 e2 e3
    subst e1
    have f : ∀ j u, cs[j]? = some u → w.cell? ⟨g, j, none⟩ = some u := fun j u hj => by
      have h3 := World.ownsRow.cells h1' (g := g) rfl j u hj
      rwa [addr_add] at h3
    obtain ⟨a, E, k, cE, b, ho⟩ := h2 0 (by simp)
    exact ⟨g, E, k, cE, rfl, hb, (Array.getElem?_eq_some_iff.1 hg).1, f _ _ a, f _ _ b, ho⟩
theorem addr_one : addrC 1 = [.int .u8 254, .int .u8 128, .int .u8 0, .int .u8 0, .int .u8 0, .int .u8 0, .int .u8 0, .int .u8 0, .int .u8 0, .int .u8 0, .int .u8 0, .int .u8 0, .int .u8 0, .int .u8 0, .int .u8 0, .int .u8 1] := by simp [addrC, addrH, putB, cellOf]
def Kn6 (w : World) : Prop :=
  Calls Try.prog 7 #[.int .u64 5] w fun e w1 => ∃ g, e = .returned (.slice (some ⟨g, 0, none⟩) 1 1) ∧
    Hid (Calls Try.prog 17 #[.agg confK, .int .u64 5, .slice (some ⟨g, 0, none⟩) 1 1, .int .i64 0, .int .u64 5] w1 fun e w2 => ∃ g2 c2, e = .returned (.tuple #[.int .i64 3, .slice (some ⟨g2, 0, none⟩) 1 c2]) ∧
      Hid (Calls Try.prog 28 #[.int .u64 1] w2 fun e w3 => e = .returned (.agg #[.int .u8 254, .int .u8 128, .int .u8 0, .int .u8 0, .int .u8 0, .int .u8 0, .int .u8 0, .int .u8 0, .int .u8 0, .int .u8 0, .int .u8 0, .int .u8 0, .int .u8 0, .int .u8 0, .int .u8 0, .int .u8 1]) ∧
        (∃ b cE, (w3.alloc (.cells #[.int .u8 254, .int .u8 128, .int .u8 0, .int .u8 0, .int .u8 0, .int .u8 0, .int .u8 0, .int .u8 0, .int .u8 0, .int .u8 0, .int .u8 0, .int .u8 0, .int .u8 0, .int .u8 0, .int .u8 0, .int .u8 1] 47)).cell? ⟨g2, 1, none⟩ = some (.slice (some ⟨b, 0, none⟩) 8 cE) ∧ (w3.alloc (.cells #[.int .u8 254, .int .u8 128, .int .u8 0, .int .u8 0, .int .u8 0, .int .u8 0, .int .u8 0, .int .u8 0, .int .u8 0, .int .u8 0, .int .u8 0, .int .u8 0, .int .u8 0, .int .u8 0, .int .u8 0, .int .u8 1] 47)).cell? ⟨b, 7, none⟩ = some (.int .u8 6)) ∧
          Hid (Calls Try.prog 24 #[.int .u64 0, .int .u64 1] (w3.alloc (.cells #[.int .u8 254, .int .u8 128, .int .u8 0, .int .u8 0, .int .u8 0, .int .u8 0, .int .u8 0, .int .u8 0, .int .u8 0, .int .u8 0, .int .u8 0, .int .u8 0, .int .u8 0, .int .u8 0, .int .u8 0, .int .u8 1] 47)) fun e w4 => e = .returned (.int .u64 2) ∧ w4 = w3.alloc (.cells #[.int .u8 254, .int .u8 128, .int .u8 0, .int .u8 0, .int .u8 0, .int .u8 0, .int .u8 0, .int .u8 0, .int .u8 0, .int .u8 0, .int .u8 0, .int .u8 0, .int .u8 0, .int .u8 0, .int .u8 0, .int .u8 1] 47)) ∧ Hid (Below w.heap.size w (w3.alloc (.cells #[.int .u8 254, .int .u8 128, .int .u8 0, .int .u8 0, .int .u8 0, .int .u8 0, .int .u8 0, .int .u8 0, .int .u8 0, .int .u8 0, .int .u8 0, .int .u8 0, .int .u8 0, .int .u8 0, .int .u8 0, .int .u8 1] 47)))))
theorem kn6_calls (w : World) : Kn6 w := by
  unfold Kn6
  refine (options6_any 5 w (by omega) (by omega)).mono ?_
  rintro e w1 ⟨g, rfl, ho1, b1⟩
  refine ⟨g, rfl, Lib.hid ?_⟩
  obtain ⟨A1, c1, e1, hrd, _⟩ := ho1.rd (by intro o ho; simp at ho; subst ho; show (putB _ 8).length ≤ _; rw [putB_length]; omega)
  injection e1 with e1 _ e3
  subst e1 e3
  refine (judge6_any confK 0 5 5 _ 1 1 w1.heap.size [(1, putB 5 8)] 0 5 w1 ⟨rfl, rfl, rfl⟩ ⟨by omega, by omega⟩ hrd (Nat.le_refl _) (by omega)).mono ?_
  rintro e w2 ⟨F, m, d, k, L, rfl, hj, hm, ho2, b2⟩
  rw [jd_known] at hj
  injection hj with hk hL
  subst hk hL hm
  obtain ⟨g2, E, kE, cE, rfl, hg1, hg2, hc0, hc1, hE⟩ := own_one6 ho2
  refine ⟨g2, d, rfl, Lib.hid ((address_any 1 w2 (by omega) (by omega)).mono ?_)⟩
  rintro e w3 ⟨rfl, b3⟩
  have hlE := hE.len.1
  rw [putB_length] at hlE
  subst hlE
  have BA : Below w3.heap.size w3 (w3.alloc (.cells #[.int .u8 254, .int .u8 128, .int .u8 0, .int .u8 0, .int .u8 0, .int .u8 0, .int .u8 0, .int .u8 0, .int .u8 0, .int .u8 0, .int .u8 0, .int .u8 0, .int .u8 0, .int .u8 0, .int .u8 0, .int .u8 1] 47)) := (Below.refl _ _).alloc (Nat.le_refl _) _
  have B23 := b3.trans (BA.mono b3.size)
  have hE3 := hE.later B23
  obtain ⟨b, off, hEb, hbl, hcell⟩ := hE3.rdAll.2 (by omega)
  have hoff : off = 0 := by
    rcases hE3.form with ⟨h, _⟩ | ⟨g, cap, h, _⟩
    · cases h
    · injection h with h
      rw [hEb] at h
      injection h with h
      injection h
  subst hoff hEb
  refine ⟨by rw [addr_one], ⟨b, cE, (B23.cell (p := ⟨g2, 1, none⟩) hg2).trans hc1, ?_⟩, Lib.hid ((given_any 0 1 _ ⟨by omega, by omega⟩).mono ?_), Lib.hid (b1.trans ((b2.trans (B23.mono b2.size)).mono b1.size))⟩
  · have := hcell 7 (by omega)
    rw [Nat.zero_add] at this
    exact this
  · rintro e w4 ⟨rfl, rfl⟩
    exact ⟨rfl, rfl⟩
theorem known17_any (w : World) : Calls Try.prog 16 #[] w fun e w' => e = .returned (.bool true) ∧ Below w.heap.size w w' := by
  have N := Lib.hid (kn6_calls w)
  unfold Kn6 confK at N
  go_enter Try.func16, Try.ntmps16
  go_wp2_with (first
    | (go_at_call 7; (with_reducible refine N.out.mono ?_); rintro e w1 ⟨g, rfl, N1⟩)
    | (go_at_call 17; (with_reducible refine N1.out.mono ?_); rintro e w2 ⟨g2, c2, rfl, N2⟩)
    | (go_at_call 28; (with_reducible refine N2.out.mono ?_); rintro e w3 ⟨rfl, ⟨b, cE, x1, x2⟩, N3, NB⟩)
    | (go_at_call 24; (with_reducible refine N3.out.mono ?_); rintro e w4 ⟨rfl, rfl⟩))
  go_ret
  exact ⟨rfl, NB.out⟩
end Go.Proofs.Ytciijnhagdfpiaa
