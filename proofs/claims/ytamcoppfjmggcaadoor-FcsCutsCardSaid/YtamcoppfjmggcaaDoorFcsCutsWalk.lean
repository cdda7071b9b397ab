/-
  tetherlaw02.FcsCuts is true, whatever it is asked, and writes nothing that was there.
-/
import Derived.Test.YtamcoppfjmggcaaDoorRefCut2
namespace Go.Proofs.YtamcoppfjmggcaaDoor
open Go.RowKit
set_option maxRecDepth 100000
set_option maxHeartbeats 1000000
set_option linter.unusedSimpArgs false
set_option linter.unusedVariables false

theorem cut32_short (A : Option Addr) (n c : Nat) (w : World) (hn : n < 4) :
    Calls Tryd.prog 34 #[.slice A n c] w fun e w' => e = .returned (.tuple #[.slice none 0 0, .int .i64 8]) ∧ w = w' := by
  go_enter Tryd.func34, Tryd.ntmps34
  go_wp2
  go_ret2
  exact ⟨rfl, rfl⟩
theorem cut32_bad (A : Option Addr) (n c B : Nat) (l : List UInt8) (w : World) (hr : Rd w B A n l) (hc : n ≤ c) (hn : 4 ≤ n) (hm : n ≤ maxLen) (hT : Tab32 w) (hg : crc P32 4294967295 l ≠ 3736805603) :
    Calls Tryd.prog 34 #[.slice A n c] w fun e w' => e = .returned (.tuple #[.slice none 0 0, .int .i64 20]) ∧ ∃ k, w' = w.drewN k := by
  have C : Calls Tryd.prog 26 #[.int .u32 4294967295, .slice A n c] w _ := on32_any A n c 4294967295 B l w hr hc hm (by omega) hT
  have hne : (((crc P32 4294967295 l : Nat) : Int) != 3736805603) = true := by simp; omega
  obtain ⟨y, hy⟩ : ∃ y : Int, y = ((crc P32 4294967295 l : Nat) : Int) := ⟨_, rfl⟩
  rw [← hy] at C hne
  have CC := Lib.hid C
  have hn2 : (4 : Int) ≤ (n : Int) := by omega
  clear C hy hg hr hT
  go_enter Tryd.func34, Tryd.ntmps34
  go_wp2_with fail
  refine (CC.out).mono ?_
  rintro e w1 ⟨rfl, k, rfl⟩
  go_wp2
  go_ret2
  exact ⟨rfl, k, rfl⟩

def cutL16 (l : List UInt8) : List UInt8 := if fine16 l then l.take (l.length - 2) else []
def cutL32 (l : List UInt8) : List UInt8 := if fine32 l then l.take (l.length - 4) else []
def cutE16 (l : List UInt8) : Int := if fine16 l then 0 else if l.length < 2 then 8 else 20
def cutE32 (l : List UInt8) : Int := if fine32 l then 0 else if l.length < 4 then 8 else 20

/-- a slice that holds the bytes -/
def Reads (W : World) (v : Value) (l : List UInt8) : Prop := ∃ A n c, v = .slice A n c ∧ Rd W W.heap.size A n l
/-- nil, or a slice of memory from lo on -/
def Fresh (lo base : Nat) (W : World) (v : Value) (l : List UInt8) : Prop :=
  (v = .slice none 0 0 ∧ l = []) ∨ ∃ k m, v = .slice (some ⟨k, 0, none⟩) m m ∧ lo ≤ k ∧ m = l.length ∧ m ≤ 140737488355328 ∧ Own W base v l
theorem Fresh.reads {lo base : Nat} {W : World} {v : Value} {l : List UInt8} (h : Fresh lo base W v l) : Reads W v l := by
  rcases h with ⟨rfl, rfl⟩ | ⟨k, m, rfl, _, hm, _, ho⟩
  · exact ⟨none, 0, 0, rfl, Rd.nil⟩
  · have h2 := ho.rd hm m (Nat.le_refl _)
    rw [List.take_of_length_le (by omega)] at h2
    exact ⟨_, _, _, rfl, h2⟩
theorem Fresh.later {lo base : Nat} {W W' : World} {v : Value} {l : List UInt8} (h : Fresh lo base W v l) (hB : Below W.heap.size W W') : Fresh lo base W' v l := by
  rcases h with h | ⟨k, m, e, h1, h2, h4, h3⟩
  · exact .inl h
  · exact .inr ⟨k, m, e, h1, h2, h4, h3.later hB⟩
theorem Fresh.grown {lo base : Nat} {W W' : World} {v : Value} {l : List UInt8} {row : Option Nat} (h : Fresh lo base W v l) (hG : W.grownBy W' row) (hr : ∀ k, row = some k → k < lo) : Fresh lo base W' v l := by
  rcases h with h | ⟨k, m, rfl, h1, h2, h4, h3⟩
  · exact .inl h
  · refine .inr ⟨k, m, rfl, h1, h2, h4, h3.grown hG (.inr fun e => ?_)⟩
    have := hr k (by rw [← e]; simp [Value.ownBlock])
    omega
theorem Fresh.blk {lo base : Nat} {W : World} {v : Value} {l : List UInt8} (h : Fresh lo base W v l) : ∀ k, v.ownBlock = some k → lo ≤ k ∧ k < W.heap.size := by
  intro j hj
  rcases h with ⟨rfl, _⟩ | ⟨k, m, rfl, h1, h2, h4, h3⟩
  · simp [Value.ownBlock] at hj
  · have := h3.at_
    simp [Value.ownBlock] at hj
    omega
theorem same2_reads (v u : Value) (l : List UInt8) (w : World) (h : Reads w v l) (k : Reads w u l) :
    Calls Tryd.prog 19 #[v, u] w fun e w' => e = .returned (.bool true) ∧ w = w' := by
  obtain ⟨A, n, c, rfl, hr⟩ := h
  obtain ⟨D, m, d, rfl, hq⟩ := k
  have h1 := hr.1
  have h2 := hq.1
  obtain rfl : m = n := by omega
  exact same2_yes A D m c d w.heap.size l w hr hq
theorem spoil2_fresh (lo base : Nat) (v : Value) (l : List UInt8) (w : World) (h : Fresh lo base w v l) :
    Calls Tryd.prog 23 #[v] w fun e w' => e = .returned (.tuple #[]) ∧ w.grownBy w' v.ownBlock := by
  rcases h with ⟨rfl, _⟩ | ⟨k, m, rfl, h1, h2, h4, h3⟩
  · refine (spoil2_none 0 w).mono ?_
    rintro e w' ⟨rfl, rfl⟩
    exact ⟨rfl, World.grownBy.refl _ _⟩
  · exact spoil2_row k m m m base l w h2 h3 (Nat.le_refl _) h4

section
variable {w W : World} {A : Option Addr} {n c g cap : Nat} {l : List UInt8}
theorem Keeps.grownRow {v : Value} {W' : World} (h : Keeps w A n c g cap l W) (hG : W.grownBy W' v.ownBlock) (hr : ∀ k, v.ownBlock = some k → g < k) : Keeps w A n c g cap l W' := by
  rcases hv : v.ownBlock with _ | k
  · rw [hv] at hG
    refine ⟨h.below.grown hG h.below.size (by simp), h.own.grown hG (.inr (by simp [Value.ownBlock])), h.rd.grown hG h.below.size (by simp)⟩
  · rw [hv] at hG
    have := hr k hv
    have := h.own.at_
    exact h.grown hG (by omega) (by omega)
theorem k_cut16 (h : Keeps w A n c g cap l W) (hc : n + 1 ≤ cap) (hn : n ≤ 140737488351232) (hT : Tab16 w) :
    Calls Tryd.prog 32 #[.slice (some ⟨g, 0, none⟩) n cap] W fun e w' => ∃ v, e = .returned (.tuple #[v, .int .i64 (cutE16 l)]) ∧ Fresh W.heap.size w.heap.size w' v (cutL16 l) ∧ Below W.heap.size W w' := by
  have hl := h.rd.1
  by_cases h2 : 2 ≤ n
  · by_cases hg : crc P16 65535 l = 61624
    · have hf : fine16 l = true := by unfold fine16; simp; omega
      refine (cut16_ok _ n cap W.heap.size l W h.read (Nat.le_refl _) (by omega) h2 (by omega) (hT.kept h.below) hg).mono ?_
      rintro e w' ⟨k, rfl, ho, hB⟩
      unfold cutE16 cutL16
      rw [hf]
      simp only [if_true]
      rw [hl]
      exact ⟨_, rfl, .inr ⟨k, n - 2, rfl, ho.at_.1, by rw [List.length_take]; omega, by omega, ho.base h.below.size⟩, hB⟩
    · have hf : fine16 l = false := by unfold fine16; simp; omega
      refine (cut16_bad _ n cap W.heap.size l W h.read (by omega) h2 (by unfold maxLen; omega) (hT.kept h.below) hg).mono ?_
      rintro e w' ⟨rfl, k, rfl⟩
      unfold cutE16 cutL16
      rw [hf]
      simp only [Bool.false_eq_true, if_false]
      rw [if_neg (by omega)]
      exact ⟨_, rfl, .inl ⟨rfl, rfl⟩, below_drewN (Below.refl _ _) k⟩
  · have hf : fine16 l = false := by unfold fine16; simp; omega
    refine (cut16_short _ n cap W (by omega)).mono ?_
    rintro e w' ⟨rfl, rfl⟩
    unfold cutE16 cutL16
    rw [hf]
    simp only [Bool.false_eq_true, if_false]
    rw [if_pos (by omega)]
    exact ⟨_, rfl, .inl ⟨rfl, rfl⟩, Below.refl _ _⟩
theorem k_cut32 (h : Keeps w A n c g cap l W) (hc : n + 1 ≤ cap) (hn : n ≤ 140737488351232) (hT : Tab32 w) :
    Calls Tryd.prog 34 #[.slice (some ⟨g, 0, none⟩) n cap] W fun e w' => ∃ v, e = .returned (.tuple #[v, .int .i64 (cutE32 l)]) ∧ Fresh W.heap.size w.heap.size w' v (cutL32 l) ∧ Below W.heap.size W w' := by
  have hl := h.rd.1
  by_cases h2 : 4 ≤ n
  · by_cases hg : crc P32 4294967295 l = 3736805603
    · have hf : fine32 l = true := by unfold fine32; simp; omega
      refine (cut32_ok _ n cap W.heap.size l W h.read (Nat.le_refl _) (by omega) h2 (by omega) (hT.kept h.below) hg).mono ?_
      rintro e w' ⟨k, rfl, ho, hB⟩
      unfold cutE32 cutL32
      rw [hf]
      simp only [if_true]
      rw [hl]
      exact ⟨_, rfl, .inr ⟨k, n - 4, rfl, ho.at_.1, by rw [List.length_take]; omega, by omega, ho.base h.below.size⟩, hB⟩
    · have hf : fine32 l = false := by unfold fine32; simp; omega
      refine (cut32_bad _ n cap W.heap.size l W h.read (by omega) h2 (by unfold maxLen; omega) (hT.kept h.below) hg).mono ?_
      rintro e w' ⟨rfl, k, rfl⟩
      unfold cutE32 cutL32
      rw [hf]
      simp only [Bool.false_eq_true, if_false]
      rw [if_neg (by omega)]
      exact ⟨_, rfl, .inl ⟨rfl, rfl⟩, below_drewN (Below.refl _ _) k⟩
  · have hf : fine32 l = false := by unfold fine32; simp; omega
    refine (cut32_short _ n cap W (by omega)).mono ?_
    rintro e w' ⟨rfl, rfl⟩
    unfold cutE32 cutL32
    rw [hf]
    simp only [Bool.false_eq_true, if_false]
    rw [if_pos (by omega)]
    exact ⟨_, rfl, .inl ⟨rfl, rfl⟩, Below.refl _ _⟩
theorem k_refcut16 (h : Keeps w A n c g cap l W) (hc : n ≤ c) (hn : n ≤ 140737488351232) :
    Calls Tryd.prog 33 #[.slice A n c, .bool false] W fun e w' => ∃ v, e = .returned (.tuple #[v, .int .i64 (cutE16 l)]) ∧ Reads w' v (cutL16 l) ∧ W = w' := by
  have hl := h.rd.1
  refine (refcut16_any A n c w.heap.size l W h.rd h.below.size hc (by unfold maxLen; omega)).mono ?_
  rintro e w' ⟨v, er, rfl, hk, rfl⟩
  unfold cutE16 cutL16
  rw [hl]
  rcases hk with ⟨hf, rfl, D, d, rfl, hr⟩ | ⟨hf, rfl, rfl⟩
  · rw [hf]
    simp only [if_true]
    exact ⟨_, rfl, ⟨_, _, _, rfl, hr⟩, trivial⟩
  · rw [hf]
    simp only [Bool.false_eq_true, if_false]
    exact ⟨_, rfl, ⟨_, _, _, rfl, Rd.nil⟩, trivial⟩
theorem k_refcut32 (h : Keeps w A n c g cap l W) (hc : n ≤ c) (hn : n ≤ 140737488351232) :
    Calls Tryd.prog 33 #[.slice A n c, .bool true] W fun e w' => ∃ v, e = .returned (.tuple #[v, .int .i64 (cutE32 l)]) ∧ Reads w' v (cutL32 l) ∧ W = w' := by
  have hl := h.rd.1
  refine (refcut32_any A n c w.heap.size l W h.rd h.below.size hc (by unfold maxLen; omega)).mono ?_
  rintro e w' ⟨v, er, rfl, hk, rfl⟩
  unfold cutE32 cutL32
  rw [hl]
  rcases hk with ⟨hf, rfl, D, d, rfl, hr⟩ | ⟨hf, rfl, rfl⟩
  · rw [hf]
    simp only [if_true]
    exact ⟨_, rfl, ⟨_, _, _, rfl, hr⟩, trivial⟩
  · rw [hf]
    simp only [Bool.false_eq_true, if_false]
    exact ⟨_, rfl, ⟨_, _, _, rfl, Rd.nil⟩, trivial⟩
end
theorem Reads.later {W W' : World} {v : Value} {l : List UInt8} (h : Reads W v l) (hB : Below W.heap.size W W') : Reads W' v l := by
  obtain ⟨A, n, c, rfl, hr⟩ := h
  exact ⟨A, n, c, rfl, (hr.below hB).wide hB.size⟩

theorem fcscuts_walk (A : Option Addr) (n c : Nat) (l : List UInt8) (w : World) (hr : Rd w w.heap.size A n l) (hnil : A = none → c = 0) (hc : n ≤ c) (hn : c ≤ 140737488351232) (h16 : Tab16 w) (h32 : Tab32 w) :
    Calls Tryd.prog 5 #[.slice A n c] w fun e w' => e = .returned (.bool true) ∧ Below w.heap.size w w' := by
  have hn2 : n ≤ 140737488351232 := by omega
  have LE := Lib.hid (lent2_any A n c w.heap.size l w hr hnil (by omega))
  have AW := Lib.hid (awake_behind w h16 h32)
  have T16 := Lib.hid h16
  have T32 := Lib.hid h32
  have HR := Lib.hid hr
  obtain ⟨e16, he16⟩ : ∃ z : Int, z = cutE16 l := ⟨_, rfl⟩
  obtain ⟨e32, he32⟩ : ∃ z : Int, z = cutE32 l := ⟨_, rfl⟩
  have E16 := Lib.hid he16
  have E32 := Lib.hid he32
  have n16 : (e16 != e16) = false := by simp
  have n32 : (e32 != e32) = false := by simp
  clear hr h16 h32 hnil he16 he32
  go_enter Tryd.func5, Tryd.ntmps5
  go_wp2_with fail
  refine (LE.out).mono ?_
  rintro e w1 ⟨g, cap, rfl, hcap, hO, hB⟩
  have K1 : Hid (Keeps w A n c g cap l w1) := ⟨hB, hO, HR.out.below hB⟩
  clear hO hB LE HR
  have C := k_cut16 K1.out hcap hn2 T16.out
  rw [← E16.out] at C
  have CC := Lib.hid C
  clear C
  go_wp2_with fail
  refine (CC.out).mono ?_
  rintro e w2 ⟨x, rfl, hF, hB⟩
  have K2 := Lib.hid (K1.out.later hB)
  have X2 := Lib.hid hF
  have E1 : Hid (g < w1.heap.size) := K1.out.own.at_.2
  clear hF hB K1 CC
  have C := k_refcut16 K2.out hc hn2
  rw [← E16.out] at C
  have CC := Lib.hid C
  clear C
  go_wp2_with fail
  refine (CC.out).mono ?_
  rintro e w3 ⟨y, rfl, hF, rfl⟩
  have Y2 := Lib.hid hF
  clear hF CC
  have C := k_cut32 K2.out hcap hn2 T32.out
  rw [← E32.out] at C
  have CC := Lib.hid C
  clear C
  go_wp2_with fail
  refine (CC.out).mono ?_
  rintro e w3 ⟨z, rfl, hF, hB⟩
  have K3 := Lib.hid (K2.out.later hB)
  have X3 := Lib.hid (X2.out.later hB)
  have Y3 := Lib.hid (Y2.out.later hB)
  have Z3 := Lib.hid hF
  have E2 : Hid (g < w2.heap.size) := K2.out.own.at_.2
  have E3 : Hid (∀ k, x.ownBlock = some k → k < w2.heap.size) := fun k hk => (X2.out.blk k hk).2
  clear hF hB K2 CC X2 Y2
  have C := k_refcut32 K3.out hc hn2
  rw [← E32.out] at C
  have CC := Lib.hid C
  clear C
  go_wp2_with fail
  refine (CC.out).mono ?_
  rintro e w4 ⟨u, rfl, hF, rfl⟩
  have U3 := Lib.hid hF
  clear hF CC
  go_wp2_with fail
  refine (same2_reads x y _ w3 X3.out.reads Y3.out).mono ?_
  rintro e w4 ⟨rfl, rfl⟩
  go_wp2_with fail
  refine (same2_reads z u _ w3 Z3.out.reads U3.out).mono ?_
  rintro e w4 ⟨rfl, rfl⟩
  go_wp2_with fail
  refine (spoil2_fresh _ _ x _ w3 X3.out).mono ?_
  rintro e w4 ⟨rfl, hG⟩
  have K4 := Lib.hid (K3.out.grownRow hG (fun k hk => by have := (X3.out.blk k hk).1; have := E1.out; omega))
  have Z4 := Lib.hid (Z3.out.grown hG E3.out)
  clear hG K3 Z3 X3
  go_wp2_with fail
  refine (spoil2_fresh _ _ z _ w4 Z4.out).mono ?_
  rintro e w5 ⟨rfl, hG⟩
  have K5 := Lib.hid (K4.out.grownRow hG (fun k hk => by have := (Z4.out.blk k hk).1; have := E2.out; omega))
  clear hG K4 Z4
  go_wp2_with fail
  refine (k_kept K5.out hn2).mono ?_
  rintro e w6 ⟨rfl, rfl⟩
  go_wp2_with fail
  refine (AW.out _ K5.out.below).mono ?_
  rintro e w7 ⟨rfl, hB⟩
  have BB := Lib.hid hB
  clear hB
  go_wp2
  go_ret
  exact ⟨rfl, BB.out⟩
end Go.Proofs.YtamcoppfjmggcaaDoor
