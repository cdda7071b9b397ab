/-
  ccp: what options say, in numbers: the data of bits, what an option's data say, what is met, what is refused, what is asked next.
-/
import Derived.Test.YtlpboleclehilaaDoorOpList
import Derived.Test.YtlpboleclehilaaDoorOpWithout
namespace Go.Proofs.YtlpboleclehilaaDoor
open Go.RowKit
set_option maxRecDepth 100000
set_option maxHeartbeats 2000000
set_option linter.unusedSimpArgs false
set_option linter.unusedVariables false

def dfB (b : Int) : UInt8 := UInt8.ofNat ((16 * (b - 8) + 8) % 256).toNat
def bsB (b : Int) : UInt8 := UInt8.ofNat ((32 + b) % 256).toNat
/-- the data of a method's bits -/
def dat (K b : Int) : List UInt8 := if K = 26 then [dfB b, 0] else [bsB b]
def szK (K : Int) : Nat := if K = 26 then 2 else 1
theorem dat_len (K b : Int) : (dat K b).length = szK K := by unfold dat szK; split <;> rfl
def canB (K b : Int) : Bool := (K == 26 && (decide (8 ≤ b) && decide (b ≤ 15))) || (K == 21 && (decide (9 ≤ b) && decide (b ≤ 15)))
def sayD : List UInt8 → Int
  | [a, b] => if a.toNat % 16 = 8 ∧ a.toNat < 128 ∧ b = 0 then 8 + (a.toNat / 16 : Nat) else 0
  | _ => 0
def sayB : List UInt8 → Int
  | [a] => if 41 ≤ a.toNat ∧ a.toNat ≤ 47 then (a.toNat : Int) - 32 else 0
  | _ => 0
/-- the bits that an option says; 0: its data can not be -/
def says (K : Int) (l : List UInt8) : Int := if K = 26 then sayD l else if K = 21 then sayB l else 0
theorem sayD_range (l : List UInt8) : sayD l = 0 ∨ (8 ≤ sayD l ∧ sayD l ≤ 15) := by
  unfold sayD
  split
  · split
    · rename_i h; omega
    · exact .inl rfl
  · exact .inl rfl
theorem sayB_range (l : List UInt8) : sayB l = 0 ∨ (9 ≤ sayB l ∧ sayB l ≤ 15) := by
  unfold sayB
  split
  · split
    · rename_i h; omega
    · exact .inl rfl
  · exact .inl rfl
theorem says_range (K : Int) (l : List UInt8) : says K l = 0 ∨ (8 ≤ says K l ∧ says K l ≤ 15) := by
  unfold says
  split
  · exact sayD_range l
  · split
    · rcases sayB_range l with h | h
      · exact .inl h
      · exact .inr (by omega)
    · exact .inl rfl
theorem sayD_dat : ∀ b : Nat, 8 ≤ b → b ≤ 15 → sayD [dfB b, 0] = b := by
  intro b h1 h2
  have : b = 8 ∨ b = 9 ∨ b = 10 ∨ b = 11 ∨ b = 12 ∨ b = 13 ∨ b = 14 ∨ b = 15 := by omega
  rcases this with rfl | rfl | rfl | rfl | rfl | rfl | rfl | rfl <;> decide
theorem sayB_dat : ∀ b : Nat, 9 ≤ b → b ≤ 15 → sayB [bsB b] = b := by
  intro b h1 h2
  have : b = 9 ∨ b = 10 ∨ b = 11 ∨ b = 12 ∨ b = 13 ∨ b = 14 ∨ b = 15 := by omega
  rcases this with rfl | rfl | rfl | rfl | rfl | rfl | rfl <;> decide
theorem dfB_of {a : UInt8} (h1 : a.toNat % 16 = 8) (h2 : a.toNat < 128) : dfB (8 + (a.toNat / 16 : Nat)) = a := by
  unfold dfB
  have e : ((16 * ((8 + ((a.toNat / 16 : Nat) : Int)) - 8) + 8) % 256).toNat = a.toNat := by omega
  rw [e]
  simp
theorem bsB_of {a : UInt8} (h1 : 41 ≤ a.toNat) (h2 : a.toNat ≤ 47) : bsB ((a.toNat : Int) - 32) = a := by
  unfold bsB
  have e : ((32 + ((a.toNat : Int) - 32)) % 256).toNat = a.toNat := by omega
  rw [e]
  simp
theorem says_dat {K b : Int} (h : canB K b = true) : says K (dat K b) = b := by
  unfold canB at h
  simp only [Bool.or_eq_true, Bool.and_eq_true, beq_iff_eq, decide_eq_true_eq] at h
  rcases h with ⟨rfl, h1, h2⟩ | ⟨rfl, h1, h2⟩
  · obtain ⟨n, rfl⟩ := Int.eq_ofNat_of_zero_le (show 0 ≤ b by omega)
    exact sayD_dat n (by omega) (by omega)
  · obtain ⟨n, rfl⟩ := Int.eq_ofNat_of_zero_le (show 0 ≤ b by omega)
    exact sayB_dat n (by omega) (by omega)
theorem dat_says {K b : Int} {l : List UInt8} (h : says K l = b) (h0 : b ≠ 0) : canB K b = true ∧ l = dat K b := by
  unfold says at h
  split at h
  · rename_i hK
    subst hK
    unfold sayD at h
    split at h
    · split at h
      · rename_i a c h1
        subst h
        refine ⟨by unfold canB; simp; omega, ?_⟩
        unfold dat
        rw [if_pos rfl, dfB_of h1.1 h1.2.1, h1.2.2]
      · exact absurd h.symm h0
    · exact absurd h.symm h0
  · split at h
    · rename_i hK
      subst hK
      unfold sayB at h
      split at h
      · split at h
        · rename_i a h1
          subst h
          refine ⟨by unfold canB; simp; omega, ?_⟩
          unfold dat
          rw [if_neg (by omega), bsB_of h1.1 h1.2]
        · exact absurd h.symm h0
      · exact absurd h.symm h0
    · exact absurd h.symm h0
/-- an option of a kind has been met among the first k -/
def metK (K : Int) (s : List Opt) (k : Nat) : Bool := (s.take k).any fun o => o.1 == K
theorem metK_step (K : Int) (s : List Opt) (k : Nat) (h : k < s.length) : metK K s (k + 1) = (metK K s k || s[k].1 == K) := by
  unfold metK
  rw [List.take_succ_eq_append_getElem h, List.any_append]
  simp
/-- the bits that the last one of a kind says, of the first k, whose data can be -/
def lstK (K : Int) (s : List Opt) : Nat → Int
  | 0 => 0
  | k + 1 => let o := s.getD k (0, []); if o.1 = K ∧ says o.1 o.2 ≠ 0 then says o.1 o.2 else lstK K s k
theorem lstK_step (K : Int) (s : List Opt) (k : Nat) (h : k < s.length) : lstK K s (k + 1) = if s[k].1 = K ∧ says s[k].1 s[k].2 ≠ 0 then says s[k].1 s[k].2 else lstK K s k := by
  rw [lstK, List.getD_eq_getElem?_getD, List.getElem?_eq_getElem h]
  rfl
theorem lstK_range (K : Int) (s : List Opt) : ∀ k, lstK K s k = 0 ∨ (8 ≤ lstK K s k ∧ lstK K s k ≤ 15)
  | 0 => .inl rfl
  | k + 1 => by
    rw [lstK]
    split
    · exact says_range _ _
    · exact lstK_range K s k
/-- is something among the first k that Read refuses? -/
def badK (s : List Opt) : Nat → Bool
  | 0 => false
  | k + 1 => badK s k || (let o := s.getD k (0, []); says o.1 o.2 == 0 || metK o.1 s k)
theorem badK_step (s : List Opt) (k : Nat) (h : k < s.length) : badK s (k + 1) = (badK s k || (says s[k].1 s[k].2 == 0 || metK s[k].1 s k)) := by
  rw [badK, List.getD_eq_getElem?_getD, List.getElem?_eq_getElem h]
  rfl
theorem badK_more {s : List Opt} {k : Nat} (h : badK s k = true) : ∀ j, badK s (k + j) = true
  | 0 => h
  | j + 1 => by
    show badK s (k + j + 1) = true
    rw [badK, badK_more h j]
    rfl
/-- as long as nothing is refused, what has been met is what has been said -/
theorem met_said {K : Int} {s : List Opt} : ∀ {k : Nat}, k ≤ s.length → badK s k = false → (metK K s k = true ↔ lstK K s k ≠ 0)
  | 0, _, _ => by simp [metK, lstK]
  | k + 1, hk, hb => by
    have hlt : k < s.length := by omega
    rw [badK_step s k hlt, Bool.or_eq_false_iff, Bool.or_eq_false_iff] at hb
    obtain ⟨h1, h2, h3⟩ := hb
    have h2 : says s[k].1 s[k].2 ≠ 0 := by simpa using h2
    have ih := met_said (K := K) (show k ≤ s.length by omega) h1
    rw [metK_step K s k hlt, lstK_step K s k hlt]
    by_cases hK : s[k].1 = K
    · rw [if_pos ⟨hK, h2⟩]
      simp [hK, h2]
      rw [hK] at h2
      exact h2
    · rw [if_neg (fun e => hK e.1)]
      simp [hK]
      simpa using ih
theorem said_kind {K : Int} {l : List UInt8} (h : says K l ≠ 0) : K = 26 ∨ K = 21 := by
  unfold says at h
  split at h
  · exact .inl ‹_›
  · split at h
    · exact .inr ‹_›
    · exact absurd rfl h
def cK (D B K : Int) : Int := if K = 26 then D else if K = 21 then B else 0
/-- is the i-th option refused? -/
def rfC (D B : Int) (s : List Opt) (i : Nat) : Bool := let o := s.getD i (0, []); (if metK o.1 s i then 0 else cK D B o.1) == 0 || !(o.2.length == szK o.1)
/-- is it told with another value? -/
def stC (D B : Int) (s : List Opt) (i : Nat) : Bool := let o := s.getD i (0, []); !rfC D B s i && (says o.1 o.2 == 0 || decide (cK D B o.1 < says o.1 o.2))
def pickC (q : Nat → Bool) (s : List Opt) : Nat → List Opt
  | 0 => []
  | k + 1 => pickC q s k ++ if q k then [s.getD k (0, [])] else []
theorem pickC_len (q : Nat → Bool) (s : List Opt) : ∀ k, (pickC q s k).length ≤ k
  | 0 => Nat.le_refl _
  | k + 1 => by
    have := pickC_len q s k
    rw [pickC, List.length_append]
    split <;> simp <;> omega
theorem pickC_step (q : Nat → Bool) (s : List Opt) (k : Nat) (h : k < s.length) : pickC q s (k + 1) = pickC q s k ++ if q k then [s[k]] else [] := by
  rw [pickC, List.getD_eq_getElem?_getD, List.getElem?_eq_getElem h]
  rfl
def rfCL (D B : Int) (s : List Opt) : List Opt := pickC (rfC D B s) s s.length
def stCL (D B : Int) (s : List Opt) : List Opt := pickC (stC D B s) s s.length
/-- what is told in the place of an option -/
def turnO (D B : Int) (o : Opt) : Opt := (o.1, dat o.1 (cK D B o.1))
def jdC (mf D B : Int) (s : List Opt) (naks : Int) : Int × List Opt :=
  if rfCL D B s ≠ [] then (4, rfCL D B s) else if stCL D B s ≠ [] ∧ naks < mf then (3, (stCL D B s).map (turnO D B)) else if stCL D B s ≠ [] then (4, stCL D B s) else (2, s)
def nkC (n o : Int) : Int := if 0 < n ∧ n < o then n else o
end Go.Proofs.YtlpboleclehilaaDoor
