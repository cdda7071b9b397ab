/-
  slices.Contains over whole numbers that came in (the same words as XAuWords and XAuReck: never beside them); options as text, those without some types.
-/
import Derived.Test.YtlpboleclehilaaDoorOpOwnO
import Derived.LoopTactic
namespace Go.Proofs.YtlpboleclehilaaDoor
open Go.RowKit
set_option maxRecDepth 100000
set_option maxHeartbeats 2000000
set_option linter.unusedSimpArgs false
set_option linter.unusedVariables false

/-- the number at place j -/
def numAt (l : List Int) (j : Nat) : Int := l.getD j 0
theorem numAt_some {l : List Int} {j : Nat} (h : j < l.length) : l[j]? = some (numAt l j) := by
  unfold numAt
  simp [List.getD_eq_getElem?_getD, h]
theorem numAt_eq {l : List Int} {j : Nat} (h : j < l.length) : numAt l j = l[j] := by
  unfold numAt
  simp [List.getD_eq_getElem?_getD, h]
/-- The slice at A of n whole numbers reads as l, all of it in blocks below B. -/
def RdI (w : World) (B : Nat) (A : Option Addr) (n : Nat) (l : List Int) : Prop :=
  l.length = n ∧ (0 < n → ∃ b off, A = some ⟨b, off, none⟩ ∧ b < B ∧ ∀ j, j < n → w.cell? ⟨b, off + j, none⟩ = some (.int .i64 (numAt l j)))
section
variable {w w' : World} {B C n : Nat} {A : Option Addr} {l : List Int}
theorem RdI.nil : RdI w B A 0 [] := ⟨rfl, fun h => absurd h (Nat.lt_irrefl 0)⟩
theorem RdI.of_zero (h : RdI w B A 0 l) : l = [] := List.eq_nil_of_length_eq_zero h.1
theorem RdI.kept (h : RdI w B A n l) (hk : ∀ p : Addr, p.block < B → w'.cell? p = w.cell? p) : RdI w' B A n l := by
  refine ⟨h.1, fun hn => ?_⟩
  obtain ⟨b, off, e, hb, hc⟩ := h.2 hn
  exact ⟨b, off, e, hb, fun j hj => (hk _ hb).trans (hc j hj)⟩
theorem RdI.wide (h : RdI w B A n l) (hB : B ≤ C) : RdI w C A n l := by
  refine ⟨h.1, fun hn => ?_⟩
  obtain ⟨b, off, e, hb, hc⟩ := h.2 hn
  exact ⟨b, off, e, by omega, hc⟩
theorem RdI.below (h : RdI w B A n l) (hb : Below C w w') (hB : B ≤ C) : RdI w' B A n l := h.kept fun _ hp => hb.cell (by omega)
theorem RdI.drewN (h : RdI w B A n l) (k : Nat) : RdI (w.drewN k) B A n l := h
theorem RdI.grown {row : Option Nat} (h : RdI w B A n l) (hg : w.grownBy w' row) (hB : B ≤ w.heap.size) (hr : ∀ g, row = some g → B ≤ g) : RdI w' B A n l :=
  h.kept fun p hp => World.cell?_of_block (hg.block p.block (by omega) (fun e => by have := hr _ e.symm; omega))
/-- the block at stake is another one than the slice's own -/
theorem RdI.off {g : Nat} (h : RdI w B A n l) (hg : w.grownBy w' (some g)) (hB : B ≤ w.heap.size) (hne : ∀ b off, A = some ⟨b, off, none⟩ → b ≠ g) : RdI w' B A n l := by
  refine ⟨h.1, fun hn => ?_⟩
  obtain ⟨b, off, e, hb, hc⟩ := h.2 hn
  exact ⟨b, off, e, hb, fun j hj => (World.cell?_of_block (hg.block b (by omega) (fun e2 => hne b off e (by injection e2)))).trans (hc j hj)⟩
end
theorem mem_numAt {l : List Int} {x : Int} : x ∈ l ↔ ∃ k, k < l.length ∧ numAt l k = x := by
  constructor
  · intro h
    obtain ⟨k, hk, e⟩ := List.mem_iff_getElem.1 h
    exact ⟨k, hk, by rw [numAt_eq hk]; exact e⟩
  · rintro ⟨k, hk, e⟩
    rw [← e, numAt_eq hk]
    exact List.getElem_mem hk
theorem index_any (A : Option Addr) (n c B : Nat) (l : List Int) (x : Int) (w : World) (hr : RdI w B A n l) (hm : n ≤ 1152921504606846976) :
    Calls Tryd.prog 58 #[.slice A n c, .int .i64 x] w fun e w' => (∃ z : Int, e = .returned (.int .i64 z) ∧ -1 ≤ z ∧ z ≤ 1152921504606846976 ∧ (0 ≤ z ↔ x ∈ l)) ∧ w = w' := by
  have HR := Lib.hid hr
  clear hr
  go_enter Tryd.func58, Tryd.ntmps58
  go_wp2
  go_loop [8] (fun i => ∃ k : Nat, k ≤ n ∧ i = .int .i64 k ∧ Hid (∀ j, j < k → numAt l j ≠ x)) (fun i => n - (intOf i).toNat)
  case atStart => exact ⟨0, Nat.zero_le _, rfl, fun j hj => absurd hj (Nat.not_lt_zero _)⟩
  case round =>
    obtain ⟨k, hk, rfl, hno⟩ := hrel
    by_cases hlt : k < n
    · obtain ⟨b, off, rfl, hb, hc⟩ := HR.out.2 (by omega)
      have hcell := hc k hlt
      have hlen := HR.out.1
      obtain ⟨y, hy⟩ : ∃ y, numAt l k = y := ⟨_, rfl⟩
      rw [hy] at hcell
      have HY := Lib.hid hy
      have HL := Lib.hid hlen
      clear hc hy hlen
      by_cases hxy : x = y
      · have ht : (x == y) = true := by simp [hxy]
        have HX := Lib.hid hxy
        clear hxy
        go_wp2
        go_ret
        exact ⟨⟨_, rfl, by omega, by omega, ⟨fun _ => mem_numAt.2 ⟨k, by rw [HL.out]; exact hlt, by rw [HY.out, HX.out]⟩, fun _ => by omega⟩⟩, rfl⟩
      · have ht : (x == y) = false := by simp [hxy]
        have HX := Lib.hid hxy
        clear hxy
        go_wp2
        go_round
        case rel => exact ⟨k + 1, by omega, by go_num, fun j hj => by
          rcases Nat.lt_succ_iff_lt_or_eq.1 hj with h | h
          · exact hno.out j h
          · rw [h, HY.out]; exact fun e => HX.out e.symm⟩
        case measure => simp [intOf]; omega
    · have hlen := HR.out.1
      have HL := Lib.hid hlen
      clear hlen
      go_wp2
      go_ret
      refine ⟨⟨_, rfl, by omega, by omega, ⟨fun h => absurd h (by omega), fun h => ?_⟩⟩, rfl⟩
      obtain ⟨j, hj, e⟩ := mem_numAt.1 h
      exact absurd e (hno.out j (by have := HL.out; omega))
theorem contains_any (A : Option Addr) (n c B : Nat) (l : List Int) (x : Int) (w : World) (hr : RdI w B A n l) (hm : n ≤ 1152921504606846976) :
    Calls Tryd.prog 56 #[.slice A n c, .int .i64 x] w fun e w' => e = .returned (.bool (l.contains x)) ∧ w = w' := by
  have HI := Lib.hid (index_any A n c B l x w hr hm)
  clear hr
  by_cases h : x ∈ l
  · rw [show l.contains x = true by simpa using h]
    have HX := Lib.hid h
    clear h
    go_enter Tryd.func56, Tryd.ntmps56
    go_wp2_with (go_at_call 58; refine HI.out.mono ?_; rintro e w' ⟨⟨z, rfl, h1, h2, h3⟩, rfl⟩; have h4 := h3.2 HX.out; clear h3)
    go_ret
    exact ⟨rfl, rfl⟩
  · rw [show l.contains x = false by simpa using h]
    have HX := Lib.hid h
    clear h
    go_enter Tryd.func56, Tryd.ntmps56
    go_wp2_with (go_at_call 58; refine HI.out.mono ?_; rintro e w' ⟨⟨z, rfl, h1, h2, h3⟩, rfl⟩; have h4 : decide (0 ≤ z) = false := decide_eq_false fun h => HX.out (h3.1 h); clear h3)
    go_ret
    exact ⟨rfl, rfl⟩

end Go.Proofs.YtlpboleclehilaaDoor
namespace Go.Proofs.YtlpboleclehilaaDoor
open Go.RowKit
set_option maxRecDepth 100000
set_option maxHeartbeats 2000000
set_option linter.unusedSimpArgs false
set_option linter.unusedVariables false

/-- an option, as data: its kind and its bytes -/
abbrev Opt := Int × List UInt8
def eat (s : List Opt) (y : Opt) : List Opt := match s with
  | [] => []
  | x :: xs => if x = y then xs else x :: xs
theorem eat_all : ∀ (ys s : List Opt), s.Sublist ys → ys.foldl eat s = []
  | [], s, h => by
    have := List.sublist_nil.1 h
    subst this
    rfl
  | y :: ys, [], _ => by
    show ys.foldl eat [] = []
    exact eat_all ys [] (List.nil_sublist _)
  | y :: ys, x :: xs, h => by
    show ys.foldl eat (if x = y then xs else x :: xs) = []
    by_cases e : x = y
    · rw [if_pos e]
      subst e
      exact eat_all ys xs (List.cons_sublist_cons.1 h)
    · rw [if_neg e]
      refine eat_all ys (x :: xs) ?_
      cases h with
      | cons _ h => exact h
      | cons_cons => exact absurd rfl e
/-- what Without keeps -/
def woo (ks : List Int) (s : List Opt) : List Opt := s.filter fun o => !ks.contains o.1
theorem woo_sub (ks : List Int) (s : List Opt) : (woo ks s).Sublist s := List.filter_sublist
theorem woo_none (ks : List Int) (s : List Opt) : ∀ o ∈ woo ks s, ks.contains o.1 = false := fun o h => by
  have := (List.mem_filter.1 h).2
  simpa using this
theorem eat_woo (ks : List Int) (s : List Opt) : s.foldl eat (woo ks s) = [] := eat_all _ _ (woo_sub ks s)
theorem eat_woo2 (ks js : List Int) (s : List Opt) : s.foldl eat (woo js (woo ks s)) = [] := eat_all _ _ ((woo_sub js _).trans (woo_sub ks s))
theorem eat_self (s : List Opt) : s.foldl eat s = [] := eat_all _ _ (List.Sublist.refl _)
theorem eat_nil (s : List Opt) : s.foldl eat [] = [] := eat_all _ _ (List.nil_sublist _)
end Go.Proofs.YtlpboleclehilaaDoor
