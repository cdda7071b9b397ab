/-
  What opt.Subset keeps from round to round: the first list, shorter by its head where the second's element is that head. At the end nothing is left of a list that lies in the other's order.
-/
import Derived.Test.YtnhadkmbekgfbaaOpAlike
namespace Go.Proofs.Ytnhadkmbekgfbaa
open Go.RowKit

/-- an option, as data: its kind and its bytes -/
abbrev Opt := Int × List UInt8
def eat (s : List Opt) (y : Opt) : List Opt := match s with
  | [] => []
  | x :: xs => if x = y then xs else x :: xs
theorem eat_all : ∀ (ys s : List Opt), s.Sublist ys → ys.foldl eat s = []
  | [], s, h => by
    have := List.sublist_nil.1 h
    subst this
    rfl
  | y :: ys, [], _ => by
    show ys.foldl eat [] = []
    exact eat_all ys [] (List.nil_sublist _)
  | y :: ys, x :: xs, h => by
    show ys.foldl eat (if x = y then xs else x :: xs) = []
    by_cases e : x = y
    · rw [if_pos e]
      subst e
      exact eat_all ys xs (List.cons_sublist_cons.1 h)
    · rw [if_neg e]
      refine eat_all ys (x :: xs) ?_
      cases h with
      | cons _ h => exact h
      | cons_cons => exact absurd rfl e
/-- what Without keeps -/
def woo (ks : List Int) (s : List Opt) : List Opt := s.filter fun o => !ks.contains o.1
theorem woo_sub (ks : List Int) (s : List Opt) : (woo ks s).Sublist s := List.filter_sublist
theorem woo_none (ks : List Int) (s : List Opt) : ∀ o ∈ woo ks s, ks.contains o.1 = false := fun o h => by
  have := (List.mem_filter.1 h).2
  simpa using this
theorem eat_woo (ks : List Int) (s : List Opt) : s.foldl eat (woo ks s) = [] := eat_all _ _ (woo_sub ks s)
theorem eat_woo2 (ks js : List Int) (s : List Opt) : s.foldl eat (woo js (woo ks s)) = [] := eat_all _ _ ((woo_sub js _).trans (woo_sub ks s))
theorem eat_self (s : List Opt) : s.foldl eat s = [] := eat_all _ _ (List.Sublist.refl _)
theorem eat_nil (s : List Opt) : s.foldl eat [] = [] := eat_all _ _ (List.nil_sublist _)
end Go.Proofs.Ytnhadkmbekgfbaa
