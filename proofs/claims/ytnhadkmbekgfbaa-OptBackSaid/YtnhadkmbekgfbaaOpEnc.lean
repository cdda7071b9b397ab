/-
  Options as bytes: which can be written, and that bytes say one list alone.
-/
import Derived.Test.YtnhadkmbekgfbaaOpList
import Derived.Test.YtnhadkmbekgfbaaBSlice
namespace Go.Proofs.Ytnhadkmbekgfbaa
open Go.RowKit
set_option maxRecDepth 100000

/-- an option that can be written -/
def okO (o : Opt) : Prop := (0 ≤ o.1 ∧ o.1 ≤ 255) ∧ o.2.length ≤ 253
def encO (o : Opt) : List UInt8 := UInt8.ofNat o.1.toNat :: UInt8.ofNat (o.2.length + 2) :: o.2
def enc (s : List Opt) : List UInt8 := s.flatMap encO
def okS (s : List Opt) : Prop := ∀ o ∈ s, okO o
theorem enc_nil : enc [] = [] := rfl
theorem enc_cons (o : Opt) (s : List Opt) : enc (o :: s) = encO o ++ enc s := rfl
theorem enc_app (s t : List Opt) : enc (s ++ t) = enc s ++ enc t := List.flatMap_append
theorem enc_snoc (s : List Opt) (o : Opt) : enc (s ++ [o]) = enc s ++ encO o := by
  rw [enc_app]
  show enc s ++ (encO o ++ []) = _
  rw [List.append_nil]
theorem okS_snoc {s : List Opt} {o : Opt} (h : okS s) (ho : okO o) : okS (s ++ [o]) := by
  intro x hx
  rcases List.mem_append.1 hx with h1 | h1
  · exact h x h1
  · rw [List.mem_singleton.1 h1]
    exact ho
theorem enc_len (s : List Opt) (h : okS s) : (enc s).length ≤ 255 * s.length := by
  induction s with
  | nil => simp [enc_nil]
  | cons o s ih =>
    have h1 := ih fun x hx => h x (List.mem_cons_of_mem _ hx)
    have h2 := (h o List.mem_cons_self).2
    rw [enc_cons, List.length_append, List.length_cons]
    unfold encO
    simp only [List.length_cons]
    omega
theorem enc_cut : ∀ (t : List Opt) (s : List Opt) (r : List UInt8), okS t → okS s → enc s = enc t ++ r → ∃ s', s = t ++ s' ∧ enc s' = r
  | [], s, r, _, _, h => ⟨s, rfl, h⟩
  | o :: t, [], r, _, _, h => by
    rw [enc_nil, enc_cons] at h
    unfold encO at h
    simp at h
  | o :: t, p :: s, r, ht, hs, h => by
    have ho := ht o List.mem_cons_self
    have hp := hs p List.mem_cons_self
    rw [enc_cons, enc_cons] at h
    unfold encO at h
    simp only [List.cons_append, List.cons.injEq] at h
    obtain ⟨h1, h2, h3⟩ := h
    have e1 : p.1 = o.1 := by
      have := congrArg UInt8.toNat h1
      simp only [UInt8.toNat_ofNat'] at this
      have a := hp.1
      have b := ho.1
      omega
    have e2 : p.2.length = o.2.length := by
      have := congrArg UInt8.toNat h2
      simp only [UInt8.toNat_ofNat'] at this
      have a := hp.2
      have b := ho.2
      omega
    rw [List.append_assoc] at h3
    obtain ⟨e3, e4⟩ := List.append_inj h3 e2
    obtain ⟨s', e5, e6⟩ := enc_cut t s r (fun x hx => ht x (List.mem_cons_of_mem _ hx)) (fun x hx => hs x (List.mem_cons_of_mem _ hx)) e4
    exact ⟨s', by rw [e5, show p = o from Prod.ext e1 e3]; rfl, e6⟩
/-- bytes that hold an option ahead -/
theorem enc_head {r : List UInt8} (h2 : 2 ≤ r.length) {z : Nat} (hz : num (r.drop 1) 1 = ((z + 2 : Nat) : Int)) (hl : z + 2 ≤ r.length) :
    okO (num r 1, (r.drop 2).take z) ∧ r = encO (num r 1, (r.drop 2).take z) ++ r.drop (z + 2) := by
  match r, h2 with
  | a :: b :: t, _ =>
    rw [num_one] at hz ⊢
    have ha : byteAt (a :: b :: t) 0 = (a.toNat : Int) := rfl
    have hb : byteAt ((a :: b :: t).drop 1) 0 = (b.toNat : Int) := rfl
    rw [hb] at hz
    rw [ha]
    have l1 := a.toNat_lt
    have l2 := b.toNat_lt
    have hlen : ((a :: b :: t).drop 2).length = t.length := rfl
    have hl' : z ≤ t.length := by simpa using hl
    have ht : (((a :: b :: t).drop 2).take z).length = z := by
      rw [List.length_take, hlen]
      omega
    refine ⟨⟨⟨by show (0:Int) ≤ (a.toNat : Int); omega, by show (a.toNat : Int) ≤ 255; omega⟩, by show (((a :: b :: t).drop 2).take z).length ≤ 253; rw [ht]; omega⟩, ?_⟩
    unfold encO
    simp only [ht, Int.toNat_natCast]
    have e1 : UInt8.ofNat a.toNat = a := by simp
    have e2 : UInt8.ofNat (z + 2) = b := by
      rw [show z + 2 = b.toNat by omega]
      simp
    rw [e1, e2]
    simp only [List.drop_succ_cons, List.drop_zero, List.cons_append, List.take_append_drop]
/-- bytes that hold none say no list -/
theorem enc_bad {r : List UInt8} (h0 : r ≠ []) (hb : r.length < 2 ∨ num (r.drop 1) 1 < 2 ∨ (r.length : Int) < num (r.drop 1) 1) (s : List Opt) (hs : okS s) : enc s ≠ r := by
  intro e
  match s, hs with
  | [], _ => exact h0 e.symm
  | o :: s, hs =>
    have ho := (hs o List.mem_cons_self).2
    rw [enc_cons] at e
    unfold encO at e
    subst e
    have hb1 : num ((UInt8.ofNat o.1.toNat :: UInt8.ofNat (o.2.length + 2) :: o.2 ++ enc s).drop 1) 1 = ((o.2.length + 2 : Nat) : Int) := by
      rw [num_one]
      show ((UInt8.ofNat (o.2.length + 2)).toNat : Int) = _
      rw [UInt8.toNat_ofNat']
      omega
    rw [hb1] at hb
    simp only [List.cons_append, List.length_cons, List.length_append] at hb
    omega
theorem enc_inj {s t : List Opt} (hs : okS s) (ht : okS t) (h : enc s = enc t) : s = t := by
  obtain ⟨s', e1, e2⟩ := enc_cut t s [] ht hs (by rw [List.append_nil]; exact h)
  have : s' = [] := by
    match s', e2 with
    | [], _ => rfl
    | o :: s', e2 =>
      rw [enc_cons] at e2
      unfold encO at e2
      simp at e2
  rw [e1, this, List.append_nil]
end Go.Proofs.Ytnhadkmbekgfbaa
