/-
  What is due is done: settle.
-/
import Derived.Test.YtdjifjlkpimiaaaPoDue
import Derived.WalkMore
import Derived.Laws.EntriesVeiled
namespace Go.Proofs.Ytdjifjlkpimiaaa
open Go.RowKit
set_option maxRecDepth 100000
set_option maxHeartbeats 2000000
set_option linter.unusedSimpArgs false
set_option linter.unusedVariables false

def dY (f : Nat) (x : PoS) : PoS := if f = 49 then poHang x wySession else if f = 50 then poHang x wyIdle else poRel x
def dL (f : Nat) (x : PoS) : List Int := if f = 49 then [2] else if f = 50 then [2] else poRelL x
def dOk (f : Nat) : Prop := f = 49 ∨ f = 50 ∨ f = 51
theorem dl_ok (x : PoS) (k : Nat) (p : Int × Nat) (h : (poDl x)[k]? = some p) : dOk p.2 := by
  unfold poDl at h
  have hm := List.mem_of_getElem? h
  repeat' split at hm
  all_goals simp at hm
  all_goals first | (rcases hm with rfl | rfl <;> simp [dOk]) | (subst hm; simp [dOk])
theorem dl_len (x : PoS) : (poDl x).length ≤ 2 := by
  unfold poDl
  repeat' split
  all_goals simp
theorem set_none {x : PoS} (h : ∀ (j : Nat) (p : Int × Nat), (poDl x)[j]? = some p → x.now < p.1) : poSet x = x ∧ poSetL x = [] := by
  have e : poDue x = 0 := by
    unfold poDue
    unfold poDl at h
    by_cases h3 : x.st = 3
    · rw [if_pos h3] at h ⊢
      by_cases k1 : x.se = 0
      · rw [if_pos k1] at h
        rw [if_neg (fun hh => hh.1 k1)]
        by_cases k2 : x.idl = 0
        · rw [if_neg (fun hh => hh.1 k2)]
        · rw [if_neg k2] at h
          have := h 0 _ rfl
          simp only at this
          rw [if_neg (by omega)]
      · rw [if_neg k1] at h
        have h0 := h 0 _ rfl
        simp only at h0
        rw [if_neg (by omega)]
        by_cases k2 : x.idl = 0
        · rw [if_neg (fun hh => hh.1 k2)]
        · rw [if_neg k2] at h
          have := h 1 _ rfl
          simp only at this
          rw [if_neg (by omega)]
    · rw [if_neg h3] at h ⊢
      by_cases h1 : x.st = 1
      · rw [if_pos h1] at h
        have h0 := h 0 _ rfl
        simp only at h0
        rw [if_neg (by omega)]
      · rw [if_neg (fun hh => h1 hh.1)]
  unfold poSet poSetL
  rw [e]
  simp
theorem set_some {x : PoS} {k : Nat} {p : Int × Nat} (hp : (poDl x)[k]? = some p) (hd : p.1 ≤ x.now) (h : ∀ (j : Nat) (q : Int × Nat), j < k → (poDl x)[j]? = some q → x.now < q.1) : poSet x = dY p.2 x ∧ poSetL x = dL p.2 x := by
  unfold poDl at hp h
  by_cases h3 : x.st = 3
  · rw [if_pos h3] at hp h
    by_cases k1 : x.se = 0
    · rw [if_pos k1] at hp h
      by_cases k2 : x.idl = 0
      · rw [if_pos k2] at hp
        simp at hp
      · rw [if_neg k2] at hp
        match k, hp with
        | 0, hp =>
          simp at hp
          subst hp
          have e : poDue x = 2 := by
            unfold poDue
            rw [if_pos h3, if_neg (fun hh => hh.1 k1), if_pos ⟨k2, hd⟩]
          unfold poSet poSetL
          rw [e]
          simp [dY, dL]
        | k + 1, hp => simp at hp
    · rw [if_neg k1] at hp h
      match k, hp with
      | 0, hp =>
        simp at hp
        subst hp
        have e : poDue x = 1 := by
          unfold poDue
          rw [if_pos h3, if_pos ⟨k1, hd⟩]
        unfold poSet poSetL
        rw [e]
        simp [dY, dL]
      | 1, hp =>
        have h0 := h 0 _ (by omega) rfl
        simp only at h0
        by_cases k2 : x.idl = 0
        · rw [if_pos k2] at hp
          simp at hp
        · rw [if_neg k2] at hp
          simp at hp
          subst hp
          have e : poDue x = 2 := by
            unfold poDue
            rw [if_pos h3, if_neg (by omega), if_pos ⟨k2, hd⟩]
          unfold poSet poSetL
          rw [e]
          simp [dY, dL]
      | k + 2, hp =>
        by_cases k2 : x.idl = 0
        · rw [if_pos k2] at hp
          simp at hp
        · rw [if_neg k2] at hp
          simp at hp
  · rw [if_neg h3] at hp
    by_cases h1 : x.st = 1
    · rw [if_pos h1] at hp
      match k, hp with
      | 0, hp =>
        simp at hp
        subst hp
        have e : poDue x = 3 := by
          unfold poDue
          rw [if_neg h3, if_pos ⟨h1, hd⟩]
        unfold poSet poSetL
        rw [e]
        simp [dY, dL]
      | k + 1, hp => simp at hp
    · rw [if_neg h1] at hp
      simp at hp
theorem cf_deed (f g : Nat) (hf : dOk f) (W : World) : (callFunc f #[.pointer (some ⟨g, 0, none⟩)]).run Try.prog W = .ok (.enter f #[.pointer (some ⟨g, 0, none⟩)]) W := by
  rcases hf with rfl | rfl | rfl <;> kernel_rfl
theorem deed_any (f g : Nat) (hf : dOk f) (x : PoS) (W : World) (hx : PoB W g x) : Calls Try.prog f #[.pointer (some ⟨g, 0, none⟩)] W (PoR W g (dY f x) (dL f x)) := by
  rcases hf with rfl | rfl | rfl
  · exact poHs_any g x W hx
  · exact poHi_any g x W hx
  · exact poRel_any g x W hx
theorem OwnD.shape {W : World} {base g : Nat} {v : Value} {xs : List (Int × Nat)} (o1 : OwnD W base g v xs) : ∃ A n c, v = .slice A n c ∧ n = xs.length ∧ (∀ (k : Nat) (p : Int × Nat), xs[k]? = some p → ∃ q, A = some ⟨q, 0, none⟩ ∧ q < W.heap.size ∧ W.cell? ⟨q, k * 2, none⟩ = some (.int .i64 p.1) ∧ W.cell? ⟨q, k * 2 + 1, none⟩ = some (fnV g p.2)) := by
  rcases o1.form with ⟨rfl, rfl⟩ | ⟨q, cap, rfl, _, hq, _⟩
  · exact ⟨none, 0, 0, rfl, rfl, fun k p h => by simp at h⟩
  · exact ⟨_, _, _, rfl, rfl, fun k p h => ⟨q, rfl, hq, o1.cell k p h⟩⟩
theorem poSettle_any (g : Nat) (x : PoS) (w : World) (hx : PoB w g x) (ho : PoOk x) :
    Calls Try.prog 52 #[.pointer (some ⟨g, 0, none⟩)] w (PoR w g (poSet x) (poSetL x)) := by
  have HD := poDl_any g x w hx ho
  have SN : Hid ((∀ (j : Nat) (p : Int × Nat), (poDl x)[j]? = some p → x.now < p.1) → poSet x = x ∧ poSetL x = []) := set_none
  have SS : Hid (∀ (k : Nat) (p : Int × Nat), (poDl x)[k]? = some p → p.1 ≤ x.now → (∀ (j : Nat) (q : Int × Nat), j < k → (poDl x)[j]? = some q → x.now < q.1) → poSet x = dY p.2 x ∧ poSetL x = dL p.2 x) := fun k p h1 h2 h3 => set_some h1 h2 h3
  have hl2 := dl_len x
  have SO : Hid (∀ (k : Nat) (p : Int × Nat), (poDl x)[k]? = some p → dOk p.2) := dl_ok x
  obtain ⟨xs, hxs⟩ : ∃ xs, poDl x = xs := ⟨_, rfl⟩
  rw [hxs] at HD SN SS SO hl2
  have lg : g < w.heap.size := hx.lt
  have HX := Lib.hid hx
  have HDD := Lib.hid HD
  have hnow := ho.now
  obtain ⟨t, ht⟩ : ∃ t, x.now = t := ⟨_, rfl⟩
  have c10 : w.cell? ⟨g, 10, none⟩ = some (.int .i64 t) := by rw [← ht]; exact hx.cell 10
  rw [ht] at SN SS hnow
  clear hx ho HD hxs ht
  go_enter Try.func52, Try.ntmps52
  go_wp2
  go_step3
  go_wp2
  go_step3
  go_wp2_with (go_at_call 37; refine HDD.out.mono ?_; rintro e w1 ⟨v, rfl, o1, l1⟩; obtain ⟨A, n, c, rfl, hn, hcl⟩ := o1.shape; have HL := Lib.hid l1; have HC := Lib.hid hcl; have HN := Lib.hid hn; clear o1 l1 hcl hn)
  have hn := HN.out
  have hn2 : n ≤ 2 := by omega
  go_loopw [3, 9] (fun o i wr => ∃ k : Nat, k ≤ n ∧ o = .slice none 0 0 ∧ i = .int .i64 k ∧ Hid (∀ (j : Nat) (q : Int × Nat), j < k → xs[j]? = some q → t < q.1) ∧ Hid (Below w1.heap.size w1 wr)) (fun _ i _ => n - (intOf i).toNat)
  case atStart => exact ⟨0, Nat.zero_le _, rfl, rfl, fun j q h => absurd h (by omega), Below.refl _ _⟩
  case round =>
    obtain ⟨k, hk, rfl, rfl, HJ, HB⟩ := hrel
    by_cases hlt : k < n
    · obtain ⟨p, hp⟩ : ∃ p, xs[k]? = some p := ⟨xs[k]'(by omega), List.getElem?_eq_getElem (by omega)⟩
      obtain ⟨q, rfl, hq, d0, d1⟩ := HC.out k p hp
      have e0 : wr.cell? ⟨q, k * 2, none⟩ = some (.int .i64 p.1) := (HB.out.cell (p := ⟨q, k * 2, none⟩) hq).trans d0
      have e1 : wr.cell? ⟨q, k * 2 + 1, none⟩ = some (fnV g p.2) := (HB.out.cell (p := ⟨q, k * 2 + 1, none⟩) hq).trans d1
      have hB := HB.out
      have g1 : g < w1.heap.size := Nat.lt_of_lt_of_le lg HL.out.size
      have e10 : wr.cell? ⟨g, 10, none⟩ = some (.int .i64 t) := (hB.cell (p := ⟨g, 10, none⟩) g1).trans ((HL.out.cell (p := ⟨g, 10, none⟩) lg).trans c10)
      have gr : g < wr.heap.size := Nat.lt_of_lt_of_le g1 hB.size
      have qr : q < wr.heap.size := Nat.lt_of_lt_of_le hq hB.size
      obtain ⟨a, f⟩ := p
      simp only at e0 e1
      have hf := SO.out k _ hp
      clear d0 d1 hB
      by_cases hd : a ≤ t
      · have td : decide (a ≤ t) = true := decide_eq_true hd
        have hs := SS.out k _ hp hd HJ.out
        have CF := cf_deed f g hf
        have HF : Hid (∀ W, Below w.heap.size w W → Calls Try.prog f #[.pointer (some ⟨g, 0, none⟩)] W (PoR w g (poSet x) (poSetL x))) := by
          show ∀ W, _ → _
          intro W hW
          rw [hs.1, hs.2]
          exact (deed_any f g hf x W (HX.out.below hW)).mono fun e w2 h2 => h2.from (gsome' hW)
        have HW : Hid (Below w.heap.size w wr) := HL.out.trans (HB.out.mono HL.out.size)
        clear hp hd hs hf hn HJ HB
        go_wp2
        go_region
        go_wp2_with fail
        refine (HF.out _ ?_).mono ?_
        · exact (HW.out.alloc HW.out.size _).drew
        rintro e w2 ⟨v, rfl, h2⟩
        have H2 := Lib.hid h2
        clear h2
        go_wp2
        go_ret
        exact ⟨v, rfl, H2.out⟩
      · have td : decide (a ≤ t) = false := decide_eq_false hd
        have HJ2 : Hid (∀ (j : Nat) (q : Int × Nat), j < k + 1 → xs[j]? = some q → t < q.1) := by
          show ∀ (j : Nat) (q : Int × Nat), _ → _ → _
          intro j q' hj hq'
          by_cases hjk : j < k
          · exact HJ.out j q' hjk hq'
          · obtain rfl : j = k := by omega
            rw [hp] at hq'
            cases hq'
            show t < a
            omega
        clear hp hd HJ hn
        go_wp2
        go_region
        go_wp2
        go_roundw
        case rel => exact ⟨k + 1, by omega, rfl, by go_num, HJ2, (HB.out.alloc HB.out.size _).drew⟩
        case measure => simp [intOf]; omega
    · obtain rfl : k = n := by omega
      have hs := SN.out (fun j q hq => HJ.out j q (by
        have := List.getElem?_eq_some_iff.1 hq
        obtain ⟨h1, _⟩ := this
        omega) hq)
      have HF : Hid (PoR w g (poSet x) (poSetL x) (.returned (.slice none 0 0)) wr) := by
        rw [hs.1, hs.2]
        exact ⟨_, rfl, OwnI.nil _ _, (HX.out.below HL.out).below HB.out, gtrans' (gsome' HL.out) (gsome' HB.out)⟩
      clear hs hn HJ
      go_wp2
      go_ret
      exact HF.out
end Go.Proofs.Ytdjifjlkpimiaaa
