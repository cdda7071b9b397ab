/-
  When something is due: Next.
-/
import Derived.Test.YtdjifjlkpimiaaaPoNew
namespace Go.Proofs.Ytdjifjlkpimiaaa
open Go.RowKit
set_option maxRecDepth 100000
set_option maxHeartbeats 4000000
set_option linter.unusedSimpArgs false
set_option linter.unusedVariables false

/-- the least of some times and MaxTime -/
def nxL (l : List (Int × Nat)) : Int := l.foldl (fun a d => least a d.1) 1099511627776
def nxE (l : List (Int × Nat)) : Int := if l = [] then 5 else 0
def nxV (l : List (Int × Nat)) : Int := if l = [] then 0 else nxL l
theorem nxL_step {l : List (Int × Nat)} {k : Nat} {p : Int × Nat} (h : l[k]? = some p) : nxL (l.take (k + 1)) = least (nxL (l.take k)) p.1 := by
  obtain ⟨hk, hv⟩ := List.getElem?_eq_some_iff.1 h
  unfold nxL
  rw [List.take_succ_eq_append_getElem hk, List.foldl_append, hv]
  rfl
theorem poNext_nil (w : World) : Calls Try.prog 18 #[.pointer none] w fun e w' => e = .returned (.tuple #[.int .i64 0, .int .i64 2]) ∧ w = w' := by
  go_enter Try.func18, Try.ntmps18
  go_wp2
  go_ret2
  exact ⟨rfl, rfl⟩
theorem poNext_any (g : Nat) (x : PoS) (w : World) (hx : PoB w g x) (ho : PoOk x) :
    Calls Try.prog 18 #[.pointer (some ⟨g, 0, none⟩)] w fun e w' => e = .returned (.tuple #[.int .i64 (nxV (poDl x)), .int .i64 (nxE (poDl x))]) ∧ Below w.heap.size w w' := by
  have HD := poDl_any g x w hx ho
  have hl2 := dl_len x
  obtain ⟨xs, hxs⟩ : ∃ xs, poDl x = xs := ⟨_, rfl⟩
  rw [hxs] at HD hl2 ⊢
  have HDD := Lib.hid HD
  clear hx ho HD hxs
  rcases xs with _ | ⟨p0, r0⟩
  · show Calls _ _ _ _ fun e w' => e = .returned (.tuple #[.int .i64 0, .int .i64 5]) ∧ Below w.heap.size w w'
    go_enter Try.func18, Try.ntmps18
    go_wp2_with (go_at_call 37; refine HDD.out.mono ?_; rintro e w1 ⟨v, rfl, o1, l1⟩; obtain ⟨A, c, rfl⟩ : ∃ A c, v = .slice A 0 c := (by obtain ⟨A, n, c, h1, h2, _⟩ := o1.shape; exact ⟨A, c, by rw [h1, h2]; rfl⟩); have HL := Lib.hid l1; clear o1 l1)
    go_ret2
    exact ⟨rfl, HL.out⟩
  · obtain ⟨xs, hxs⟩ : ∃ xs, p0 :: r0 = xs := ⟨_, rfl⟩
    have hne : xs ≠ [] := by rw [← hxs]; simp
    have hpos : 0 < xs.length := List.length_pos_iff.2 hne
    rw [hxs] at HDD hl2 ⊢
    have eE : nxE xs = 0 := if_neg hne
    have eV : nxV xs = nxL xs := if_neg hne
    rw [eE, eV]
    have ST : Hid (∀ (k : Nat) (p : Int × Nat), xs[k]? = some p → nxL (xs.take (k + 1)) = least (nxL (xs.take k)) p.1) := fun k p h => nxL_step h
    have HT : Hid (∀ n, n = xs.length → xs.take n = xs) := fun n e => by rw [e, List.take_length]
    have H0 : Hid (nxL (xs.take 0) = 1099511627776) := rfl
    clear hne hxs eE eV
    go_enter Try.func18, Try.ntmps18
    go_wp2_with (go_at_call 37; refine HDD.out.mono ?_; rintro e w1 ⟨v, rfl, o1, l1⟩; obtain ⟨A, n, c, rfl, hn, hcl⟩ := o1.shape; have HL := Lib.hid l1; have HC := Lib.hid hcl; have HN := Lib.hid hn; have hn0 : 0 < n := (by omega); have hn2 : n ≤ 2 := (by omega); have hnn : (n == 0) = false := (by simp; omega); clear o1 l1 hcl hn hpos hl2)
    have hn := HN.out
    go_loopw [5, 17] (fun a i wr => ∃ (k : Nat) (z : Int), k ≤ n ∧ a = .int .i64 z ∧ i = .int .i64 k ∧ Hid (nxL (xs.take k) = z) ∧ Hid (Below w1.heap.size w1 wr)) (fun _ i _ => n - (intOf i).toNat)
    case atStart => exact ⟨0, _, Nat.zero_le _, rfl, rfl, H0, Below.refl _ _⟩
    case round =>
      obtain ⟨k, z, hk, rfl, rfl, HJ, HB⟩ := hrel
      by_cases hlt : k < n
      · obtain ⟨p, hp⟩ : ∃ p, xs[k]? = some p := ⟨xs[k]'(by omega), List.getElem?_eq_getElem (by omega)⟩
        obtain ⟨q, rfl, hq, d0, d1⟩ := HC.out k p hp
        have e0 : wr.cell? ⟨q, k * 2, none⟩ = some (.int .i64 p.1) := (HB.out.cell (p := ⟨q, k * 2, none⟩) hq).trans d0
        have e1 : wr.cell? ⟨q, k * 2 + 1, none⟩ = some (fnV g p.2) := (HB.out.cell (p := ⟨q, k * 2 + 1, none⟩) hq).trans d1
        have hB := HB.out
        have qr : q < wr.heap.size := Nat.lt_of_lt_of_le hq hB.size
        have hst := ST.out k p hp
        rw [HJ.out] at hst
        obtain ⟨a, f⟩ := p
        simp only at e0 e1 hst
        unfold least at hst
        have HB2 := Lib.hid HB.out
        have HST := Lib.hid hst
        clear d0 d1 hB hp HJ hst hn hnn
        go_wp2
        all_goals
          go_roundw
          case rel => exact ⟨k + 1, _, by omega, rfl, by go_num, HST.out.trans (by first | rfl | (split <;> omega) | omega), (HB2.out.alloc HB2.out.size _)⟩
          case measure => simp [intOf]; omega
      · obtain rfl : k = n := by omega
        have e := HT.out k hn
        have hv : Hid (nxL xs = z) := by
          show _ = _
          rw [← HJ.out, e]
        clear e hn hnn HJ
        go_wp2
        go_ret2
        exact ⟨by rw [hv.out]; rfl, HL.out.trans (HB.out.mono HL.out.size)⟩
end Go.Proofs.Ytdjifjlkpimiaaa
