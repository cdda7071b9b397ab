/-
  tetherlaw08: alike, whole; the reference's Next.
-/
import Derived.Test.YtdlnmhobhafobaaTmEvery
import Derived.Test.YtdlnmhobhafobaaTmTold
import Derived.Test.YtdlnmhobhafobaaTmTie
import Derived.Test.YtdlnmhobhafobaaTmRAll2
import Derived.Test.YtdlnmhobhafobaaTmRFirst
import Derived.Test.YtdlnmhobhafobaaTmOb
import Derived.BigQuiet
import Derived.Deep.RegionHeld3
import Derived.Outline
import Derived.Test.YtdlnmhobhafobaaTmTwo
namespace Go.Proofs.Ytdlnmhobhafobaa
open Go.RowKit Go.Shelf
set_option maxRecDepth 100000
set_option maxHeartbeats 4000000
set_option linter.unusedSimpArgs false
set_option linter.unusedVariables false

theorem ownR_shape {w : World} {base : Nat} {v : Value} {l : List T2} (h : OwnR w base v l) (h0 : 0 < l.length) : ∃ g c, v = .slice (some ⟨g, 0, none⟩) l.length c ∧ g < w.heap.size := by
  rcases h.form with ⟨_, e⟩ | ⟨g, cap, e, _, hl, _⟩
  · rw [e] at h0; simp at h0
  · exact ⟨g, cap, e, hl⟩
theorem neqR (x : T2) (W : World) : (binOp .neq 108 (.agg #[.int .i64 x.1, .int .i64 x.2]) (.agg #[.int .i64 x.1, .int .i64 x.2])).run Try.prog W = .ok (.bool false) W := by
  have u3 := Try.underlying3
  have u2 := Try.underlying2
  have a3 := Try.isAgg3
  have a2 := Try.isAgg2
  have z3 := Try.sizeOf3
  have z2 := Try.sizeOf2
  have hS : Try.prog.underlying 108 = some (.struct (Try.prog.fieldsOf 108)) := by kernel_rfl
  have hp : Try.prog.stoodInHeld 108 = false := by kernel_rfl
  rw [run_neq_struct, show (10000 : Nat) = 9999 + 1 from rfl, run_equalIn_agg W 9999 108 _ _ hS hp]
  simp only [Program.fieldsOf, Try.underlying108]
  go_simp
/-- two slices of the same timers are alike -/
theorem alike_yes (u v : Value) (l : List T2) (b1 b2 : Nat) (w : World) (h : OwnR w b1 u l) (k : OwnR w b2 v l) (hm : l.length ≤ 1152921504606846976) :
    Calls Try.prog 16 #[u, v] w fun e w' => e = .returned (.bool true) ∧ Below w.heap.size w w' := by
  obtain ⟨A, c, rfl, _⟩ := h.slice
  obtain ⟨B, d, rfl, _⟩ := k.slice
  obtain ⟨n, hn⟩ : ∃ n, l.length = n := ⟨_, rfl⟩
  have H := Lib.hid h
  have K := Lib.hid k
  rw [hn] at H K hm ⊢
  have HN := Lib.hid hn
  clear h k hn
  go_enter Try.func16, Try.ntmps16
  go_wp2
  go_loopw [13] (fun i wr => ∃ j : Nat, j ≤ n ∧ i = .int .i64 j ∧ Below w.heap.size w wr) (fun i _ => n - (intOf i).toNat)
  case atStart => exact ⟨0, Nat.zero_le _, rfl, Below.refl _ _⟩
  case round =>
    rename_i wr
    obtain ⟨j, hj, rfl, hB⟩ := hrel
    by_cases hlt : j < n
    · have hl := HN.out
      obtain ⟨x, hx⟩ : ∃ x, l[j]? = some x := ⟨l[j]'(by omega), List.getElem?_eq_getElem _⟩
      obtain ⟨gr, rfl⟩ : ∃ gr, A = some ⟨gr, 0, none⟩ := by
        obtain ⟨g, c', e, _⟩ := ownR_shape H.out (by omega)
        injection e with e
        exact ⟨g, e⟩
      obtain ⟨gs, rfl⟩ : ∃ gs, B = some ⟨gs, 0, none⟩ := by
        obtain ⟨g, c', e, _⟩ := ownR_shape K.out (by omega)
        injection e with e
        exact ⟨g, e⟩
      obtain ⟨c0, c1⟩ := (H.out.later hB).cell j x hx
      obtain ⟨d0, d1⟩ := (K.out.later hB).cell j x hx
      have j0 : (0 : Int) ≤ (j : Int) := by omega
      have jn : (j : Int) < (n : Int) := by omega
      have EQ := fun W => neqR x W
      have HBe := Lib.hid hB
      clear hB hx hl
      go_upto_region 6 with (fail)
      go_quiet (fail)
      go_wp2
      go_roundw
      case rel => exact ⟨j + 1, by omega, by go_num, below_drewM HBe.out _⟩
      case measure => simp [intOf]; omega
    · have hkn' : j = n := by omega
      subst hkn'
      go_wp2
      go_ret
      exact ⟨rfl, hB⟩

theorem rnext_none (base g : Nat) (v : Value) (w : World) (h : Rq w base g [] v) :
    Calls Try.prog 68 #[.pointer (some ⟨g, 0, none⟩)] w fun e w' => e = .returned (.tuple #[.int .i64 0, .int .i64 5]) ∧ Below w.heap.size w w' := by
  have F : Hid (Calls Try.prog 69 #[.pointer (some ⟨g, 0, none⟩)] w fun e w' => e = .returned (.int .i64 (-1)) ∧ Below w.heap.size w w') := by
    refine (rtmfirst_any base g [] v w h (by simp)).mono ?_
    rintro e w' ⟨rfl, hB⟩
    exact ⟨rfl, hB⟩
  clear h
  go_enter Try.func68, Try.ntmps68
  go_wp2_with (go_at_call 69; ((with_reducible refine F.out.mono ?_); rintro e w1 ⟨rfl, hB⟩; have HB := Lib.hid hB; clear hB))
  go_ret2
  exact ⟨rfl, HB.out⟩
theorem rnext_some (base g : Nat) (ys : List T2) (x : T2) (k : Nat) (v : Value) (w : World) (h : Rq w base g ys v) (hm : ys.length ≤ 64) (hk : fiN ys ys.length = k) (hx : ys[k]? = some x) :
    Calls Try.prog 68 #[.pointer (some ⟨g, 0, none⟩)] w fun e w' => e = .returned (.tuple #[.int .i64 x.2, .int .i64 0]) ∧ Below w.heap.size w w' := by
  have hkl : k < ys.length := (List.getElem?_eq_some_iff.1 hx).1
  obtain ⟨n, hn⟩ : ∃ n, ys.length = n := ⟨_, rfl⟩
  have F : Hid (Calls Try.prog 69 #[.pointer (some ⟨g, 0, none⟩)] w fun e w' => e = .returned (.int .i64 k) ∧ Below w.heap.size w w' ∧ ∃ gr c, w'.cell? ⟨g, 0, none⟩ = some (.slice (some ⟨gr, 0, none⟩) n c) ∧ w'.cell? ⟨gr, k * 2 + 1, none⟩ = some (.int .i64 x.2)) := by
    refine (rtmfirst_any base g ys v w h (by omega)).mono ?_
    rintro e w' ⟨rfl, hB⟩
    have h2 := h.later hB
    obtain ⟨gr, c, e, _⟩ := ownR_shape h2.own (by omega)
    rw [hn] at e
    subst e
    exact ⟨by rw [hk], hB, gr, c, h2.blk.cell 0, (h2.own.cell k x hx).2⟩
  have k0 : ¬ ((k : Int) < 0) := by omega
  have k1 : (k : Int) < (n : Int) := by omega
  clear h hx hk
  go_enter Try.func68, Try.ntmps68
  go_wp2_with (go_at_call 69; ((with_reducible refine F.out.mono ?_); rintro e w1 ⟨rfl, hB, gr, c, x0, x1⟩; have HB := Lib.hid hB; clear hB))
  go_ret2
  exact ⟨rfl, HB.out⟩
def nxA : List T2 → Int
  | [] => 0
  | x :: _ => x.2
def nxE : List T2 → Int
  | [] => 5
  | _ :: _ => 0
theorem tnext_any (base g : Nat) (xs : List T2) (v : Value) (w : World) (h : Qs w base g xs v) : Calls Try.prog 67 #[.pointer (some ⟨g, 0, none⟩)] w fun e w' => e = .returned (.tuple #[.int .i64 (nxA xs), .int .i64 (nxE xs)]) ∧ w = w' := by
  cases xs with
  | nil => exact tnext_none base g v w h
  | cons x xs => exact tnext_some base g x xs v w h
theorem rnext_any (base g : Nat) (ys : List T2) (v : Value) (w : World) (h : Rq w base g ys v) (hm : ys.length ≤ 64) :
    Calls Try.prog 68 #[.pointer (some ⟨g, 0, none⟩)] w fun e w' => e = .returned (.tuple #[.int .i64 (nxA (srt ys)), .int .i64 (nxE (srt ys))]) ∧ Below w.heap.size w w' := by
  rcases Nat.eq_zero_or_pos ys.length with h0 | h0
  · obtain rfl : ys = [] := List.eq_nil_of_length_eq_zero h0
    exact rnext_none base g v w h
  · obtain ⟨k, hk, _⟩ := fiN_in ys ys.length h0
    obtain ⟨x, hx, hs, _⟩ := srt_first ys k hk
    rw [hs]
    exact rnext_some base g ys x k v w h hm hk hx
theorem Two.cell {w W : World} {q r : Nat} {xs ys : List T2} {v u : Value} (h : Two w W q r xs ys v u) {n : Nat} (hn : ys.length = n) : ∃ A c, u = .slice A n c ∧ W.cell? ⟨r, 0, none⟩ = some u := by
  obtain ⟨A, c, e, _⟩ := h.b.own.slice
  rw [hn] at e
  exact ⟨A, c, e, h.b.blk.cell 0⟩
/-- what both tell is the same -/
theorem whole_any {w W : World} {q r : Nat} {xs ys : List T2} {v u : Value} (h : Two w W q r xs ys v u) (ht : Tie xs ys) :
    Calls Try.prog 14 #[.pointer (some ⟨q, 0, none⟩), .pointer (some ⟨r, 0, none⟩)] W fun e W' => e = .returned (.bool true) ∧ Below W.heap.size W W' := by
  have hlen := ht.len
  have h64 := ht.2.2
  obtain ⟨n, hn⟩ : ∃ n, ys.length = n := ⟨_, rfl⟩
  have hxn : xs.length = n := by omega
  obtain ⟨A, c, hu, -⟩ := h.cell hn
  obtain ⟨a, ha⟩ : ∃ a, nxA xs = a := ⟨_, rfl⟩
  obtain ⟨b, hb⟩ : ∃ b, nxE xs = b := ⟨_, rfl⟩
  have C : Hid (Calls Try.prog 67 #[.pointer (some ⟨q, 0, none⟩)] W fun e W1 => e = .returned (.tuple #[.int .i64 a, .int .i64 b]) ∧ Calls Try.prog 68 #[.pointer (some ⟨r, 0, none⟩)] W1 fun e W2 => e = .returned (.tuple #[.int .i64 a, .int .i64 b]) ∧ W2.cell? ⟨r, 0, none⟩ = some (.slice A n c) ∧
      Calls Try.prog 19 #[.pointer (some ⟨q, 0, none⟩)] W2.drew fun e W3 => e = .returned (.int .i64 n) ∧ W3.cell? ⟨r, 0, none⟩ = some (.slice A n c) ∧
        Calls Try.prog 17 #[.pointer (some ⟨q, 0, none⟩), .int .i64 1000] W3 fun e W4 => ∃ D k d, e = .returned (.slice D k d) ∧ W4.cell? ⟨r, 0, none⟩ = some (.slice A n c) ∧
          Calls Try.prog 15 #[.pointer (some ⟨r, 0, none⟩)] W4 fun e W5 => ∃ E m f, e = .returned (.slice E m f) ∧ W5.cell? ⟨r, 0, none⟩ = some (.slice A n c) ∧
            Calls Try.prog 16 #[.slice D k d, .slice E m f] W5 fun e W6 => e = .returned (.bool true) ∧ W6.cell? ⟨r, 0, none⟩ = some (.slice A n c) ∧ Below W.heap.size W W6) := by
    refine (tnext_any w.heap.size q xs v W h.a).mono ?_
    rintro e W1 ⟨rfl, rfl⟩
    refine ⟨by rw [ha, hb], (rnext_any w.heap.size r ys u W h.b h64).mono ?_⟩
    rintro e W2 ⟨rfl, b2⟩
    rw [← ht.1, ha, hb]
    have h2 := h.later b2
    have c2 := h2.b.blk.cell 0
    have b3 : Below W2.heap.size W2 W2.drew := below_drewM (Below.refl _ _) 1
    have h3 := h2.later b3
    refine ⟨rfl, by rw [← hu]; exact c2, (tlen_any w.heap.size q xs v W2.drew h3.a).mono ?_⟩
    rintro e W3 ⟨rfl, rfl⟩
    refine ⟨by rw [hxn], by rw [← hu]; exact h3.b.blk.cell 0, (every_any w.heap.size q xs v 1000 W2.drew h3.a (by omega) (by omega) (by omega)).mono ?_⟩
    rintro e W4 ⟨dv, rfl, o4, b4⟩
    rw [List.take_of_length_le (by omega)] at o4
    obtain ⟨D, d, rfl, _⟩ := o4.slice
    have h4 := h3.later b4
    refine ⟨D, _, d, rfl, by rw [← hu]; exact h4.b.blk.cell 0, (rtmall_any w.heap.size r ys u W4 h4.b h64).mono ?_⟩
    rintro e W5 ⟨E, m, f, rfl, o5, b5⟩
    rw [← ht.1] at o5
    have h5 := h4.later b5
    have z2 := b2.size
    have z4 : W2.heap.size ≤ W4.heap.size := b4.size
    have z5 := b5.size
    refine ⟨E, m, f, rfl, by rw [← hu]; exact h5.b.blk.cell 0, (alike_yes _ _ xs _ _ W5 (o4.later b5) o5 (by omega)).mono ?_⟩
    rintro e W6 ⟨rfl, b6⟩
    have h6 := h5.later b6
    exact ⟨rfl, by rw [← hu]; exact h6.b.blk.cell 0, (((b2.trans (b3.mono z2)).trans (b4.mono z2)).trans (b5.mono (by omega))).trans (b6.mono (by omega))⟩
  have E1 : ∀ z : Int, (z == z) = true := fun z => by simp
  clear h ht hu hlen hn hxn ha hb
  go_enter Try.func14, Try.ntmps14
  go_upto_region 3 with (first
    | (go_at_call 67; ((with_reducible refine C.out.mono ?_); rintro e W1 ⟨rfl, c1⟩; have C1 := Lib.hid c1; clear c1))
    | (go_at_call 68; ((with_reducible refine C1.out.mono ?_); rintro e W2 ⟨rfl, x2, c2⟩; have C2 := Lib.hid c2; clear c2)))
  go_region_held3 (fun w' => w'.cell? ⟨r, 0, none⟩ = some (.slice A n c)) (go_keep) (first
    | (go_at_call 19; (with_reducible refine C2.out.mono ?_); rintro e W3 ⟨rfl, x3, c3⟩; have C3 := Lib.hid c3; clear c3)
    | (go_at_call 17; (with_reducible refine C3.out.mono ?_); rintro e W4 ⟨D, k, d, rfl, x4, c4⟩; have C4 := Lib.hid c4; clear c4)
    | (go_at_call 15; (with_reducible refine C4.out.mono ?_); rintro e W5 ⟨E, m, f, rfl, x5, c5⟩; have C5 := Lib.hid c5; clear c5)
    | (go_at_call 16; (with_reducible refine C5.out.mono ?_); rintro e W6 ⟨rfl, x6, c6⟩; have C6 := Lib.hid c6; clear c6))
  all_goals
    go_wp2_with fail
    go_ret
    exact ⟨rfl, C6.out⟩
end Go.Proofs.Ytdlnmhobhafobaa
