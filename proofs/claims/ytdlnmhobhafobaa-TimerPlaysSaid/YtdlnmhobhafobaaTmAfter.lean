/-
  After and Left of both; Copy.
-/
import Derived.Test.YtdlnmhobhafobaaTmRPop
import Derived.WalkLawsBesides
namespace Go.Proofs.Ytdlnmhobhafobaa
open Go.RowKit Go.Shelf
set_option maxRecDepth 100000
set_option maxHeartbeats 4000000
set_option linter.unusedSimpArgs false
set_option linter.unusedVariables false

/-- a time and a span that can be -/
def okA (now sp : Int) : Prop := 0 ≤ now ∧ now ≤ 1099511627776 ∧ 0 ≤ sp ∧ sp ≤ 2147483648
def aft (now sp : Int) : Int := if now + sp ≤ 1099511627776 then now + sp else 1099511627776
theorem after_bad (g : Nat) (id now sp : Int) (w : World) (hw : IntKind.i64.wrap now = now) (h : ¬ okA now sp) :
    Calls Try.prog 55 #[.pointer (some ⟨g, 0, none⟩), .int .i64 id, .int .i64 now, .int .i64 sp] w fun e w' => e = .returned (.int .i64 1) ∧ w = w' := by
  have IT := Lib.hid (fun W => isTime_any now W hw)
  by_cases ht : 0 ≤ now ∧ now ≤ 1099511627776
  · have hd : decide (0 ≤ now ∧ now ≤ 1099511627776) = true := by simpa using ht
    rw [hd] at IT
    have hs : sp < 0 ∨ 2147483648 < sp := by
      unfold okA at h
      omega
    clear h hd ht hw
    by_cases h0 : sp < 0
    · clear hs
      go_enter Try.func55, Try.ntmps55
      go_wp2_with (go_at_call 91; ((with_reducible refine (IT.out _).mono ?_); rintro e w' ⟨rfl, rfl⟩))
      go_ret
      exact ⟨rfl, rfl⟩
    · have h1 : 2147483648 < sp := by omega
      clear hs
      go_enter Try.func55, Try.ntmps55
      go_wp2_with (go_at_call 91; ((with_reducible refine (IT.out _).mono ?_); rintro e w' ⟨rfl, rfl⟩))
      go_ret
      exact ⟨rfl, rfl⟩
  · have hd : decide (0 ≤ now ∧ now ≤ 1099511627776) = false := by simpa using ht
    rw [hd] at IT
    clear h hd ht hw
    go_enter Try.func55, Try.ntmps55
    go_wp2_with (go_at_call 91; ((with_reducible refine (IT.out _).mono ?_); rintro e w' ⟨rfl, rfl⟩))
    go_ret
    exact ⟨rfl, rfl⟩
theorem rafter_bad (g : Nat) (id now sp : Int) (w : World) (hw : IntKind.i64.wrap now = now) (h : ¬ okA now sp) :
    Calls Try.prog 56 #[.pointer (some ⟨g, 0, none⟩), .int .i64 id, .int .i64 now, .int .i64 sp] w fun e w' => e = .returned (.int .i64 1) ∧ w = w' := by
  have IT := Lib.hid (fun W => rtime_any now W hw)
  by_cases ht : 0 ≤ now ∧ now ≤ 1099511627776
  · have hd : decide (0 ≤ now ∧ now ≤ 1099511627776) = true := by simpa using ht
    rw [hd] at IT
    have hs : sp < 0 ∨ 2147483648 < sp := by
      unfold okA at h
      omega
    clear h hd ht hw
    by_cases h0 : sp < 0
    · clear hs
      go_enter Try.func56, Try.ntmps56
      go_wp2_with (go_at_call 96; ((with_reducible refine (IT.out _).mono ?_); rintro e w' ⟨rfl, rfl⟩))
      go_ret
      exact ⟨rfl, rfl⟩
    · have h1 : 2147483648 < sp := by omega
      clear hs
      go_enter Try.func56, Try.ntmps56
      go_wp2_with (go_at_call 96; ((with_reducible refine (IT.out _).mono ?_); rintro e w' ⟨rfl, rfl⟩))
      go_ret
      exact ⟨rfl, rfl⟩
  · have hd : decide (0 ≤ now ∧ now ≤ 1099511627776) = false := by simpa using ht
    rw [hd] at IT
    clear h hd ht hw
    go_enter Try.func56, Try.ntmps56
    go_wp2_with (go_at_call 96; ((with_reducible refine (IT.out _).mono ?_); rintro e w' ⟨rfl, rfl⟩))
    go_ret
    exact ⟨rfl, rfl⟩
theorem after_good (base g : Nat) (xs : List T2) (v : Value) (id now sp : Int) (w : World) (hq : Qs w base g xs v) (hb : base ≤ w.heap.size) (hm : xs.length ≤ 64) (h : okA now sp) :
    Calls Try.prog 55 #[.pointer (some ⟨g, 0, none⟩), .int .i64 id, .int .i64 now, .int .i64 sp] w fun e w' =>
      e = .returned (.int .i64 (setQ id (aft now sp) xs).1) ∧ ∃ v', Qs w' base g (setQ id (aft now sp) xs).2 v' ∧ TmF g v v' w w' := by
  obtain ⟨h1, h2, h3, h4⟩ := h
  have IT := Lib.hid (fun W => isTime_any now W (by rw [IntKind.wrap_i64]; omega))
  have hd : decide (0 ≤ now ∧ now ≤ 1099511627776) = true := by simp [h1, h2]
  rw [hd] at IT
  have ha : IntKind.i64.wrap (aft now sp) = aft now sp := by rw [IntKind.wrap_i64]; unfold aft; split <;> omega
  have SE := Lib.hid (set_any base g xs v id (aft now sp) w hq hb hm ha)
  obtain ⟨cd, hcd⟩ : ∃ cd, (setQ id (aft now sp) xs).1 = cd := ⟨_, rfl⟩
  rw [hcd] at SE ⊢
  have hn0 : ¬ (sp < 0) := by omega
  have hn1 : ¬ (2147483648 < sp) := by omega
  clear hq hd ha hcd
  by_cases hle : now + sp ≤ 1099511627776
  · have e : aft now sp = now + sp := if_pos hle
    rw [e] at SE ⊢
    clear e
    go_enter Try.func55, Try.ntmps55
    go_wp2_with (first
      | (go_at_call 91; ((with_reducible refine (IT.out _).mono ?_); rintro e w' ⟨rfl, rfl⟩))
      | (go_at_call 53; ((with_reducible refine SE.out.mono ?_); rintro e w2 ⟨rfl, h2⟩; have H2 := Lib.hid h2; clear h2)))
    go_ret
    exact ⟨rfl, H2.out⟩
  · have e : aft now sp = 1099511627776 := if_neg hle
    rw [e] at SE ⊢
    clear e
    have hlt : 1099511627776 < now + sp := by omega
    go_enter Try.func55, Try.ntmps55
    go_wp2_with (first
      | (go_at_call 91; ((with_reducible refine (IT.out _).mono ?_); rintro e w' ⟨rfl, rfl⟩))
      | (go_at_call 53; ((with_reducible refine SE.out.mono ?_); rintro e w2 ⟨rfl, h2⟩; have H2 := Lib.hid h2; clear h2)))
    go_ret
    exact ⟨rfl, H2.out⟩
theorem rafter_good (base g : Nat) (ys : List T2) (v : Value) (id now sp : Int) (w : World) (hq : Rq w base g ys v) (hb : base ≤ w.heap.size) (hm : ys.length ≤ 64) (h : okA now sp) :
    Calls Try.prog 56 #[.pointer (some ⟨g, 0, none⟩), .int .i64 id, .int .i64 now, .int .i64 sp] w fun e w' =>
      e = .returned (.int .i64 (rsetQ id (aft now sp) ys).1) ∧ ∃ v', Rq w' base g (rsetQ id (aft now sp) ys).2 v' ∧ TmF g v v' w w' := by
  obtain ⟨h1, h2, h3, h4⟩ := h
  have IT := Lib.hid (fun W => rtime_any now W (by rw [IntKind.wrap_i64]; omega))
  have hd : decide (0 ≤ now ∧ now ≤ 1099511627776) = true := by simp [h1, h2]
  rw [hd] at IT
  have ha : IntKind.i64.wrap (aft now sp) = aft now sp := by rw [IntKind.wrap_i64]; unfold aft; split <;> omega
  have SE := Lib.hid (rset_any base g ys v id (aft now sp) w hq hb hm ha)
  obtain ⟨cd, hcd⟩ : ∃ cd, (rsetQ id (aft now sp) ys).1 = cd := ⟨_, rfl⟩
  rw [hcd] at SE ⊢
  have hn0 : ¬ (sp < 0) := by omega
  have hn1 : ¬ (2147483648 < sp) := by omega
  clear hq hd ha hcd
  by_cases hle : now + sp ≤ 1099511627776
  · have e : aft now sp = now + sp := if_pos hle
    rw [e] at SE ⊢
    clear e
    have hlt : ¬ (1099511627776 < now + sp) := by omega
    go_enter Try.func56, Try.ntmps56
    go_wp2_with (first
      | (go_at_call 96; ((with_reducible refine (IT.out _).mono ?_); rintro e w' ⟨rfl, rfl⟩))
      | (go_at_call 54; ((with_reducible refine SE.out.mono ?_); rintro e w2 ⟨rfl, h2⟩; have H2 := Lib.hid h2; clear h2)))
    go_ret
    exact ⟨rfl, H2.out⟩
  · have e : aft now sp = 1099511627776 := if_neg hle
    rw [e] at SE ⊢
    clear e
    have hlt : 1099511627776 < now + sp := by omega
    go_enter Try.func56, Try.ntmps56
    go_wp2_with (first
      | (go_at_call 96; ((with_reducible refine (IT.out _).mono ?_); rintro e w' ⟨rfl, rfl⟩))
      | (go_at_call 54; ((with_reducible refine SE.out.mono ?_); rintro e w2 ⟨rfl, h2⟩; have H2 := Lib.hid h2; clear h2)))
    go_ret
    exact ⟨rfl, H2.out⟩
end Go.Proofs.Ytdlnmhobhafobaa
