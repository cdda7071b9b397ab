/-
  tetherref12.ReadRequest, ReadAnswer.
-/
import Derived.Test.YtglboagjmbjehaaPaRTake
namespace Go.Proofs.Ytglboagjmbjehaa
open Go.RowKit Go.Shelf
set_option maxRecDepth 100000
set_option maxHeartbeats 4000000
set_option linter.unusedSimpArgs false
set_option linter.unusedVariables false

theorem prs_none {n : Nat} {l : List UInt8} (h : tk l = none) : prs (n + 1) l = ([], l) := by
  cases l with
  | nil => rfl
  | cons c r =>
    have h' : (if r.length < c.toNat then none else some (stOf (r.take c.toNat), r.drop c.toNat)) = none := h
    by_cases hs : r.length < c.toNat
    · unfold prs
      rw [if_pos hs]
    · rw [if_neg hs] at h'
      cases h'
theorem prs_some {n : Nat} {l r : List UInt8} {s : ByteArray} (h : tk l = some (s, r)) : prs (n + 1) l = (s :: (prs n r).1, (prs n r).2) := by
  cases l with
  | nil => cases h
  | cons c r' =>
    have h' : (if r'.length < c.toNat then none else some (stOf (r'.take c.toNat), r'.drop c.toNat)) = some (s, r) := h
    by_cases hs : r'.length < c.toNat
    · rw [if_pos hs] at h'
      cases h'
    · rw [if_neg hs] at h'
      injection h' with h'
      injection h' with h1 h2
      subst h1 h2
      conv => lhs; unfold prs
      rw [if_neg hs]
theorem tk_len {l r : List UInt8} {s : ByteArray} (h : tk l = some (s, r)) : r.length ≤ l.length ∧ s.size ≤ 255 ∧ l ≠ [] := by
  cases l with
  | nil => cases h
  | cons c r' =>
    have h' : (if r'.length < c.toNat then none else some (stOf (r'.take c.toNat), r'.drop c.toNat)) = some (s, r) := h
    by_cases hs : r'.length < c.toNat
    · rw [if_pos hs] at h'
      cases h'
    · rw [if_neg hs] at h'
      injection h' with h'
      injection h' with h1 h2
      subst h1 h2
      have := c.toNat_lt
      refine ⟨?_, ?_, by simp⟩
      · rw [List.length_drop, List.length_cons]; omega
      · rw [stOf_size, List.length_take]; omega
theorem take_none (A : Option Addr) (n c B : Nat) (l : List UInt8) (w : World) (hr : Rd w B A n l) (hB : B ≤ w.heap.size) (hc : n ≤ c) (hnil : A = none → c = 0) (hm : n ≤ maxLen) (h : tk l = none) :
    Calls Try.prog 57 #[.slice A n c] w fun e w' => e = .returned (.tuple #[.string ⟨#[]⟩, .slice none 0 0, .bool false]) ∧ Below w.heap.size w w' := by
  refine (rtake_any A n c B l w hr hB hc hnil hm).mono ?_
  rintro e w' ⟨b, ⟨-, rfl⟩ | ⟨s, r, A', n', c', h2, -⟩⟩
  · exact ⟨rfl, b⟩
  · rw [h] at h2; cases h2
theorem take_some (A : Option Addr) (n c B : Nat) (l : List UInt8) (w : World) (hr : Rd w B A n l) (hB : B ≤ w.heap.size) (hc : n ≤ c) (hnil : A = none → c = 0) (hm : n ≤ maxLen) {s : ByteArray} {r : List UInt8} (h : tk l = some (s, r)) :
    Calls Try.prog 57 #[.slice A n c] w fun e w' => ∃ A' n' c', e = .returned (.tuple #[.string s, .slice A' n' c', .bool true]) ∧ Below w.heap.size w w' ∧ Rd w' B A' n' r ∧ n' ≤ c' ∧ (A' = none → c' = 0) := by
  refine (rtake_any A n c B l w hr hB hc hnil hm).mono ?_
  rintro e w' ⟨b, ⟨h2, -⟩ | ⟨s', r', A', n', c', h2, rfl, h3⟩⟩
  · rw [h] at h2; cases h2
  · rw [h] at h2
    injection h2 with h2
    injection h2 with h4 h5
    subst h4 h5
    exact ⟨A', n', c', rfl, b, h3⟩
theorem hasI_one (z a : Int) : hasI [a] z = decide (z = a) := by
  unfold hasI
  by_cases h : z = a <;> simp [h]
theorem rqE_bad {code id : Int} {l : List UInt8} (h : idB id = false) : rqE code id l = 1 := by
  unfold rqE mustE
  rw [h]
  simp
theorem rqE_code {code id : Int} {l : List UInt8} (h : idB id = true) (hc : code ≠ 1) : rqE code id l = 90 := by
  unfold rqE mustE
  rw [h, hasI_one, decide_eq_false hc]
  simp
theorem rqE_good {code id : Int} {l : List UInt8} (h : idB id = true) (hc : code = 1) : rqE code id l = parE 2 l := by
  unfold rqE mustE
  rw [h, hasI_one, decide_eq_true hc]
  simp
theorem rqS_bad {code id : Int} {l : List UInt8} (h : rqE code id l ≠ 0) (i : Nat) : rqS code id l i = ⟨#[]⟩ := by unfold rqS; rw [if_neg h]
/-- behind a refusal -/
def RqF (w : World) (code id : Int) (l : List UInt8) (e : Ending) (w' : World) : Prop :=
  e = .returned (.tuple #[.string (rqS code id l 0), .string (rqS code id l 1), .int .i64 (rqE code id l)]) ∧ Below w.heap.size w w'
theorem rqF_no {w w' : World} {code id er : Int} {l : List UInt8} (he : rqE code id l = er) (h0 : er ≠ 0) (hB : Below w.heap.size w w') : RqF w code id l (.returned (.tuple #[.string ⟨#[]⟩, .string ⟨#[]⟩, .int .i64 er])) w' := by
  refine ⟨?_, hB⟩
  rw [rqS_bad (by rw [he]; exact h0), rqS_bad (by rw [he]; exact h0), he]
theorem rreadRequest_any (code id : Int) (D : Option Addr) (k d B : Nat) (l : List UInt8) (w : World) (hr : Rd w B D k l) (hB : B ≤ w.heap.size) (hkd : k ≤ d) (hnil : D = none → d = 0) (hm : k ≤ maxLen) :
    Calls Try.prog 38 #[.agg #[.int .i64 code, .int .i64 id, .slice D k d]] w (RqF w code id l) := by
  have NU := Lib.hid (fun W => number_any id W)
  obtain ⟨V, hV⟩ : ∃ V, w.alloc (.cells #[.int .i64 code, .int .i64 id, .slice D k d] 38) = V := ⟨_, rfl⟩
  have bV : Below w.heap.size w V := by rw [← hV]; exact (Below.refl _ _).alloc (Nat.le_refl _) _
  have h0 : Blk V w.heap.size 38 [.int .i64 code, .int .i64 id, .slice D k d] := by rw [← hV]; exact heap_alloc_new w _
  have x0 := h0.cell 0
  have x1 := h0.cell 1
  have x2 := h0.cell 2
  have rV := hr.below (bV.mono hB)
  have hBV := Nat.le_trans hB bV.size
  have hl := hr.1
  have HV := Lib.hid hV
  cases hi : idB id
  · have F : Hid (RqF w code id l (.returned (.tuple #[.string ⟨#[]⟩, .string ⟨#[]⟩, .int .i64 1])) V) := rqF_no (rqE_bad hi) (by omega) bV
    rw [hi] at NU
    clear hr rV h0 bV hV hi
    go_enter Try.func38, Try.ntmps38
    go_wp2_with (first
      | (rw [HV.out])
      | (go_at_call 56; ((with_reducible refine (NU.out _).mono ?_); rintro e w' ⟨rfl, rfl⟩)))
    exact bodyPost_ret (v := .tuple #[.string ⟨#[]⟩, .string ⟨#[]⟩, .int .i64 1]) (by simp [results, Try.results38, go_sem]) rfl F.out
  · by_cases hc : code = 1
    · have e1 : (code != 1) = false := by simpa using hc
      have hE := rqE_good (l := l) hi hc
      rw [hi] at NU
      cases ht : tk l with
      | none =>
        have C : Hid (Calls Try.prog 57 #[.slice D k d] V fun e w1 => e = .returned (.tuple #[.string ⟨#[]⟩, .slice none 0 0, .bool false]) ∧ RqF w code id l (.returned (.tuple #[.string ⟨#[]⟩, .string ⟨#[]⟩, .int .i64 8])) w1) := by
          refine (take_none D k d B l V rV hBV hkd hnil hm ht).mono ?_
          rintro e w1 ⟨rfl, b1⟩
          exact ⟨rfl, rqF_no (by rw [hE]; unfold parE; rw [prs_none ht]; rfl) (by omega) (bV.trans (b1.mono bV.size))⟩
        clear hr rV h0 bV hV hi hc hE ht
        go_enter Try.func38, Try.ntmps38
        go_wp2_with (first
          | (rw [HV.out])
          | (go_at_call 56; ((with_reducible refine (NU.out _).mono ?_); rintro e w' ⟨rfl, rfl⟩))
          | (go_at_call 57; ((with_reducible refine C.out.mono ?_); rintro e w1 ⟨rfl, hf⟩; have F := Lib.hid hf; clear hf)))
        exact bodyPost_ret (v := .tuple #[.string ⟨#[]⟩, .string ⟨#[]⟩, .int .i64 8]) (by simp [results, Try.results38, go_sem]) rfl F.out
      | some q =>
        obtain ⟨s, r⟩ := q
        have tl := tk_len ht
        cases ht2 : tk r with
        | none =>
          have C : Hid (Calls Try.prog 57 #[.slice D k d] V fun e w1 => ∃ A' n' c', e = .returned (.tuple #[.string s, .slice A' n' c', .bool true]) ∧
              Calls Try.prog 57 #[.slice A' n' c'] w1 fun e w2 => e = .returned (.tuple #[.string ⟨#[]⟩, .slice none 0 0, .bool false]) ∧ RqF w code id l (.returned (.tuple #[.string ⟨#[]⟩, .string ⟨#[]⟩, .int .i64 8])) w2) := by
            refine (take_some D k d B l V rV hBV hkd hnil hm ht).mono ?_
            rintro e w1 ⟨A', n', c', rfl, b1, r1, hc1, hn1⟩
            have B1 := bV.trans (b1.mono bV.size)
            refine ⟨A', n', c', rfl, (take_none A' n' c' B r w1 r1 (by have := B1.size; omega) hc1 hn1 (by have := r1.1; omega) ht2).mono ?_⟩
            rintro e w2 ⟨rfl, b2⟩
            exact ⟨rfl, rqF_no (by rw [hE]; unfold parE; rw [prs_some ht, prs_none ht2]; rfl) (by omega) (B1.trans (b2.mono B1.size))⟩
          clear hr rV h0 bV hV hi hc hE ht ht2 tl
          go_enter Try.func38, Try.ntmps38
          go_wp2_with (first
            | (rw [HV.out])
            | (go_at_call 56; ((with_reducible refine (NU.out _).mono ?_); rintro e w' ⟨rfl, rfl⟩))
            | (go_at_call 57; ((with_reducible refine C.out.mono ?_); rintro e w1 ⟨A', n', c', rfl, hf⟩; have C2 := Lib.hid hf; clear hf))
            | (go_at_call 57; ((with_reducible refine C2.out.mono ?_); rintro e w2 ⟨rfl, hf⟩; have F := Lib.hid hf; clear hf)))
          exact bodyPost_ret (v := .tuple #[.string ⟨#[]⟩, .string ⟨#[]⟩, .int .i64 8]) (by simp [results, Try.results38, go_sem]) rfl F.out
        | some q2 =>
          obtain ⟨s2, r2⟩ := q2
          have pe : prs 2 l = ([s, s2], r2) := by rw [prs_some ht, prs_some ht2]; rfl
          by_cases hr2 : r2.length = 0
          · have hz : parE 2 l = 0 := by unfold parE; rw [pe]; simp [List.eq_nil_of_length_eq_zero hr2]
            have C : Hid (Calls Try.prog 57 #[.slice D k d] V fun e w1 => ∃ A' n' c', e = .returned (.tuple #[.string s, .slice A' n' c', .bool true]) ∧
                Calls Try.prog 57 #[.slice A' n' c'] w1 fun e w2 => ∃ A2 c2, e = .returned (.tuple #[.string s2, .slice A2 0 c2, .bool true]) ∧ RqF w code id l (.returned (.tuple #[.string s, .string s2, .int .i64 0])) w2) := by
              refine (take_some D k d B l V rV hBV hkd hnil hm ht).mono ?_
              rintro e w1 ⟨A', n', c', rfl, b1, r1, hc1, hn1⟩
              have B1 := bV.trans (b1.mono bV.size)
              refine ⟨A', n', c', rfl, (take_some A' n' c' B r w1 r1 (by have := B1.size; omega) hc1 hn1 (by have := r1.1; omega) ht2).mono ?_⟩
              rintro e w2 ⟨A2, n2, c2, rfl, b2, r2', -⟩
              obtain rfl : n2 = 0 := r2'.1.symm.trans hr2
              refine ⟨A2, c2, rfl, ?_, B1.trans (b2.mono B1.size)⟩
              unfold rqS
              rw [hE, hz, if_pos rfl, if_pos rfl, pe]
              rfl
            clear hr rV h0 bV hV hi hc hE ht ht2 tl pe hz hr2
            go_enter Try.func38, Try.ntmps38
            go_wp2_with (first
              | (rw [HV.out])
              | (go_at_call 56; ((with_reducible refine (NU.out _).mono ?_); rintro e w' ⟨rfl, rfl⟩))
              | (go_at_call 57; ((with_reducible refine C.out.mono ?_); rintro e w1 ⟨A', n', c', rfl, hf⟩; have C2 := Lib.hid hf; clear hf))
              | (go_at_call 57; ((with_reducible refine C2.out.mono ?_); rintro e w2 ⟨A2, c2, rfl, hf⟩; have F := Lib.hid hf; clear hf)))
            exact bodyPost_ret (v := .tuple #[.string s, .string s2, .int .i64 0]) (by simp [results, Try.results38, go_sem]) rfl F.out
          · have hz : parE 2 l = 3 := by unfold parE; rw [pe, if_neg (by simp), if_pos (by show 0 < r2.length; omega)]
            have C : Hid (Calls Try.prog 57 #[.slice D k d] V fun e w1 => ∃ A' n' c', e = .returned (.tuple #[.string s, .slice A' n' c', .bool true]) ∧
                Calls Try.prog 57 #[.slice A' n' c'] w1 fun e w2 => ∃ A2 n2 c2, e = .returned (.tuple #[.string s2, .slice A2 n2 c2, .bool true]) ∧ (0 : Int) < (n2 : Int) ∧ RqF w code id l (.returned (.tuple #[.string ⟨#[]⟩, .string ⟨#[]⟩, .int .i64 3])) w2) := by
              refine (take_some D k d B l V rV hBV hkd hnil hm ht).mono ?_
              rintro e w1 ⟨A', n', c', rfl, b1, r1, hc1, hn1⟩
              have B1 := bV.trans (b1.mono bV.size)
              refine ⟨A', n', c', rfl, (take_some A' n' c' B r w1 r1 (by have := B1.size; omega) hc1 hn1 (by have := r1.1; omega) ht2).mono ?_⟩
              rintro e w2 ⟨A2, n2, c2, rfl, b2, r2', -⟩
              exact ⟨A2, n2, c2, rfl, by have := r2'.1; omega, rqF_no (by rw [hE, hz]) (by omega) (B1.trans (b2.mono B1.size))⟩
            clear hr rV h0 bV hV hi hc hE ht ht2 tl pe hz hr2
            go_enter Try.func38, Try.ntmps38
            go_wp2_with (first
              | (rw [HV.out])
              | (go_at_call 56; ((with_reducible refine (NU.out _).mono ?_); rintro e w' ⟨rfl, rfl⟩))
              | (go_at_call 57; ((with_reducible refine C.out.mono ?_); rintro e w1 ⟨A', n', c', rfl, hf⟩; have C2 := Lib.hid hf; clear hf))
              | (go_at_call 57; ((with_reducible refine C2.out.mono ?_); rintro e w2 ⟨A2, n2, c2, rfl, hn2, hf⟩; have F := Lib.hid hf; clear hf)))
            exact bodyPost_ret (v := .tuple #[.string ⟨#[]⟩, .string ⟨#[]⟩, .int .i64 3]) (by simp [results, Try.results38, go_sem]) rfl F.out
    · have e1 : (code != 1) = true := by simpa using hc
      have F : Hid (RqF w code id l (.returned (.tuple #[.string ⟨#[]⟩, .string ⟨#[]⟩, .int .i64 90])) V) := rqF_no (rqE_code hi hc) (by omega) bV
      rw [hi] at NU
      clear hr rV h0 bV hV hi hc
      go_enter Try.func38, Try.ntmps38
      go_wp2_with (first
        | (rw [HV.out])
        | (go_at_call 56; ((with_reducible refine (NU.out _).mono ?_); rintro e w' ⟨rfl, rfl⟩)))
      exact bodyPost_ret (v := .tuple #[.string ⟨#[]⟩, .string ⟨#[]⟩, .int .i64 90]) (by simp [results, Try.results38, go_sem]) rfl F.out
end Go.Proofs.Ytglboagjmbjehaa
