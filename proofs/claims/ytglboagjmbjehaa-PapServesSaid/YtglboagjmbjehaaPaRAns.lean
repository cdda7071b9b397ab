/-
  tetherref12.ReadAnswer.
-/
import Derived.Test.YtglboagjmbjehaaPaRRead
namespace Go.Proofs.Ytglboagjmbjehaa
open Go.RowKit Go.Shelf
set_option maxRecDepth 100000
set_option maxHeartbeats 4000000
set_option linter.unusedSimpArgs false
set_option linter.unusedVariables false

/-- what an answer says -/
def sd (l : List UInt8) : ByteArray := (prs 1 l).1.getD 0 ⟨#[]⟩
def sdE (l : List UInt8) : Int := if l = [] then 0 else if parE 1 l ≠ 0 then parE 1 l else if shB (sd l) = false then 3 else 0
def raE (code id : Int) (l : List UInt8) : Int := if mustE id code [2, 3] = 0 then sdE l else mustE id code [2, 3]
def raS (code id : Int) (l : List UInt8) : ByteArray := if raE code id l = 0 then sd l else ⟨#[]⟩
def raO (code id : Int) (l : List UInt8) : Bool := decide (raE code id l = 0) && decide (code = 2)
def RaF (w : World) (code id : Int) (l : List UInt8) (e : Ending) (w' : World) : Prop :=
  e = .returned (.tuple #[.bool (raO code id l), .string (raS code id l), .int .i64 (raE code id l)]) ∧ Below w.heap.size w w'
theorem raF_no {w w' : World} {code id er : Int} {l : List UInt8} (he : raE code id l = er) (h0 : er ≠ 0) (hB : Below w.heap.size w w') : RaF w code id l (.returned (.tuple #[.bool false, .string ⟨#[]⟩, .int .i64 er])) w' := by
  refine ⟨?_, hB⟩
  unfold raO raS
  rw [he, if_neg h0, decide_eq_false h0]
  rfl
theorem raF_yes {w w' : World} {code id : Int} {l : List UInt8} {s : ByteArray} {b : Bool} (he : raE code id l = 0) (hs : sd l = s) (hb : b = decide (code = 2)) (hB : Below w.heap.size w w') : RaF w code id l (.returned (.tuple #[.bool b, .string s, .int .i64 0])) w' := by
  refine ⟨?_, hB⟩
  unfold raO raS
  rw [he, if_pos rfl, hs, hb]
  rfl
theorem hasI_two (z a b : Int) : hasI [a, b] z = (decide (z = a) || decide (z = b)) := by
  unfold hasI
  by_cases h : z = a <;> by_cases h2 : z = b <;> simp [h, h2]
theorem raE_bad {code id : Int} {l : List UInt8} (h : idB id = false) : raE code id l = 1 := by
  unfold raE mustE
  rw [h]
  simp
theorem raE_code {code id : Int} {l : List UInt8} (h : idB id = true) (h2 : code ≠ 2) (h3 : code ≠ 3) : raE code id l = 90 := by
  unfold raE mustE
  rw [h, hasI_two, decide_eq_false h2, decide_eq_false h3]
  simp
theorem raE_good {code id : Int} {l : List UInt8} (h : idB id = true) (hc : code = 2 ∨ code = 3) : raE code id l = sdE l := by
  unfold raE mustE
  rw [h, hasI_two]
  rcases hc with h | h <;> simp [h]
theorem sdE_none {l : List UInt8} (h0 : l ≠ []) (h : tk l = none) : sdE l = 8 := by
  have hp : parE 1 l = 8 := by unfold parE; rw [prs_none h]; rfl
  unfold sdE
  rw [if_neg h0, hp]
  rfl
theorem sd_some {l r : List UInt8} {s : ByteArray} (h : tk l = some (s, r)) : sd l = s := by
  unfold sd
  rw [prs_some h]
  rfl
theorem par_some {l r : List UInt8} {s : ByteArray} (h : tk l = some (s, r)) : parE 1 l = if 0 < r.length then 3 else 0 := by
  unfold parE
  rw [prs_some h]
  rfl
theorem sdE_long {l r : List UInt8} {s : ByteArray} (h : tk l = some (s, r)) (hr : 0 < r.length) : sdE l = 3 := by
  have hp := par_some h
  rw [if_pos hr] at hp
  unfold sdE
  rw [if_neg (tk_len h).2.2, hp]
  rfl
theorem sdE_sh {l : List UInt8} {s : ByteArray} (h : tk l = some (s, [])) : sdE l = if shB s = false then 3 else 0 := by
  have hp := par_some h
  unfold sdE
  rw [if_neg (tk_len h).2.2, hp, sd_some h]
  simp
theorem rreadAnswer_any (code id : Int) (D : Option Addr) (k d B : Nat) (l : List UInt8) (w : World) (hr : Rd w B D k l) (hB : B ≤ w.heap.size) (hkd : k ≤ d) (hnil : D = none → d = 0) (hm : k ≤ maxLen) :
    Calls Try.prog 42 #[.agg #[.int .i64 code, .int .i64 id, .slice D k d]] w (RaF w code id l) := by
  have NU := Lib.hid (fun W => number_any id W)
  obtain ⟨V, hV⟩ : ∃ V, w.alloc (.cells #[.int .i64 code, .int .i64 id, .slice D k d] 38) = V := ⟨_, rfl⟩
  have bV : Below w.heap.size w V := by rw [← hV]; exact (Below.refl _ _).alloc (Nat.le_refl _) _
  have h0 : Blk V w.heap.size 38 [.int .i64 code, .int .i64 id, .slice D k d] := by rw [← hV]; exact heap_alloc_new w _
  have x0 := h0.cell 0
  have x1 := h0.cell 1
  have x2 := h0.cell 2
  have rV := hr.below (bV.mono hB)
  have hBV := Nat.le_trans hB bV.size
  have hl := hr.1
  have HV := Lib.hid hV
  cases hi : idB id
  · have F : Hid (RaF w code id l (.returned (.tuple #[.bool false, .string ⟨#[]⟩, .int .i64 1])) V) := raF_no (raE_bad hi) (by omega) bV
    rw [hi] at NU
    clear hr rV h0 bV hV hi
    go_enter Try.func42, Try.ntmps42
    go_wp2_with (first
      | (rw [HV.out])
      | (go_at_call 56; ((with_reducible refine (NU.out _).mono ?_); rintro e w' ⟨rfl, rfl⟩)))
    exact bodyPost_ret (v := .tuple #[.bool false, .string ⟨#[]⟩, .int .i64 1]) (by simp [results, Try.results42, go_sem]) rfl F.out
  · by_cases hc : code = 2 ∨ code = 3
    · have hE := raE_good (l := l) hi hc
      rw [hi] at NU
      by_cases hk0 : k = 0
      · have hl0 : l = [] := List.eq_nil_of_length_eq_zero (by omega)
        have F : Hid (∀ b, b = decide (code = 2) → RaF w code id l (.returned (.tuple #[.bool b, .string ⟨#[]⟩, .int .i64 0])) V) := fun b hb => raF_yes (by rw [hE, hl0]; rfl) (by rw [hl0]; rfl) hb bV
        subst hk0
        clear hr rV h0 bV hV hi hE
        rcases hc with rfl | rfl
        · go_enter Try.func42, Try.ntmps42
          go_wp2_with (first
            | (rw [HV.out])
            | (go_at_call 56; ((with_reducible refine (NU.out _).mono ?_); rintro e w' ⟨rfl, rfl⟩)))
          exact bodyPost_ret (v := .tuple #[.bool true, .string ⟨#[]⟩, .int .i64 0]) (by simp [results, Try.results42, go_sem]) rfl (F.out true rfl)
        · go_enter Try.func42, Try.ntmps42
          go_wp2_with (first
            | (rw [HV.out])
            | (go_at_call 56; ((with_reducible refine (NU.out _).mono ?_); rintro e w' ⟨rfl, rfl⟩)))
          exact bodyPost_ret (v := .tuple #[.bool false, .string ⟨#[]⟩, .int .i64 0]) (by simp [results, Try.results42, go_sem]) rfl (F.out false rfl)
      · have hne : l ≠ [] := fun e => hk0 (by rw [← hl, e]; rfl)
        have hk1 : ¬ ((k : Int) = 0) := by omega
        have hk2 : (0 : Int) < (k : Int) := by omega
        cases ht : tk l with
        | none =>
          have C : Hid (Calls Try.prog 57 #[.slice D k d] V fun e w1 => e = .returned (.tuple #[.string ⟨#[]⟩, .slice none 0 0, .bool false]) ∧ RaF w code id l (.returned (.tuple #[.bool false, .string ⟨#[]⟩, .int .i64 8])) w1) := by
            refine (take_none D k d B l V rV hBV hkd hnil hm ht).mono ?_
            rintro e w1 ⟨rfl, b1⟩
            exact ⟨rfl, raF_no (by rw [hE, sdE_none hne ht]) (by omega) (bV.trans (b1.mono bV.size))⟩
          clear hr rV h0 bV hV hi hE ht hne
          rcases hc with rfl | rfl
          all_goals
            go_enter Try.func42, Try.ntmps42
            go_wp2_with (first
              | (rw [HV.out])
              | (go_at_call 56; ((with_reducible refine (NU.out _).mono ?_); rintro e w' ⟨rfl, rfl⟩))
              | (go_at_call 57; ((with_reducible refine C.out.mono ?_); rintro e w1 ⟨rfl, hf⟩; have F := Lib.hid hf; clear hf)))
            exact bodyPost_ret (v := .tuple #[.bool false, .string ⟨#[]⟩, .int .i64 8]) (by simp [results, Try.results42, go_sem]) rfl F.out
        | some q =>
          obtain ⟨s, r⟩ := q
          have tl := tk_len ht
          by_cases hr2 : r.length = 0
          · obtain rfl : r = [] := List.eq_nil_of_length_eq_zero hr2
            have hz := sdE_sh ht
            have PL := Lib.hid (fun W => plain_any s W (by unfold maxLen; omega))
            cases hsh : shB s
            · rw [hsh, if_pos rfl] at hz
              rw [hsh] at PL
              have C : Hid (Calls Try.prog 57 #[.slice D k d] V fun e w1 => ∃ A2 c2, e = .returned (.tuple #[.string s, .slice A2 0 c2, .bool true]) ∧ RaF w code id l (.returned (.tuple #[.bool false, .string ⟨#[]⟩, .int .i64 3])) w1) := by
                refine (take_some D k d B l V rV hBV hkd hnil hm ht).mono ?_
                rintro e w1 ⟨A', n', c', rfl, b1, r1, hc1, hn1⟩
                obtain rfl : n' = 0 := r1.1.symm
                exact ⟨A', c', rfl, raF_no (by rw [hE, hz]) (by omega) (bV.trans (b1.mono bV.size))⟩
              clear hr rV h0 bV hV hi hE ht hne hz hsh tl
              rcases hc with rfl | rfl
              all_goals
                go_enter Try.func42, Try.ntmps42
                go_wp2_with (first
                  | (rw [HV.out])
                  | (go_at_call 56; ((with_reducible refine (NU.out _).mono ?_); rintro e w' ⟨rfl, rfl⟩))
                  | (go_at_call 58; ((with_reducible refine (PL.out _).mono ?_); rintro e w' ⟨rfl, rfl⟩))
                  | (go_at_call 57; ((with_reducible refine C.out.mono ?_); rintro e w1 ⟨A2, c2, rfl, hf⟩; have F := Lib.hid hf; clear hf)))
                exact bodyPost_ret (v := .tuple #[.bool false, .string ⟨#[]⟩, .int .i64 3]) (by simp [results, Try.results42, go_sem]) rfl F.out
            · rw [hsh, if_neg (by simp)] at hz
              rw [hsh] at PL
              have C : Hid (Calls Try.prog 57 #[.slice D k d] V fun e w1 => ∃ A2 c2, e = .returned (.tuple #[.string s, .slice A2 0 c2, .bool true]) ∧ Blk w1 w.heap.size 38 [.int .i64 code, .int .i64 id, .slice D k d] ∧ ∀ b, b = decide (code = 2) → RaF w code id l (.returned (.tuple #[.bool b, .string s, .int .i64 0])) w1) := by
                refine (take_some D k d B l V rV hBV hkd hnil hm ht).mono ?_
                rintro e w1 ⟨A', n', c', rfl, b1, r1, hc1, hn1⟩
                obtain rfl : n' = 0 := r1.1.symm
                exact ⟨A', c', rfl, (b1.block _ (Blk.lt h0)).trans h0, fun b hb => raF_yes (by rw [hE, hz]) (sd_some ht) hb (bV.trans (b1.mono bV.size))⟩
              clear hr rV h0 bV hV hi hE ht hne hz hsh tl
              rcases hc with rfl | rfl
              · go_enter Try.func42, Try.ntmps42
                go_wp2_with (first
                  | (rw [HV.out])
                  | (go_at_call 56; ((with_reducible refine (NU.out _).mono ?_); rintro e w' ⟨rfl, rfl⟩))
                  | (go_at_call 58; ((with_reducible refine (PL.out _).mono ?_); rintro e w' ⟨rfl, rfl⟩))
                  | (go_at_call 57; ((with_reducible refine C.out.mono ?_); rintro e w1 ⟨A2, c2, rfl, hb, hf⟩; have y0 := hb.cell 0; have F := Lib.hid hf; clear hf hb)))
                exact bodyPost_ret (v := .tuple #[.bool true, .string s, .int .i64 0]) (by simp [results, Try.results42, go_sem]) rfl (F.out true rfl)
              · go_enter Try.func42, Try.ntmps42
                go_wp2_with (first
                  | (rw [HV.out])
                  | (go_at_call 56; ((with_reducible refine (NU.out _).mono ?_); rintro e w' ⟨rfl, rfl⟩))
                  | (go_at_call 58; ((with_reducible refine (PL.out _).mono ?_); rintro e w' ⟨rfl, rfl⟩))
                  | (go_at_call 57; ((with_reducible refine C.out.mono ?_); rintro e w1 ⟨A2, c2, rfl, hb, hf⟩; have y0 := hb.cell 0; have F := Lib.hid hf; clear hf hb)))
                exact bodyPost_ret (v := .tuple #[.bool false, .string s, .int .i64 0]) (by simp [results, Try.results42, go_sem]) rfl (F.out false rfl)
          · have hz := sdE_long ht (by omega)
            have C : Hid (Calls Try.prog 57 #[.slice D k d] V fun e w1 => ∃ A2 n2 c2, e = .returned (.tuple #[.string s, .slice A2 n2 c2, .bool true]) ∧ (0 : Int) < (n2 : Int) ∧ RaF w code id l (.returned (.tuple #[.bool false, .string ⟨#[]⟩, .int .i64 3])) w1) := by
              refine (take_some D k d B l V rV hBV hkd hnil hm ht).mono ?_
              rintro e w1 ⟨A', n', c', rfl, b1, r1, hc1, hn1⟩
              exact ⟨A', n', c', rfl, by have := r1.1; omega, raF_no (by rw [hE, hz]) (by omega) (bV.trans (b1.mono bV.size))⟩
            clear hr rV h0 bV hV hi hE ht hne hz tl hr2
            rcases hc with rfl | rfl
            all_goals
              go_enter Try.func42, Try.ntmps42
              go_wp2_with (first
                | (rw [HV.out])
                | (go_at_call 56; ((with_reducible refine (NU.out _).mono ?_); rintro e w' ⟨rfl, rfl⟩))
                | (go_at_call 57; ((with_reducible refine C.out.mono ?_); rintro e w1 ⟨A2, n2, c2, rfl, hn2, hf⟩; have F := Lib.hid hf; clear hf)))
              exact bodyPost_ret (v := .tuple #[.bool false, .string ⟨#[]⟩, .int .i64 3]) (by simp [results, Try.results42, go_sem]) rfl F.out
    · have h2 : code ≠ 2 := fun e => hc (.inl e)
      have h3 : code ≠ 3 := fun e => hc (.inr e)
      have e1 : (code != 2) = true := by simpa using h2
      have e2 : (code != 3) = true := by simpa using h3
      have F : Hid (RaF w code id l (.returned (.tuple #[.bool false, .string ⟨#[]⟩, .int .i64 90])) V) := raF_no (raE_code hi h2 h3) (by omega) bV
      rw [hi] at NU
      clear hr rV h0 bV hV hi hc h2 h3
      go_enter Try.func42, Try.ntmps42
      go_wp2_with (first
        | (rw [HV.out])
        | (go_at_call 56; ((with_reducible refine (NU.out _).mono ?_); rintro e w' ⟨rfl, rfl⟩)))
      exact bodyPost_ret (v := .tuple #[.bool false, .string ⟨#[]⟩, .int .i64 90]) (by simp [results, Try.results42, go_sem]) rfl F.out
end Go.Proofs.Ytglboagjmbjehaa
