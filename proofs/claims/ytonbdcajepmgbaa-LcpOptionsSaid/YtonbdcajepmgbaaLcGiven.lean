/-
  lcp: what is written as options is read again (plain arithmetic).
  tetherlaw11.given, taken.
-/
import Derived.Test.YtonbdcajepmgbaaLcReadA
import Derived.Test.YtonbdcajepmgbaaNumPut
import Derived.Test.YtonbdcajepmgbaaLcOptions
import Derived.Laws.Rows
namespace Go.Proofs.Ytonbdcajepmgbaa
open Go.RowKit
set_option maxRecDepth 100000
set_option maxHeartbeats 1000000
set_option linter.unusedSimpArgs false
set_option linter.unusedVariables false

/-- what can be asked -/
def LOpts.can (o : LOpts) : Prop := (64 ≤ o.mru ∧ o.mru ≤ 16384) ∧ (0 ≤ o.accm ∧ o.accm ≤ 4294967295) ∧ (0 ≤ o.auth ∧ o.auth ≤ 3) ∧ (0 ≤ o.magic ∧ o.magic ≤ 4294967295)
theorem u64_small {x : Int} (h0 : 0 ≤ x) (h1 : x < 9223372036854775808) : u64 x = x := by
  unfold u64
  rw [IntKind.wrap_u64]
  omega
def foldR (st : Option (LOpts × List Int)) (s : List Opt) : Option (LOpts × List Int) := s.foldl stepR st
theorem foldR_app (st : Option (LOpts × List Int)) (s t : List Opt) : foldR st (s ++ t) = foldR (foldR st s) t := List.foldl_append
/-- some kinds, all of them below -/
def KB (ks : List Int) (n : Int) : Prop := ∀ k ∈ ks, k < n
theorem KB.no {ks : List Int} {n K : Int} (h : KB ks n) (hK : n ≤ K) : ks.contains K = false := by
  rw [Bool.eq_false_iff]
  intro hc
  rw [List.contains_iff_exists_mem_beq] at hc
  obtain ⟨a, ha, e⟩ := hc
  have := h a ha
  simp at e
  omega
theorem KB.up {ks : List Int} {n m : Int} (h : KB ks n) (hm : n ≤ m) : KB ks m := fun k hk => by have := h k hk; omega
theorem KB.more {ks : List Int} {n K : Int} (h : KB ks n) (hm : n ≤ K) : KB (ks ++ [K]) (K + 1) := fun k hk => by
  rcases List.mem_append.1 hk with h1 | h1
  · have := h k h1; omega
  · simp at h1; omega
theorem fold_one {o o' : LOpts} {ks : List Int} {n K : Int} {l : List UInt8} (h : KB ks n) (hK : n ≤ K) (hw : withO o (K, l) = some o') : foldR (some (o, ks)) [(K, l)] = some (o', ks ++ [K]) := by
  show stepR (some (o, ks)) (K, l) = _
  unfold stepR
  simp only [h.no hK, hw, Bool.false_eq_true, if_false]
theorem fold_maybe {o o' : LOpts} {ks : List Int} {n K : Int} {l : List UInt8} {b : Bool} (h : KB ks n) (hK : n ≤ K) (hw : b = true → withO o (K, l) = some o') (hn : b = false → o' = o) : ∃ ks', foldR (some (o, ks)) (if b = true then [(K, l)] else []) = some (o', ks') ∧ KB ks' (K + 1) := by
  cases b
  · rw [hn rfl]
    exact ⟨ks, rfl, h.up (by omega)⟩
  · exact ⟨_, fold_one h hK (hw rfl), h.more hK⟩
theorem readL_opts (o : LOpts) (h : o.can) : ∃ ks, readL (optsOf o) = some (o, ks) := by
  obtain ⟨⟨a1, a2⟩, ⟨b1, b2⟩, ⟨c1, c2⟩, ⟨d1, d2⟩⟩ := h
  obtain ⟨mru, accm, auth, magic, pfc, acfc⟩ := o
  dsimp only at *
  have n2 : ∀ x : Int, 0 ≤ x → x ≤ 65535 → num (putB (u64 x).toNat 2) 2 = x := fun x h0 h1 => by
    rw [u64_small h0 (by omega), num_putB 2 x.toNat (by omega)]
    omega
  have n4 : ∀ x : Int, 0 ≤ x → x ≤ 4294967295 → num (putB (u64 x).toNat 4) 4 = x := fun x h0 h1 => by
    rw [u64_small h0 (by omega), num_putB 4 x.toNat (by omega)]
    omega
  show ∃ ks, foldR (some (dflt, [])) (optsOf _) = _
  unfold optsOf
  simp only [foldR_app]
  obtain ⟨k1, e1, h1⟩ := fold_maybe (o := dflt) (o' := { dflt with mru := mru }) (ks := []) (n := 1) (K := 1) (l := putB (u64 mru).toNat 2) (b := mru != 1500) (fun k hk => by simp at hk) (by omega)
    (fun _ => by simp [withO, putB_length, n2 mru (by omega) (by omega), a1, a2]) (fun hb => by simp at hb; subst hb; rfl)
  rw [show foldR (some (dflt, [])) (opt1 ⟨mru, accm, auth, magic, pfc, acfc⟩) = _ from e1]
  obtain ⟨k2, e2, h2⟩ := fold_maybe (o := { dflt with mru := mru }) (o' := { dflt with mru := mru, accm := accm }) (l := putB (u64 accm).toNat 4) (b := accm != 4294967295) (K := 2) h1 (by omega)
    (fun _ => by simp [withO, putB_length, n4 accm (by omega) (by omega)]) (fun hb => by simp at hb; subst hb; rfl)
  rw [show foldR (some ({ dflt with mru := mru }, k1)) (opt2 ⟨mru, accm, auth, magic, pfc, acfc⟩) = _ from e2]
  obtain ⟨k3, e3, h3⟩ := fold_maybe (o := { dflt with mru := mru, accm := accm }) (o' := { dflt with mru := mru, accm := accm, auth := auth }) (l := authB auth) (b := !(authB auth).isEmpty) (K := 3) h2 (by omega)
    (fun hb => by
      have : mth (authB auth) = auth ∧ auth ≠ 0 := by
        have : auth = 0 ∨ auth = 1 ∨ auth = 2 ∨ auth = 3 := by omega
        rcases this with rfl | rfl | rfl | rfl
        · exact absurd hb (by decide)
        · decide
        · decide
        · decide
      simp [withO, this.1, this.2]) (fun hb => by
      have : auth = 0 := by
        have : auth = 0 ∨ auth = 1 ∨ auth = 2 ∨ auth = 3 := by omega
        rcases this with rfl | rfl | rfl | rfl
        · rfl
        all_goals exact absurd hb (by decide)
      subst this; rfl)
  rw [show foldR (some ({ dflt with mru := mru, accm := accm }, k2)) (opt3 ⟨mru, accm, auth, magic, pfc, acfc⟩) = _ from e3]
  obtain ⟨k4, e4, h4⟩ := fold_maybe (o := { dflt with mru := mru, accm := accm, auth := auth }) (o' := { dflt with mru := mru, accm := accm, auth := auth, magic := magic }) (l := putB (u64 magic).toNat 4) (b := magic != 0) (K := 5) h3 (by omega)
    (fun hb => by simp at hb; simp [withO, putB_length, n4 magic (by omega) (by omega), hb]) (fun hb => by simp at hb; subst hb; rfl)
  rw [show foldR (some ({ dflt with mru := mru, accm := accm, auth := auth }, k3)) (opt4 ⟨mru, accm, auth, magic, pfc, acfc⟩) = _ from e4]
  obtain ⟨k5, e5, h5⟩ := fold_maybe (o := { dflt with mru := mru, accm := accm, auth := auth, magic := magic }) (o' := { dflt with mru := mru, accm := accm, auth := auth, magic := magic, pfc := pfc }) (l := []) (b := pfc) (K := 7) h4 (by omega)
    (fun hb => by subst hb; simp [withO]) (fun hb => by subst hb; rfl)
  rw [show foldR (some ({ dflt with mru := mru, accm := accm, auth := auth, magic := magic }, k4)) (opt5 ⟨mru, accm, auth, magic, pfc, acfc⟩) = _ from e5]
  obtain ⟨k6, e6, h6⟩ := fold_maybe (o := { dflt with mru := mru, accm := accm, auth := auth, magic := magic, pfc := pfc }) (o' := ⟨mru, accm, auth, magic, pfc, acfc⟩) (l := []) (b := acfc) (K := 8) h5 (by omega)
    (fun hb => by subst hb; simp [withO]) (fun hb => by subst hb; rfl)
  exact ⟨k6, e6⟩
theorem readO_opts (o : LOpts) (h : o.can) : readO (optsOf o) = o ∧ readE (optsOf o) = 0 := by
  obtain ⟨ks, e⟩ := readL_opts o h
  unfold readO readE
  rw [e]
  exact ⟨rfl, rfl⟩
theorem optsOf_len (o : LOpts) : (optsOf o).length ≤ 6 := by
  unfold optsOf opt1 opt2 opt3 opt4 opt5 opt6
  simp only [List.length_append]
  have : ∀ (b : Bool) (x : Opt), (if b = true then [x] else []).length ≤ 1 := fun b x => by cases b <;> simp
  have h1 := this (o.mru != 1500) (1, putB (u64 o.mru).toNat 2)
  have h2 := this (o.accm != 4294967295) (2, putB (u64 o.accm).toNat 4)
  have h3 := this (!(authB o.auth).isEmpty) (3, authB o.auth)
  have h4 := this (o.magic != 0) (5, putB (u64 o.magic).toNat 4)
  have h5 := this o.pfc (7, [])
  have h6 := this o.acfc (8, [])
  omega
theorem optsOf_each (o : LOpts) : ∀ a ∈ optsOf o, (1 ≤ a.1 ∧ a.1 ≤ 8) ∧ a.2.length ≤ 4 := by
  intro a ha
  have hl := authB_len o.auth
  have one : ∀ (b : Bool) (x : Opt), a ∈ (if b = true then [x] else []) → a = x := fun b x h => by
    cases b
    · simp at h
    · simpa using h
  unfold optsOf at ha
  simp only [List.mem_append] at ha
  rcases ha with ((((h | h) | h) | h) | h) | h
  · rw [one _ _ h]; simp [putB_length]
  · rw [one _ _ h]; simp [putB_length]
  · rw [one _ _ h]; exact ⟨by simp, by show (authB o.auth).length ≤ 4; omega⟩
  · rw [one _ _ h]; simp [putB_length]
  · rw [one _ _ h]; simp
  · rw [one _ _ h]; simp
theorem optsOf_ok (o : LOpts) : okK (optsOf o) := fun a ha => by
  have := (optsOf_each o a ha).1
  omega
end Go.Proofs.Ytonbdcajepmgbaa
namespace Go.Proofs.Ytonbdcajepmgbaa
open Go.RowKit
set_option maxRecDepth 100000
set_option maxHeartbeats 1000000
set_option linter.unusedSimpArgs false
set_option linter.unusedVariables false

theorem given_any (o : LOpts) (w : World) : Calls Try.prog 40 #[o.val] w fun e w' => e = .returned o.val ∧ Below w.heap.size w w' := by
  unfold LOpts.val
  go_enter Try.func40, Try.ntmps40
  go_wp2
  exact bodyPost_ret (v := .agg #[.int .i64 o.mru, .int .i64 o.accm, .int .i64 o.auth, .int .u32 o.magic, .bool o.pfc, .bool o.acfc]) (by simp [results, Try.results40, go_sem]) rfl ⟨rfl, ((Below.refl _ _).alloc (Nat.le_refl _) _).alloc (by simp) _⟩
theorem taken_any (o : LOpts) (w : World) : Calls Try.prog 47 #[o.val] w fun e w' => e = .returned o.val ∧ Below w.heap.size w w' := by
  unfold LOpts.val
  go_enter Try.func47, Try.ntmps47
  go_wp2
  exact bodyPost_ret (v := .agg #[.int .i64 o.mru, .int .i64 o.accm, .int .i64 o.auth, .int .u32 o.magic, .bool o.pfc, .bool o.acfc]) (by simp [results, Try.results47, go_sem]) rfl ⟨rfl, ((Below.refl _ _).alloc (Nat.le_refl _) _).alloc (by simp) _⟩
end Go.Proofs.Ytonbdcajepmgbaa
