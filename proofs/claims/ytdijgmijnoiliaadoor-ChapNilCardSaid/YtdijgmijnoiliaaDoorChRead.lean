/-
  chap: (valued).read, (valued).id, kindOf.
-/
import Derived.Test.YtdijgmijnoiliaaDoorChMake
import Derived.Test.YtdijgmijnoiliaaDoorRest
import Derived.Test.YtdijgmijnoiliaaDoorNewReader
import Derived.Outline
namespace Go.Proofs.YtdijgmijnoiliaaDoor
open Go.RowKit Go.Shelf
set_option maxRecDepth 100000
set_option maxHeartbeats 1000000
set_option linter.unusedSimpArgs false
set_option linter.unusedVariables false

/-- how long a value is said to be -/
def rvN (l : List UInt8) : Nat := (l.headD 0).toNat
def rvE (id : Int) (l : List UInt8) : Int := if idB id = false then 90 else if l.length < 1 ∨ l.length - 1 < rvN l then 8 else if rvN l = 0 then 4 else if nameB (strOf (l.drop (1 + rvN l))) = false then 60 else 0
def rvV (l : List UInt8) : List UInt8 := (l.drop 1).take (rvN l)
def rvS (l : List UInt8) : ByteArray := strOf (l.drop (1 + rvN l))
theorem strOf_size (l : List UInt8) : (strOf l).size = l.length := by
  simp [strOf, strOfNums, ByteArray.size]
theorem rvN_lt (l : List UInt8) : rvN l < 256 := (l.headD 0).toNat_lt
/-- what went wrong with the bytes -/
def octE (l : List UInt8) : Int := if l.length < 1 ∨ l.length - 1 < rvN l then 8 else 0
def octZ (l : List UInt8) : Int := if l.length < 1 then 0 else rvN l
theorem oct_facts (l : List UInt8) : nmVal l 0 1 = octZ l ∧ tkErr (nmRest l 0 1) (nmErr l 0 1) (octZ l) = octE l ∧ (octE l = 0 → tkOut (nmRest l 0 1) (nmErr l 0 1) (octZ l) = rvV l ∧ tkRest (nmRest l 0 1) (nmErr l 0 1) (octZ l) = l.drop (1 + rvN l) ∧ 1 ≤ l.length) := by
  cases l with
  | nil => refine ⟨by decide, by decide, fun h => absurd h (by decide)⟩
  | cons c r =>
    have hN : rvN (c :: r) = c.toNat := rfl
    have e1 : nmErr (c :: r) 0 1 = 0 := by
      unfold nmErr
      rw [if_neg (by simp), if_neg (by omega), if_neg (by simp; omega)]
    have e2 : nmRest (c :: r) 0 1 = r := by unfold nmRest; rw [if_pos e1]; rfl
    have e3 : nmVal (c :: r) 0 1 = c.toNat := by
      unfold nmVal
      rw [if_pos e1]
      show num (c :: r) 1 = _
      simp [num, byteAt]
    have e4 : octZ (c :: r) = c.toNat := by unfold octZ; rw [if_neg (by simp)]; rfl
    rw [e1, e2, e3, e4]
    refine ⟨rfl, ?_, fun h => ?_⟩
    · unfold tkErr octE
      rw [hN, if_neg (by simp), if_neg (by omega)]
      simp only [List.length_cons]
      by_cases h : r.length < c.toNat
      · rw [if_pos (by omega), if_pos (by omega)]
      · rw [if_neg (by omega), if_neg (by omega)]
    · have h2 : tkErr r 0 c.toNat = 0 := by
        unfold octE at h
        unfold tkErr
        rw [hN] at h
        simp only [List.length_cons] at h
        by_cases h3 : r.length < c.toNat
        · rw [if_pos (by omega)] at h; cases h
        · rw [if_neg (by simp), if_neg (by omega), if_neg (by omega)]
      unfold tkOut tkRest rvV
      rw [if_pos h2, if_pos h2, hN]
      refine ⟨by simp, ?_, by simp⟩
      rw [Nat.add_comm, List.drop_succ_cons]
      simp
def Good (e : Int) : Prop := e = 0
def RdC (w V : World) (bs : List Value) (A : Option Addr) (n c : Nat) (l : List UInt8) : Prop :=
  Calls Tryd.prog 72 #[.slice A n c] V fun e w2 => ∃ g, e = .returned (.pointer (some ⟨g, 0, none⟩)) ∧
    Calls Tryd.prog 73 #[.pointer (some ⟨g, 0, none⟩), .int .i64 1] w2 fun e w3 => e = .returned (.int .u64 (octZ l)) ∧
      Calls Tryd.prog 74 #[.pointer (some ⟨g, 0, none⟩), .int .i64 (octZ l)] w3 fun e w4 => ∃ D k d, e = .returned (.slice D k d) ∧ Blk w4 w.heap.size 81 bs ∧ Below w.heap.size w w4 ∧
        Calls Tryd.prog 75 #[.pointer (some ⟨g, 0, none⟩)] w4 (fun e w' => e = .returned (.int .i64 (octE l)) ∧ w4 = w') ∧
        (Good (octE l) → Calls Tryd.prog 76 #[.pointer (some ⟨g, 0, none⟩)] w4 fun e w5 => ∃ D' k' d', e = .returned (.slice D' k' d') ∧ (convert 22 9 (.slice D' k' d')).run Tryd.prog w5 = .ok (.string (rvS l)) w5 ∧ Below w.heap.size w w5 ∧ Own w5 w.heap.size (.slice D k d) (rvV l))
theorem rdc_any {w V : World} {bs : List Value} {A : Option Addr} {n c B : Nat} {l : List UInt8} (hr : Rd V B A n l) (hB : B ≤ V.heap.size) (hn : n ≤ 140737488420864) (hb : Blk V w.heap.size 81 bs) (bV : Below w.heap.size w V) : RdC w V bs A n c l := by
  obtain ⟨f1, f2, f3⟩ := oct_facts l
  have hlt := Blk.lt hb
  refine (newreader_any A n c B l V hr hB hn).mono ?_
  rintro e w2 ⟨g, rfl, hg, hgl, b2, hO⟩
  have O2 := hO w2 none (World.grownBy.refl _ _) (fun q e => by cases e)
  have x2 := past_same hb b2
  have B2 := step_to bV b2
  refine ⟨g, rfl, (onum_any _ g 1 l 0 w2 O2).mono ?_⟩
  rintro e w3 ⟨rfl, O3, g3⟩
  have x3 := blk_off x2 g3 (by omega)
  have B3 := below_row B2 g3 (by omega)
  rw [f1]
  refine ⟨rfl, (take_any _ g (octZ l) _ _ w3 O3).mono ?_⟩
  rintro e w4 ⟨v, rfl, o4, O4, g4⟩
  rw [f2] at O4
  have x4 := blk_off x3 g4 (by omega)
  have B4 := below_row B3 g4 (by omega)
  obtain ⟨D, d, hv⟩ : ∃ D d, v = .slice D (tkOut (nmRest l 0 1) (nmErr l 0 1) (octZ l)).length d := by
    rcases o4.form with ⟨e, h⟩ | ⟨g', cap, e, _⟩
    · exact ⟨none, 0, by rw [e, h]; rfl⟩
    · exact ⟨_, _, e⟩
  subst hv
  refine ⟨D, _, d, rfl, x4, B4, err_any _ g _ _ w4 O4, fun h0 => ?_⟩
  have h0 : octE l = 0 := h0
  obtain ⟨f4, f5, f6⟩ := f3 h0
  rw [f5, h0] at O4
  refine (rest_any _ g _ 0 w4 O4).mono ?_
  rintro e w5 ⟨v, rfl, o5, O5, g5⟩
  have e5 : tkOut (l.drop (1 + rvN l)) 0 (l.drop (1 + rvN l)).length = l.drop (1 + rvN l) := by
    have : tkErr (l.drop (1 + rvN l)) 0 (l.drop (1 + rvN l)).length = 0 := by
      unfold tkErr
      rw [if_neg (by simp), if_neg (by omega), if_neg (by omega)]
    unfold tkOut
    rw [if_pos this, Int.toNat_natCast, List.take_length]
  rw [e5] at o5
  obtain ⟨D', d', hv, hrd⟩ : ∃ D' d', v = .slice D' (l.drop (1 + rvN l)).length d' ∧ Rd w5 w5.heap.size D' (l.drop (1 + rvN l)).length (l.drop (1 + rvN l)) := by
    rcases o5.form with ⟨e, h⟩ | ⟨g', cap, e, _⟩
    · exact ⟨none, 0, by rw [e, h]; rfl, by rw [h]; exact Rd.nil⟩
    · subst e
      have := o5.rd rfl _ (Nat.le_refl _)
      rw [List.take_length] at this
      exact ⟨_, _, rfl, this⟩
  subst hv
  refine ⟨D', _, d', rfl, conv_run hrd d', below_row B4 g5 (by omega), ?_⟩
  rw [f4] at o4 ⊢
  have hne : (Value.slice D (rvV l).length d).ownBlock = none ∨ (Value.slice D (rvV l).length d).ownBlock ≠ some g := .inr fun e => by
    have := (o4.block g e).1
    have := g3.size
    omega
  have h6 := o4.grown g5 hne
  refine ⟨h6.1, ?_⟩
  rcases h6.2 with h | ⟨g', cap', cur, e1, e2, e3⟩
  · exact .inl h
  · exact .inr ⟨g', cap', cur, e1, by have := B3.size; omega, e3⟩
/-- what read answers -/
def RvR (w : World) (id : Int) (l : List UInt8) (e : Ending) (w' : World) : Prop :=
  Below w.heap.size w w' ∧ ((rvE id l ≠ 0 ∧ e = .returned (.tuple #[.slice none 0 0, .string ⟨#[]⟩, .int .i64 (rvE id l)])) ∨ (rvE id l = 0 ∧ ∃ D k d, e = .returned (.tuple #[.slice D k d, .string (rvS l), .int .i64 0]) ∧ Own w' w.heap.size (.slice D k d) (rvV l)))
theorem read_any (code id : Int) (A : Option Addr) (n c B : Nat) (l : List UInt8) (w : World) (hr : Rd w B A n l) (hB : B ≤ w.heap.size) (hn : n ≤ 140737488355328) :
    Calls Tryd.prog 59 #[.agg #[.int .i64 code, .int .i64 id, .slice A n c]] w (RvR w id l) := by
  obtain ⟨V, hV⟩ : ∃ V, w.alloc (.cells #[.int .i64 code, .int .i64 id, .slice A n c] 81) = V := ⟨_, rfl⟩
  have bV : Below w.heap.size w V := by rw [← hV]; exact (Below.refl _ _).alloc (Nat.le_refl _) _
  have h0 : Blk V w.heap.size 81 [.int .i64 code, .int .i64 id, .slice A n c] := by rw [← hV]; exact heap_alloc_new w _
  have RC := rdc_any (c := c) (hr.below (bV.mono hB)) (Nat.le_trans hB bV.size) (by omega) h0 bV
  have v2 := h0.cell 2
  have HV := Lib.hid hV
  have IDR := Lib.hid (fun W => idRight_any id W)
  have hsz : (rvS l).size ≤ maxLen := by
    unfold rvS
    rw [strOf_size, List.length_drop]
    have := hr.1
    unfold maxLen
    omega
  have NM := Lib.hid (fun W => name_any (rvS l) W hsz)
  have zb : 0 ≤ octZ l ∧ octZ l < 256 := by
    have := rvN_lt l
    unfold octZ
    split <;> omega
  obtain ⟨z, hz⟩ : ∃ z, octZ l = z := ⟨_, rfl⟩
  obtain ⟨oe, hoe⟩ : ∃ oe, octE l = oe := ⟨_, rfl⟩
  obtain ⟨s, hs⟩ : ∃ s, rvS l = s := ⟨_, rfl⟩
  have RC2 := Lib.hid RC
  unfold RdC at RC2
  rw [hz, hoe, hs] at RC2
  rw [hz] at zb
  rw [hs] at NM
  obtain ⟨zb1, zb2⟩ := zb
  have key : rvE id l = if idB id = false then 90 else if oe ≠ 0 then 8 else if z = 0 then 4 else if nameB s = false then 60 else 0 := by
    unfold rvE
    rw [← hoe, ← hz, ← hs]
    unfold octE octZ
    by_cases h1 : l.length < 1 ∨ l.length - 1 < rvN l
    · rw [if_pos h1, if_pos h1]; simp
    · rw [if_neg h1, if_neg h1, if_neg (show ¬ l.length < 1 by omega)]
      simp only [ne_eq, not_true_eq_false, if_false]
      by_cases h2 : rvN l = 0
      · rw [if_pos h2, if_pos (show (rvN l : Int) = 0 by omega)]
      · rw [if_neg h2, if_neg (show ¬ (rvN l : Int) = 0 by omega)]
        rfl
  have hoe8 : oe = 8 ∨ oe = 0 := by
    rw [← hoe]
    unfold octE
    split
    · exact .inl rfl
    · exact .inr rfl
  have FB : Hid (∀ W er, Below w.heap.size w W → rvE id l = er → er ≠ 0 → RvR w id l (.returned (.tuple #[.slice none 0 0, .string ⟨#[]⟩, .int .i64 er])) W) := fun W er hb he h => ⟨hb, .inl ⟨by rw [he]; exact h, by rw [he]⟩⟩
  have FG : Hid (∀ W D k d, Below w.heap.size w W → rvE id l = 0 → Own W w.heap.size (.slice D k d) (rvV l) → RvR w id l (.returned (.tuple #[.slice D k d, .string s, .int .i64 0])) W) := fun W D k d hb he h => ⟨hb, .inr ⟨he, D, k, d, by rw [hs], h⟩⟩
  have KEY := Lib.hid key
  clear key hz hoe hs RC hV bV h0 hr hsz hB hn
  cases hi : idB id
  · have e : Hid (rvE id l = 90) := by show _ = _; rw [KEY.out, if_pos hi]
    rw [hi] at IDR
    clear hi hoe8 KEY FG NM
    go_enter Tryd.func59, Tryd.ntmps59
    go_wp2_with (first
      | (rw [HV.out])
      | (go_at_call 72; ((with_reducible refine RC2.out.mono ?_); rintro e w2 ⟨g, rfl, n1⟩; have N2 := Lib.hid n1; clear n1 RC2))
      | (go_at_call 73; ((with_reducible refine N2.out.mono ?_); rintro e w3 ⟨rfl, n1⟩; have N3 := Lib.hid n1; clear n1 N2))
      | (go_at_call 74; ((with_reducible refine N3.out.mono ?_); rintro e w4 ⟨D, k, d, rfl, x4, b4, n1, -⟩; have u1 := x4.cell 1; have B4 := Lib.hid b4; have N4 := Lib.hid n1; clear n1 N3 b4 x4))
      | (go_at_call 31; ((with_reducible refine (IDR.out _).mono ?_); rintro e w' ⟨rfl, rfl⟩)))
    exact bodyPost_ret (v := .tuple #[.slice none 0 0, .string ⟨#[]⟩, .int .i64 90]) (by simp [results, Tryd.results59, go_sem]) rfl (FB.out _ _ B4.out e.out (by decide))
  rw [hi] at IDR
  rcases hoe8 with rfl | rfl
  · have e : Hid (rvE id l = 8) := by show _ = _; rw [KEY.out, if_neg (by rw [hi]; simp), if_pos (by decide)]
    clear hi KEY FG NM
    go_enter Tryd.func59, Tryd.ntmps59
    go_wp2_with (first
      | (rw [HV.out])
      | (go_at_call 72; ((with_reducible refine RC2.out.mono ?_); rintro e w2 ⟨g, rfl, n1⟩; have N2 := Lib.hid n1; clear n1 RC2))
      | (go_at_call 73; ((with_reducible refine N2.out.mono ?_); rintro e w3 ⟨rfl, n1⟩; have N3 := Lib.hid n1; clear n1 N2))
      | (go_at_call 74; ((with_reducible refine N3.out.mono ?_); rintro e w4 ⟨D, k, d, rfl, x4, b4, n1, -⟩; have u1 := x4.cell 1; have B4 := Lib.hid b4; have N4 := Lib.hid n1; clear n1 N3 b4 x4))
      | (go_at_call 31; ((with_reducible refine (IDR.out _).mono ?_); rintro e w' ⟨rfl, rfl⟩))
      | (go_at_call 75; ((with_reducible refine N4.out.mono ?_); rintro e w' ⟨rfl, rfl⟩)))
    exact bodyPost_ret (v := .tuple #[.slice none 0 0, .string ⟨#[]⟩, .int .i64 8]) (by simp [results, Tryd.results59, go_sem]) rfl (FB.out _ _ B4.out e.out (by decide))
  by_cases hz0 : z = 0
  · have e : Hid (rvE id l = 4) := by show _ = _; rw [KEY.out, if_neg (by rw [hi]; simp), if_neg (by simp), if_pos hz0]
    subst hz0
    clear hi KEY FG NM
    go_enter Tryd.func59, Tryd.ntmps59
    go_wp2_with (first
      | (rw [HV.out])
      | (go_at_call 72; ((with_reducible refine RC2.out.mono ?_); rintro e w2 ⟨g, rfl, n1⟩; have N2 := Lib.hid n1; clear n1 RC2))
      | (go_at_call 73; ((with_reducible refine N2.out.mono ?_); rintro e w3 ⟨rfl, n1⟩; have N3 := Lib.hid n1; clear n1 N2))
      | (go_at_call 74; ((with_reducible refine N3.out.mono ?_); rintro e w4 ⟨D, k, d, rfl, x4, b4, n1, -⟩; have u1 := x4.cell 1; have B4 := Lib.hid b4; have N4 := Lib.hid n1; clear n1 N3 b4 x4))
      | (go_at_call 31; ((with_reducible refine (IDR.out _).mono ?_); rintro e w' ⟨rfl, rfl⟩))
      | (go_at_call 75; ((with_reducible refine N4.out.mono ?_); rintro e w' ⟨rfl, rfl⟩)))
    exact bodyPost_ret (v := .tuple #[.slice none 0 0, .string ⟨#[]⟩, .int .i64 4]) (by simp [results, Tryd.results59, go_sem]) rfl (FB.out _ _ B4.out e.out (by decide))
  have hz1 : (z == 0) = false := by simpa using hz0
  cases hb : nameB s
  · have e : Hid (rvE id l = 60) := by show _ = _; rw [KEY.out, if_neg (by rw [hi]; simp), if_neg (by simp), if_neg hz0, if_pos hb]
    rw [hb] at NM
    clear hi KEY FG hb hz0
    go_enter Tryd.func59, Tryd.ntmps59
    go_wp2_with (first
      | (rw [HV.out])
      | (go_at_call 72; ((with_reducible refine RC2.out.mono ?_); rintro e w2 ⟨g, rfl, n1⟩; have N2 := Lib.hid n1; clear n1 RC2))
      | (go_at_call 73; ((with_reducible refine N2.out.mono ?_); rintro e w3 ⟨rfl, n1⟩; have N3 := Lib.hid n1; clear n1 N2))
      | (go_at_call 74; ((with_reducible refine N3.out.mono ?_); rintro e w4 ⟨D, k, d, rfl, x4, b4, n1, n2⟩; have u1 := x4.cell 1; have N4 := Lib.hid n1; have N5 := Lib.hid (n2 (show Good 0 from rfl)); clear n1 N3 b4 x4 n2))
      | (go_at_call 31; ((with_reducible refine (IDR.out _).mono ?_); rintro e w' ⟨rfl, rfl⟩))
      | (go_at_call 75; ((with_reducible refine N4.out.mono ?_); rintro e w' ⟨rfl, rfl⟩))
      | (go_at_call 76; ((with_reducible refine N5.out.mono ?_); rintro e w5 ⟨D', k', d', rfl, cv, b5, o5⟩; have B5 := Lib.hid b5; clear b5 o5))
      | (rw [cv])
      | (go_at_call 32; ((with_reducible refine (NM.out _).mono ?_); rintro e w' ⟨rfl, rfl⟩)))
    exact bodyPost_ret (v := .tuple #[.slice none 0 0, .string ⟨#[]⟩, .int .i64 60]) (by simp [results, Tryd.results59, go_sem]) rfl (FB.out _ _ B5.out e.out (by decide))
  · have e : Hid (rvE id l = 0) := by show _ = _; rw [KEY.out, if_neg (by rw [hi]; simp), if_neg (by simp), if_neg hz0, if_neg (by rw [hb]; simp)]
    rw [hb] at NM
    clear hi KEY FB hb hz0
    go_enter Tryd.func59, Tryd.ntmps59
    go_wp2_with (first
      | (rw [HV.out])
      | (go_at_call 72; ((with_reducible refine RC2.out.mono ?_); rintro e w2 ⟨g, rfl, n1⟩; have N2 := Lib.hid n1; clear n1 RC2))
      | (go_at_call 73; ((with_reducible refine N2.out.mono ?_); rintro e w3 ⟨rfl, n1⟩; have N3 := Lib.hid n1; clear n1 N2))
      | (go_at_call 74; ((with_reducible refine N3.out.mono ?_); rintro e w4 ⟨D, k, d, rfl, x4, b4, n1, n2⟩; have u1 := x4.cell 1; have N4 := Lib.hid n1; have N5 := Lib.hid (n2 (show Good 0 from rfl)); clear n1 N3 b4 x4 n2))
      | (go_at_call 31; ((with_reducible refine (IDR.out _).mono ?_); rintro e w' ⟨rfl, rfl⟩))
      | (go_at_call 75; ((with_reducible refine N4.out.mono ?_); rintro e w' ⟨rfl, rfl⟩))
      | (go_at_call 76; ((with_reducible refine N5.out.mono ?_); rintro e w5 ⟨D', k', d', rfl, cv, b5, o5⟩; have B5 := Lib.hid b5; have O5 := Lib.hid o5; clear b5 o5))
      | (rw [cv])
      | (go_at_call 32; ((with_reducible refine (NM.out _).mono ?_); rintro e w' ⟨rfl, rfl⟩)))
    exact bodyPost_ret (v := .tuple #[.slice D k d, .string s, .int .i64 0]) (by simp [results, Tryd.results59, go_sem]) rfl (FG.out _ _ _ _ B5.out e.out O5.out)
theorem vid_any (code id : Int) (s : Value) (w : World) : Calls Tryd.prog 62 #[.agg #[.int .i64 code, .int .i64 id, s]] w fun e w' => e = .returned (.int .i64 id) ∧ w' = w.alloc (.cells #[.int .i64 code, .int .i64 id, s] 81) := by
  go_enter Tryd.func62, Tryd.ntmps62
  go_wp2
  go_ret
  exact ⟨rfl, rfl⟩
end Go.Proofs.YtdijgmijnoiliaaDoor
