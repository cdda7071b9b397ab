/-
  secret.check, secret.firsts.
-/
import Derived.Test.YtjimoegegigoiaaDoorSeRight
import Derived.Test.YtjimoegegigoiaaDoorSeMap
namespace Go.Proofs.YtjimoegegigoiaaDoor
open Go.RowKit Go.Shelf
set_option maxRecDepth 100000
set_option maxHeartbeats 4000000
set_option linter.unusedSimpArgs false
set_option linter.unusedVariables false

def chkFrom : Nat → List Sec → Int × Int
  | _, [] => (0, 0)
  | k, x :: t => if rightE x = 0 then chkFrom (k + 1) t else (rightE x, k)
/-- what is at fault of a list -/
def chk (ss : List Sec) : Int × Int := if 64 < ss.length then (7, 0) else chkFrom 0 ss
theorem chk_app : ∀ (p q : List Sec) (k : Nat), (∀ x ∈ p, rightE x = 0) → chkFrom k (p ++ q) = chkFrom (k + p.length) q
  | [], q, k, _ => by simp
  | x :: p, q, k, h => by
    rw [List.cons_append, chkFrom, if_pos (h x List.mem_cons_self), chk_app p q (k + 1) (fun y hy => h y (List.mem_cons_of_mem _ hy)), List.length_cons]
    congr 1
    omega
theorem chk_bad {ss : List Sec} {j : Nat} {x : Sec} (h : ∀ y ∈ ss.take j, rightE y = 0) (hx : ss[j]? = some x) (hb : rightE x ≠ 0) : chkFrom 0 ss = (rightE x, (j : Int)) := by
  obtain ⟨hj, e⟩ := List.getElem?_eq_some_iff.1 hx
  have h1 : ss = ss.take j ++ x :: ss.drop (j + 1) := by
    rw [← e, ← List.drop_eq_getElem_cons hj, List.take_append_drop]
  rw [h1, chk_app _ _ _ h, chkFrom, if_neg hb, List.length_take]
  congr 1
  omega
theorem chk_good {ss : List Sec} (h : ∀ y ∈ ss, rightE y = 0) : chkFrom 0 ss = (0, 0) := by
  have := chk_app ss [] 0 h
  rw [List.append_nil] at this
  rw [this]
  rfl
theorem check_any (A : Option Addr) (n c B : Nat) (ss : List Sec) (w : World) (h : SecRd w B A n ss) (hB : B ≤ w.heap.size) :
    Calls Tryd.prog 69 #[.slice A n c] w fun e w' => e = .returned (.tuple #[.int .i64 (chk ss).1, .int .i64 (chk ss).2]) ∧ Below w.heap.size w w' := by
  have HS := Lib.hid h
  have hn := h.2.1
  have hl := h.1
  by_cases h64 : 64 < n
  · have e : Hid (chk ss = (7, 0)) := if_pos (by omega)
    rw [e.out]
    have h64i : (64 : Int) < (n : Int) := by omega
    clear h hl
    go_enter Tryd.func69, Tryd.ntmps69
    go_wp2
    go_ret2
    exact ⟨rfl, Below.refl _ _⟩
  have e : Hid (chk ss = chkFrom 0 ss) := if_neg (by omega)
  rw [e.out]
  have h64i : ¬ (64 : Int) < (n : Int) := by omega
  have HL := Lib.hid hl
  clear h hl
  go_enter Tryd.func69, Tryd.ntmps69
  go_wp2
  go_loopw [12] (fun i wr => ∃ j : Nat, j ≤ n ∧ i = .int .i64 j ∧ Below w.heap.size w wr ∧ ∀ x ∈ ss.take j, rightE x = 0) (fun i _ => n - (intOf i).toNat)
  case atStart => exact ⟨0, Nat.zero_le _, rfl, Below.refl _ _, fun x hx => by simp at hx⟩
  case round =>
    rename_i wr
    obtain ⟨j, hj, rfl, hBw, hall⟩ := hrel
    have HA := Lib.hid hall
    have HB := Lib.hid hBw
    clear hall hBw
    by_cases hlt : j < n
    · have hs := HS.out.below HB.out hB
      obtain ⟨x, b, off, E, m, k, hx, rfl, hb, ho, ha, c0, c1, c2, c3⟩ := hs.at_ j hlt
      have hbw : b < wr.heap.size := by have := HB.out.size; omega
      have hsz := HB.out.size
      obtain ⟨V, hV⟩ : ∃ V, wr.alloc (.cells #[.string x.cl, .string x.sv, .string x.wd, .slice E m k] 50) = V := ⟨_, rfl⟩
      have hBV : Below wr.heap.size wr V := by rw [← hV]; exact (Below.refl _ _).alloc (Nat.le_refl _) _
      have hnew : Blk V wr.heap.size 50 [.string x.cl, .string x.sv, .string x.wd, .slice E m k] := by rw [← hV]; exact heap_alloc_new wr _
      have v0 := hnew.cell 0
      have v1 := hnew.cell 1
      have v2 := hnew.cell 2
      have v3 := hnew.cell 3
      have haV := ha.below hBV (by omega)
      have hzV := hBV.size
      have C := Lib.hid (right_any x E m k B V ho haV (by omega))
      have BV : Hid (Below w.heap.size w V) := HB.out.trans (hBV.mono hsz)
      have HX := Lib.hid hx
      have HV := Lib.hid hV
      obtain ⟨rx, hrx⟩ : ∃ rx, rightE x = rx := ⟨_, rfl⟩
      rw [hrx] at C
      have HRX := Lib.hid hrx
      clear hV hBV hnew hs ha haV ho hx hrx
      have fin : Hid (∀ W, Below V.heap.size V W → Below w.heap.size w W) := fun W hW => BV.out.trans (hW.mono BV.out.size)
      by_cases h0 : rx = 0
      · subst h0
        have NX : Hid (∀ y ∈ ss.take (j + 1), rightE y = 0) := by
          intro y hy
          rw [take_one HX.out] at hy
          rcases List.mem_append.1 hy with h | h
          · exact HA.out y h
          · rw [List.mem_singleton.1 h]; exact HRX.out
        go_wp2_with (first
          | (rw [HV.out])
          | (go_at_call 96; ((with_reducible refine C.out.mono ?_); rintro e w2 ⟨rfl, hB2⟩; have B2 := Lib.hid hB2; clear hB2)))
        go_roundw
        case rel => exact ⟨j + 1, by omega, by go_num, fin.out _ B2.out, NX.out⟩
        case measure => simp [intOf]; omega
      · have RES : Hid (chkFrom 0 ss = (rx, (j : Int))) := by
          have := chk_bad HA.out HX.out (by rw [HRX.out]; exact h0)
          rw [HRX.out] at this
          exact this
        go_wp2_with (first
          | (rw [HV.out])
          | (go_at_call 96; ((with_reducible refine C.out.mono ?_); rintro e w2 ⟨rfl, hB2⟩; have B2 := Lib.hid hB2; clear hB2)))
        go_ret2
        exact ⟨by rw [RES.out]; rfl, fin.out _ B2.out⟩
    · obtain rfl : j = n := by omega
      have RES : Hid (chkFrom 0 ss = (0, 0)) := chk_good (by have h1 := HA.out; rw [List.take_of_length_le (by have := HL.out; omega)] at h1; exact h1)
      go_wp2
      go_ret2
      exact ⟨by rw [RES.out]; rfl, HB.out⟩
open Classical in
/-- of each pair the first right line -/
noncomputable def fst (ss : List Sec) (a c : ByteArray) : Option Nat := ss.findIdx? fun x => decide (x.cl = a ∧ x.sv = c ∧ rightE x = 0)
theorem fst_snoc (ss : List Sec) (x : Sec) (a c : ByteArray) : fst (ss ++ [x]) a c = (fst ss a c).or (if x.cl = a ∧ x.sv = c ∧ rightE x = 0 then some ss.length else none) := by
  unfold fst
  rw [List.findIdx?_append]
  congr 1
  by_cases h : x.cl = a ∧ x.sv = c ∧ rightE x = 0
  · rw [if_pos h, List.findIdx?_cons]
    simp [h]
  · rw [if_neg h, List.findIdx?_cons]
    simp [h]
theorem firsts_any (A : Option Addr) (n c B : Nat) (ss : List Sec) (w : World) (h : SecRd w B A n ss) (hB : B ≤ w.heap.size) :
    Calls Tryd.prog 70 #[.slice A n c] w fun e w' => e = .returned (.map (some w.heap.size)) ∧ MapP w' w.heap.size n (fst ss) ∧ Below w.heap.size w w' := by
  have HS := Lib.hid h
  have hn := h.2.1
  have HL := Lib.hid h.1
  have hmm := @run_makeMap Tryd.prog
  clear h
  go_enter Tryd.func70, Tryd.ntmps70
  go_wp2
  go_loopw [12] (fun i wr => ∃ j : Nat, j ≤ n ∧ i = .int .i64 j ∧ Below w.heap.size w wr ∧ w.heap.size < wr.heap.size ∧ Hid (MapP wr w.heap.size j (fst (ss.take j)))) (fun i _ => n - (intOf i).toNat)
  case atStart => exact ⟨0, Nat.zero_le _, rfl, (Below.refl _ _).alloc (Nat.le_refl _) _, by simp, MapP.made w⟩
  case round =>
    rename World => wr
    obtain ⟨j, hj, rfl, hBw, hlw, hM⟩ := hrel
    have HB := Lib.hid hBw
    clear hBw
    by_cases hlt : j < n
    · have hs := HS.out.below HB.out hB
      obtain ⟨x, b, off, E, m, k, hx, rfl, hb, ho, ha, c0, c1, c2, c3⟩ := hs.at_ j hlt
      have hsz := HB.out.size
      have hbw : b < wr.heap.size := by omega
      obtain ⟨V1, hV1⟩ : ∃ V1, wr.alloc (.cells #[.string x.cl, .string x.sv, .string x.wd, .slice E m k] 50) = V1 := ⟨_, rfl⟩
      have hBV1 : Below wr.heap.size wr V1 := by rw [← hV1]; exact (Below.refl _ _).alloc (Nat.le_refl _) _
      have hnew1 : Blk V1 wr.heap.size 50 [.string x.cl, .string x.sv, .string x.wd, .slice E m k] := by rw [← hV1]; exact heap_alloc_new wr _
      have hz1 : V1.heap.size = wr.heap.size + 1 := by rw [← hV1]; simp
      obtain ⟨V, hV⟩ : ∃ V, V1.alloc (.cells #[.string x.cl, .string x.sv] 158) = V := ⟨_, rfl⟩
      have hBV2 : Below V1.heap.size V1 V := by rw [← hV]; exact (Below.refl _ _).alloc (Nat.le_refl _) _
      have hnew2 : Blk V V1.heap.size 158 [.string x.cl, .string x.sv] := by rw [← hV]; exact heap_alloc_new V1 _
      have hz2 : V.heap.size = V1.heap.size + 1 := by rw [← hV]; simp
      have hBV : Below wr.heap.size wr V := hBV1.trans (hBV2.mono (by omega))
      have k0 := hnew1.cell 0
      have k1 := hnew1.cell 1
      have hnew : Blk V wr.heap.size 50 [.string x.cl, .string x.sv, .string x.wd, .slice E m k] := (hBV2.block _ (by omega)).trans hnew1
      have v0 := hnew.cell 0
      have v1 := hnew.cell 1
      have v2 := hnew.cell 2
      have v3 := hnew.cell 3
      rw [hz1] at hnew2
      have p0 := hnew2.cell 0
      have p1 := hnew2.cell 1
      have haV := ha.below hBV (by omega)
      have hMV := hM.out.later hBV
      have LK := hMV.look x.cl x.sv ho.1 ho.2.1
      have BV : Hid (Below w.heap.size w V) := HB.out.trans (hBV.mono hsz)
      have step : ∀ W F, MapP W w.heap.size (j + 1) F → (∀ a c, F a c = fst (ss.take (j + 1)) a c) → MapP W w.heap.size (j + 1) (fst (ss.take (j + 1))) := fun W F hF he => by
        have : F = fst (ss.take (j + 1)) := funext fun a => funext fun c => he a c
        rw [← this]; exact hF
      have hst : ∀ a c, fst (ss.take (j + 1)) a c = (fst (ss.take j) a c).or (if x.cl = a ∧ x.sv = c ∧ rightE x = 0 then some j else none) := fun a c => by
        rw [take_one hx, fst_snoc, List.length_take, Nat.min_eq_left (by have := HL.out; omega)]
      obtain ⟨rx, hrx⟩ : ∃ rx, rightE x = rx := ⟨_, rfl⟩
      have C := right_any x E m k B V ho haV (by omega)
      rw [hrx] at C hst
      have hjm : j < maxLen := by unfold maxLen; omega
      cases hf : fst (ss.take j) x.cl x.sv
      case' some i0 =>
        rw [hf] at LK
        have HMP := Lib.hid (step V _ (hMV.mono (Nat.le_succ j)) (fun a c => by
          rw [hst]
          by_cases e : x.cl = a ∧ x.sv = c ∧ rx = 0
          · obtain ⟨e1, e2, e3⟩ := e
            subst e1; subst e2
            rw [hf]; rfl
          · rw [if_neg e, Option.or_none]))
        have HV1 := Lib.hid hV1
        have HV := Lib.hid hV
        clear C hV1 hV hst hM hMV hnew hnew1 hnew2 hBV1 hBV2 hBV ha haV hs hf hrx step
        go_wp2_with (first
          | (rw [HV1.out])
          | (rw [HV.out]))
        go_roundw
        case rel => exact ⟨j + 1, by omega, by go_num, BV.out, by omega, HMP⟩
        case measure => simp [intOf]; omega
      case' none =>
        rw [hf] at LK
        have C2 : Hid (Calls Tryd.prog 96 #[.agg #[.string x.cl, .string x.sv, .string x.wd, .slice E m k]] V fun e w3 => e = .returned (.int .i64 rx) ∧ w3.cell? ⟨wr.heap.size + 1, 0, none⟩ = some (.string x.cl) ∧ w3.cell? ⟨wr.heap.size + 1, 1, none⟩ = some (.string x.sv) ∧ Below w.heap.size w w3 ∧ w.heap.size < w3.heap.size ∧
            (rx ≠ 0 → MapP w3 w.heap.size (j + 1) (fst (ss.take (j + 1)))) ∧
            (rx = 0 → ∃ w4, (Instr.mapUpdate 129 (.map (some w.heap.size)) (.agg #[.string x.cl, .string x.sv]) (.int .i64 (j : Int))).run Tryd.prog w3 = .ok () w4 ∧ MapP w4 w.heap.size (j + 1) (fst (ss.take (j + 1))) ∧ Below w.heap.size w w4 ∧ w.heap.size < w4.heap.size)) := by
          refine C.mono ?_
          rintro e w3 ⟨rfl, hB3⟩
          have hM3 := hMV.later hB3
          have B3 := BV.out.trans (hB3.mono BV.out.size)
          have z3 := hB3.size
          have hb3 : Blk w3 (wr.heap.size + 1) 158 [.string x.cl, .string x.sv] := (hB3.block _ (by omega)).trans hnew2
          refine ⟨rfl, hb3.cell 0, hb3.cell 1, B3, by omega, fun hne => step w3 _ (hM3.mono (Nat.le_succ j)) (fun a c => ?_), fun h0 => ?_⟩
          · rw [hst, if_neg (by intro h; exact hne h.2.2), Option.or_none]
          · obtain ⟨w4, hrun, hM4, hg4⟩ := hM3.put x.cl x.sv j ho.1 ho.2.1 (by omega) hjm
            refine ⟨w4, hrun, step w4 _ hM4 (fun a c => ?_), B3.grown hg4 B3.size (fun q e => by cases e; exact Nat.le_refl _), by have := hg4.size; omega⟩
            rw [hst]
            by_cases e : a = x.cl ∧ c = x.sv
            · obtain ⟨e1, e2⟩ := e
              subst e1; subst e2
              rw [if_pos ⟨rfl, rfl⟩, hf, if_pos ⟨rfl, rfl, h0⟩]; rfl
            · rw [if_neg e, if_neg (by rintro ⟨h1, h2, h3⟩; exact e ⟨h1.symm, h2.symm⟩), Option.or_none]
        have HV1 := Lib.hid hV1
        have HV := Lib.hid hV
        clear C hV1 hV hst hM hMV hnew hnew1 hnew2 hBV1 hBV2 hBV ha haV hs hf hrx step
        by_cases h0 : rx = 0
        · subst h0
          go_wp2_with (first
            | (rw [HV1.out])
            | (rw [HV.out])
            | (go_at_call 96; ((with_reducible refine C2.out.mono ?_); rintro e w3 ⟨rfl, q0, q1, -, -, -, n4⟩; obtain ⟨w4, hrun, n5, n6, n7⟩ := n4 rfl; have N5 := Lib.hid n5; have N6 := Lib.hid n6; clear n4 n5 n6)))
          go_roundw
          case rel => exact ⟨j + 1, by omega, by go_num, N6.out, n7, N5⟩
          case measure => simp [intOf]; omega
        · go_wp2_with (first
            | (rw [HV1.out])
            | (rw [HV.out])
            | (go_at_call 96; ((with_reducible refine C2.out.mono ?_); rintro e w3 ⟨rfl, q0, q1, b3, n7, n3, -⟩; have N5 := Lib.hid (n3 h0); have N6 := Lib.hid b3; clear n3 b3)))
          go_roundw
          case rel => exact ⟨j + 1, by omega, by go_num, N6.out, n7, N5⟩
          case measure => simp [intOf]; omega
    · obtain rfl : j = n := by omega
      have HM : Hid (MapP wr w.heap.size j (fst ss)) := by have h1 := hM.out; rw [List.take_of_length_le (by have := HL.out; omega)] at h1; exact h1
      clear hM
      go_wp2
      go_ret
      exact ⟨rfl, HM.out, HB.out⟩
end Go.Proofs.YtjimoegegigoiaaDoor
