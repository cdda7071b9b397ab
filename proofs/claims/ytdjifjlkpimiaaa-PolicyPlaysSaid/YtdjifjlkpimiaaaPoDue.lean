/-
  A policy's deadlines: what is due, as a list of times and deeds.
-/
import Derived.Test.YtdjifjlkpimiaaaPoTrack
import Derived.Deep.RegionLaw
import Derived.Deep.DeepCutAuto
namespace Go.Proofs.Ytdjifjlkpimiaaa
open Go.RowKit
set_option maxRecDepth 100000
set_option maxHeartbeats 8000000
set_option linter.unusedSimpArgs false
set_option linter.unusedVariables false

abbrev fnV (g f : Nat) : Value := .func (.func f) #[.pointer (some ⟨g, 0, none⟩)] #[]
def cellsD (g : Nat) (x : Int × Nat) : List Value := [.int .i64 x.1, fnV g x.2]
def OwnD (w : World) (base g : Nat) (v : Value) (xs : List (Int × Nat)) : Prop := w.ownsRow base 69 2 v xs.length (xs.flatMap (cellsD g))
theorem OwnD.nil (w : World) (base g : Nat) : OwnD w base g (.slice none 0 0) [] := World.ownsRow_nil _ _ _ _
theorem OwnD.form {w : World} {base g : Nat} {v : Value} {xs : List (Int × Nat)} (h : OwnD w base g v xs) :
    (v = .slice none 0 0 ∧ xs = []) ∨ ∃ q cap, v = .slice (some ⟨q, 0, none⟩) xs.length cap ∧ base ≤ q ∧ q < w.heap.size ∧ xs.length ≤ cap ∧ cap ≤ maxLen := by
  rcases h.2 with ⟨e, h0⟩ | ⟨q, cap, cur, e, hb, hg, hc, hm, _⟩
  · exact .inl ⟨e, List.eq_nil_of_length_eq_zero h0⟩
  · exact .inr ⟨q, cap, e, hb, (Array.getElem?_eq_some_iff.1 hg).1, hc, hm⟩
theorem OwnD.grown {w w' : World} {base g : Nat} {v : Value} {xs : List (Int × Nat)} {row : Option Nat} (h : OwnD w base g v xs) (hg : w.grownBy w' row) (hne : v.ownBlock = none ∨ v.ownBlock ≠ row) : OwnD w' base g v xs := World.ownsRow.kept h hg hne
theorem OwnD.later {w w' : World} {base g : Nat} {v : Value} {xs : List (Int × Nat)} (h : OwnD w base g v xs) (hB : Below w.heap.size w w') : OwnD w' base g v xs := h.grown (row := none) (grown_of_below hB) (Classical.em _)
theorem flatD (g : Nat) : ∀ (xs : List (Int × Nat)) (i r : Nat) (x : Int × Nat), xs[i]? = some x → r < 2 → (xs.flatMap (cellsD g))[2 * i + r]? = (cellsD g x)[r]?
  | [], i, r, x, h, _ => by simp at h
  | y :: xs, 0, r, x, h, hr => by
    simp at h
    subst h
    rw [List.flatMap_cons, List.getElem?_append_left (by show _ < 2; omega)]
    congr 1
    omega
  | y :: xs, i + 1, r, x, h, hr => by
    rw [List.flatMap_cons, List.getElem?_append_right (by show 2 ≤ _; omega)]
    have := flatD g xs i r x (by simpa using h) hr
    rw [← this]
    congr 1
    show 2 * (i + 1) + r - 2 = _
    omega
theorem OwnD.cell {w : World} {base g q n cap : Nat} {xs : List (Int × Nat)} (h : OwnD w base g (.slice (some ⟨q, 0, none⟩) n cap) xs) (i : Nat) (x : Int × Nat) (hx : xs[i]? = some x) :
    w.cell? ⟨q, i * 2, none⟩ = some (.int .i64 x.1) ∧ w.cell? ⟨q, i * 2 + 1, none⟩ = some (fnV g x.2) := by
  have h0 := World.ownsRow.cells h (g := q) rfl (2 * i + 0) (.int .i64 x.1) (by rw [flatD g xs i 0 x hx (by omega)]; rfl)
  have h1 := World.ownsRow.cells h (g := q) rfl (2 * i + 1) (fnV g x.2) (by rw [flatD g xs i 1 x hx (by omega)]; rfl)
  rw [addr_add] at h0 h1
  rw [show i * 2 = 2 * i + 0 by omega, show 2 * i + 0 + 1 = 2 * i + 1 by omega]
  exact ⟨h0, h1⟩
theorem infoD : (Try.prog.info? 69).map (fun i => (i.zero, i.size, i.bytes)) = some (some (.agg #[.int .i64 0, .nilFunc]), 2, 16) := by kernel_rfl
theorem appD_one {W : World} {base g : Nat} {v : Value} {xs : List (Int × Nat)} (h : OwnD W base g v xs) (a : Int) (f : Nat) (hm : xs.length ≤ 10) (hb : base ≤ W.heap.size) :
    ∃ v' w', (Builtin.append_ #[65, 65] 65 #[v, .slice (some ⟨W.heap.size, 0, none⟩) 1 1]).run Try.prog (W.alloc (.cells #[.int .i64 a, fnV g f] 69)).drew = .ok v' w' ∧ OwnD w' base g v' (xs ++ [(a, f)]) ∧ Below base W w' := by
  obtain ⟨i, hi, hz, h1, h2⟩ := info_parts infoD
  have hal : OwnD (W.alloc (.cells #[.int .i64 a, fnV g f] 69)).drew base g v xs := World.ownsRow.alloc h _
  have hnew : Blk (W.alloc (.cells #[.int .i64 a, fnV g f] 69)).drew W.heap.size 69 [.int .i64 a, fnV g f] := blk_new W 69 [.int .i64 a, fnV g f]
  obtain ⟨v', w', hrun, h3, h4, _, h5⟩ := run_append_own_at (P := Try.prog) (W.alloc (.cells #[.int .i64 a, fnV g f] 69)).drew base 65 65 69 i _ 2 16 Try.underlying65 hi hz h1 h2 rfl (by decide) v _ _ hal ⟨W.heap.size, 0, none⟩ 1 1 [.int .i64 a, fnV g f]
    rfl (fun j u hj => by rw [addr_add]; exact (hnew.cell j).trans hj) (by intro u hu; simp at hu; rcases hu with rfl | rfl <;> rfl) (by unfold maxLen; omega) (by omega) (by simp; omega)
  refine ⟨v', w', hrun, ?_, ((Below.refl base W).alloc hb _).drew.grown h4 (by simp; omega) (fun k e => ?_)⟩
  · unfold OwnD
    rw [List.length_append, List.flatMap_append]
    simpa [cellsD] using h3
  · rcases h.form with ⟨rfl, _⟩ | ⟨q, cap, rfl, hq, _⟩
    · cases e
    · simp [Value.ownBlock] at e
      omega
theorem step_appD {w : World} {ops : Array Oper} {o : Oper} {a : Act} {K : Act → World → Prop} {Q : Exit → Act → World → Prop} {E : Prop} (hgd : o.guard = none) (s x : Operand)
    (ho : o.op = .call { callee := .builtin .append, args := #[s, x], argTypes := #[65, 65] }) (v u : Value) (hs : a.eval s = v) (hx : a.eval x = u)
    (v' : Value) (w2 : World) (hrun : (Builtin.append_ #[65, 65] o.type #[v, u]).run Try.prog w = .ok v' w2)
    (h : K (a.put o.dst v') w2) : if Region.wanted o (yielded ops a.tmps) = true then Oper.wp Try.prog o a w K Q else E := by
  have hw : Region.wanted o (yielded ops a.tmps) = true := by simp [Region.wanted, hgd]
  rw [if_pos hw]
  unfold Oper.wp execOp
  simp only [ho, resolve, invoke, builtin, Sem.run_bind, Sem.run_pure, Result.andThen_ok, List.map_toArray, List.map_cons, List.map_nil, hs, hx, hrun]
  exact h
def poDl (x : PoS) : List (Int × Nat) :=
  if x.st = 3 then (if x.se = 0 then [] else [(x.ran + x.se, 49)]) ++ (if x.idl = 0 then [] else [(x.us + x.idl, 50)])
  else if x.st = 1 then [(x.en + x.ho, 51)] else []
theorem poDl_any (g : Nat) (x : PoS) (w : World) (hx : PoB w g x) (ho : PoOk x) :
    Calls Try.prog 37 #[.pointer (some ⟨g, 0, none⟩)] w fun e w' => ∃ v, e = .returned v ∧ OwnD w' w.heap.size g v (poDl x) ∧ Below w.heap.size w w' := by
  obtain ⟨b1, b2⟩ := ho.ho
  obtain ⟨b3, b4⟩ := ho.idl
  obtain ⟨b5, b6⟩ := ho.se
  obtain ⟨b7, b8⟩ := ho.now
  obtain ⟨b9, b10⟩ := ho.ran
  obtain ⟨b11, b12⟩ := ho.us
  obtain ⟨b13, b14⟩ := ho.en
  clear ho
  have c5 : w.cell? ⟨g, 5, none⟩ = some (.int .i64 x.ho) := hx.cell 5
  have c6 : w.cell? ⟨g, 6, none⟩ = some (.int .i64 x.idl) := hx.cell 6
  have c7 : w.cell? ⟨g, 7, none⟩ = some (.int .i64 x.se) := hx.cell 7
  have c9 : w.cell? ⟨g, 9, none⟩ = some (.int .i64 x.st) := hx.cell 9
  have c11 : w.cell? ⟨g, 11, none⟩ = some (.int .i64 x.ran) := hx.cell 11
  have c12 : w.cell? ⟨g, 12, none⟩ = some (.int .i64 x.us) := hx.cell 12
  have c13 : w.cell? ⟨g, 13, none⟩ = some (.int .i64 x.en) := hx.cell 13
  have lg : g < w.heap.size := hx.lt
  clear hx
  have p1 : IntKind.i64.wrap (x.ran + x.se) = x.ran + x.se := IntWalk.i64_in _ (by omega)
  have p2 : IntKind.i64.wrap (x.us + x.idl) = x.us + x.idl := IntWalk.i64_in _ (by omega)
  have p3 : IntKind.i64.wrap (x.en + x.ho) = x.en + x.ho := IntWalk.i64_in _ (by omega)
  by_cases h3 : x.st = 3
  · have e0 : poDl x = (if x.se = 0 then [] else [(x.ran + x.se, 49)]) ++ (if x.idl = 0 then [] else [(x.us + x.idl, 50)]) := if_pos h3
    rw [e0]
    rw [h3] at c9
    clear e0 h3 c5 c13 b1 b2 b13 b14 p3
    generalize x.st = st at *
    obtain ⟨s, hs⟩ : ∃ s, x.ran + x.se = s := ⟨_, rfl⟩
    obtain ⟨u, hu⟩ : ∃ u, x.us + x.idl = u := ⟨_, rfl⟩
    generalize x.se = se at *
    generalize x.idl = il at *
    generalize x.ran = ra at *
    generalize x.us = us at *
    generalize x.now = nw at *
    by_cases k1 : se = 0
    · rw [if_pos k1, List.nil_append]
      subst k1
      by_cases k2 : il = 0
      · subst k2
        rw [if_pos rfl]
        clear hs hu
        go_enter Try.func37, Try.ntmps37
        go_wp2
        go_ret
        exact ⟨_, rfl, OwnD.nil _ _ _, Below.refl _ _⟩
      · have t2 : (il != 0) = true := by simpa using k2
        rw [if_neg k2]
        obtain ⟨v1, w1, r1, o1, l1⟩ := appD_one (W := w) (OwnD.nil w w.heap.size g) (us + il) 50 (by simp) (Nat.le_refl _)
        have R1 := Lib.hid r1
        have O1 := Lib.hid o1
        have L1 := Lib.hid l1
        clear hs hu k2 r1 o1 l1
        go_enter Try.func37, Try.ntmps37
        go_wp2
        go_region_law (refine step_appD rfl (.tmp 38) (.tmp 52) rfl _ _ rfl rfl _ _ R1.out ?_)
        all_goals (go_wp2; go_ret; exact ⟨_, rfl, O1.out, L1.out⟩)
    · have t1 : (se != 0) = true := by simpa using k1
      rw [if_neg k1]
      obtain ⟨v1, w1, r1, o1, l1⟩ := appD_one (W := w) (OwnD.nil w w.heap.size g) (ra + se) 49 (by simp) (Nat.le_refl _)
      have d6 : w1.cell? ⟨g, 6, none⟩ = some (.int .i64 il) := (l1.cell (by show g < w.heap.size; exact lg)).trans c6
      have d12 : w1.cell? ⟨g, 12, none⟩ = some (.int .i64 us) := (l1.cell (by show g < w.heap.size; exact lg)).trans c12
      have R1 := Lib.hid r1
      by_cases k2 : il = 0
      · subst k2
        rw [if_pos rfl]
        have O1 := Lib.hid o1
        have L1 := Lib.hid l1
        clear hs hu k1 r1 o1 l1
        go_enter Try.func37, Try.ntmps37
        go_wp2
        go_region_law (refine step_appD rfl (.tmp 16) (.tmp 30) rfl _ _ rfl rfl _ _ R1.out ?_)
        all_goals (go_wp2; go_ret; exact ⟨_, rfl, O1.out, L1.out⟩)
      · have t2 : (il != 0) = true := by simpa using k2
        rw [if_neg k2]
        obtain ⟨v2, w2, r2, o2, l2⟩ := appD_one (W := w1) (xs := [(ra + se, 49)]) (base := w.heap.size) (v := v1) o1 (us + il) 50 (by simp) l1.size
        have R2 := Lib.hid r2
        have O2 := Lib.hid o2
        have L2 := Lib.hid (l1.trans l2)
        clear hs hu k1 k2 r1 o1 r2 o2 l1 l2
        go_enter Try.func37, Try.ntmps37
        go_upto_region 5 with (fail)
        go_cut [3] (fun v W => v = v1 ∧ w1 = W)
        case first =>
          go_region_law (refine step_appD rfl (.tmp 16) (.tmp 30) rfl _ _ rfl rfl _ _ R1.out ?_)
          all_goals (go_wp2_with (fail); go_meet; exact ⟨rfl, rfl⟩)
        case rest =>
          obtain ⟨rfl, rfl⟩ := hcut
          go_wp2
          go_region_law (refine step_appD rfl (.tmp 38) (.tmp 52) rfl _ _ rfl rfl _ _ R2.out ?_)
          all_goals (go_wp2; go_ret; exact ⟨_, rfl, O2.out, L2.out⟩)
  · have t3 : (x.st == 3) = false := by simpa using h3
    by_cases h1 : x.st = 1
    · have e0 : poDl x = [(x.en + x.ho, 51)] := (if_neg h3).trans (if_pos h1)
      rw [e0]
      rw [h1] at c9
      clear e0 h3 h1 t3 c6 c7 c11 c12 p1 p2
      obtain ⟨v1, w1, r1, o1, l1⟩ := appD_one (W := w) (OwnD.nil w w.heap.size g) (x.en + x.ho) 51 (by simp) (Nat.le_refl _)
      have R1 := Lib.hid r1
      have O1 := Lib.hid o1
      have L1 := Lib.hid l1
      clear r1 o1 l1
      go_enter Try.func37, Try.ntmps37
      go_wp2
      go_region_law (refine step_appD rfl (.tmp 56) (.tmp 70) rfl _ _ rfl rfl _ _ R1.out ?_)
      all_goals (go_wp2; go_ret; exact ⟨_, rfl, O1.out, L1.out⟩)
    · have t1 : (x.st == 1) = false := by simpa using h1
      have e0 : poDl x = [] := (if_neg h3).trans (if_neg h1)
      rw [e0]
      clear e0 h3 h1
      go_enter Try.func37, Try.ntmps37
      go_wp2
      go_ret
      exact ⟨_, rfl, OwnD.nil _ _ _, Below.refl _ _⟩
end Go.Proofs.Ytdjifjlkpimiaaa
