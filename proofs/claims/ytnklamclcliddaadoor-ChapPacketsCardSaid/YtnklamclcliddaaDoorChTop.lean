/-
  chap: among, what it finds; secret.Find; (finder).word.
  chap: kindOf, (asked).answer, answer, Answer (written by gen_chans.py).
  chap: answer, Answer.
  chap: (replied).proves, holds (written by gen_chhold.py).
  chap: holds, Holds, Answer (written by gen_chtop.py).
-/
import Derived.Test.YtnklamclcliddaaDoorChRRead
import Derived.Test.YtnklamclcliddaaDoorSeTab
import Derived.Deep.QuietTactic
import Derived.BigQuiet
import Derived.Test.YtnklamclcliddaaDoorMdResp
import Derived.Deep.RegionHeld3
import Derived.Test.YtnklamclcliddaaDoorMdEqual
namespace Go.Proofs.YtnklamclcliddaaDoor
open Go.RowKit Go.Shelf
set_option maxRecDepth 100000
set_option maxHeartbeats 1000000
set_option linter.unusedSimpArgs false
set_option linter.unusedVariables false

theorem sfind_any (A : Option Addr) (n c B : Nat) (ss : List Sec) (cl sv : ByteArray) (w : World) (h : SecRd w B A n ss) (hB : B ≤ w.heap.size) (hcl : cl.size ≤ maxLen) (hsv : sv.size ≤ maxLen) :
    Calls Tryd.prog 95 #[.slice A n c, .string cl, .string sv] w (BestR w ss (bst ss cl sv)) := by
  obtain ⟨V, hV⟩ : ∃ V, w.alloc (.cells #[.string ⟨#[]⟩, .string ⟨#[]⟩, .string ⟨#[]⟩, .slice none 0 0] 58) = V := ⟨_, rfl⟩
  have hBV : Below w.heap.size w V := by rw [← hV]; exact (Below.refl _ _).alloc (Nat.le_refl _) _
  have hnew : Blk V w.heap.size 58 [.string ⟨#[]⟩, .string ⟨#[]⟩, .string ⟨#[]⟩, .slice none 0 0] := by rw [← hV]; exact heap_alloc_new w _
  obtain ⟨o, ho⟩ : ∃ o, bst ss cl sv = o := ⟨_, rfl⟩
  have C : Hid (Calls Tryd.prog 80 #[.slice A n c] V fun e w2 => ∃ mb, e = .returned (.map (some mb)) ∧ Calls Tryd.prog 109 #[.slice A n c, .map (some mb), .string cl, .string sv] w2 fun e w3 => ∃ a1 a2 a3 a4 b, e = .returned (.tuple #[.agg #[a1, a2, a3, a4], .bool b]) ∧ w.heap.size < w3.heap.size ∧ Blk w3 w.heap.size 58 [.string ⟨#[]⟩, .string ⟨#[]⟩, .string ⟨#[]⟩, .slice none 0 0] ∧ (∃ s1 s2 s3 E m k, a1 = .string s1 ∧ a2 = .string s2 ∧ a3 = .string s3 ∧ a4 = .slice E m k) ∧
      ∀ W', w3.grownBy W' (some w.heap.size) → BestR w ss o (.returned (.tuple #[.agg #[a1, a2, a3, a4], .bool b])) W') := by
    refine (firsts_any A n c B ss V (h.below hBV hB) (Nat.le_trans hB hBV.size)).mono ?_
    rintro e w2 ⟨rfl, hM, b2⟩
    refine ⟨_, rfl, ?_⟩
    have z1 := hBV.size
    have z2 := b2.size
    have BE := best_any A n c B V.heap.size n ss cl sv w2 ((h.below hBV hB).below b2 (Nat.le_trans hB z1)) hM (by omega) hcl hsv
    rw [ho] at BE
    refine BE.mono ?_
    rintro e w3 ⟨b3, hr⟩
    have z3 := b3.size
    have B3 : Below w.heap.size w w3 := (hBV.trans (b2.mono z1)).trans (b3.mono (by omega))
    have hl := Blk.lt hnew
    have hb3 : Blk w3 w.heap.size 58 _ := (b3.block _ (by omega)).trans ((b2.block _ hl).trans hnew)
    have fin : ∀ W', w3.grownBy W' (some w.heap.size) → Below w.heap.size w W' := fun W' g => B3.grown g B3.size (fun q e => by cases e; exact Nat.le_refl _)
    cases o with
    | none =>
      have he : e = .returned (.tuple #[.agg #[.string ⟨#[]⟩, .string ⟨#[]⟩, .string ⟨#[]⟩, .slice none 0 0], .bool false]) := hr
      exact ⟨_, _, _, _, _, he, by omega, hb3, ⟨_, _, _, _, _, _, rfl, rfl, rfl, rfl⟩, fun W' g => ⟨fin W' g, rfl⟩⟩
    | some i =>
      obtain ⟨x, E, m, k, hx, he, ha, hE⟩ := hr
      refine ⟨_, _, _, _, _, he, by omega, hb3, ⟨_, _, _, _, _, _, rfl, rfl, rfl, rfl⟩, fun W' g => ⟨fin W' g, x, E, m, k, hx, rfl, ?_, fun b o s e => ⟨by have := (hE b o s e).1; omega, by have := (hE b o s e).2; have := g.size; omega⟩⟩⟩
      exact (ha.keep (fun b o e => g.block b (hE b o none e).2 (by have := (hE b o none e).1; intro e2; injection e2 with e2; omega))).wide g.size
  have HV := Lib.hid hV
  rw [ho]
  clear h ho hV hBV hcl hsv hnew
  go_enter Tryd.func95, Tryd.ntmps95
  go_wp2_with (first
    | (rw [HV.out])
    | (go_at_call 80; ((with_reducible refine C.out.mono ?_); rintro e w2 ⟨mb, rfl, n1⟩; have C1 := Lib.hid n1; clear n1 C))
    | (go_at_call 109; ((with_reducible refine C1.out.mono ?_); rintro e w3 ⟨a1, a2, a3, a4, b, rfl, z3, b2, ⟨s1, s2, s3, E, m, k, rfl, rfl, rfl, rfl⟩, c9⟩; have r0 := b2.cell 0; have r1 := b2.cell 1; have r2 := b2.cell 2; have r3 := b2.cell 3; have g0 := b2.frozen 0; have g1 := b2.frozen 1; have g2 := b2.frozen 2; have g3 := b2.frozen 3; have C9 := Lib.hid c9; have B2 := Lib.hid b2; clear c9 b2)))
  have hb4 := blk4 (x := .string s1) (y := .string s2) (z := .string s3) (v := .slice E m k) B2.out
  have y0 := hb4.cell 0
  have y1 := hb4.cell 1
  have y2 := hb4.cell 2
  have y3 := hb4.cell 3
  exact bodyPost_ret (v := .tuple #[.agg #[.string s1, .string s2, .string s3, .slice E m k], .bool b]) (by simp [results, Tryd.results95, go_sem, y0, y1, y2, y3]) rfl (C9.out _ (gset4 _ _ _ _ _ _))
theorem among_any (A : Option Addr) (n c : Nat) (w : World) : Calls Tryd.prog 73 #[.slice A n c] w fun e w' => e = .returned (.func (.func 94) #[] #[.pointer (some ⟨w.heap.size, 0, none⟩)]) ∧ w' = w.alloc (.cells #[.slice A n c] 49) := by
  go_enter Tryd.func73, Tryd.ntmps73
  go_wp2
  go_ret
  exact ⟨rfl, rfl⟩
theorem among1_any (b : Nat) (A : Option Addr) (n c B : Nat) (ss : List Sec) (cl sv : ByteArray) (w : World) (hb : Blk w b 49 [.slice A n c]) (h : SecRd w B A n ss) (hB : B ≤ w.heap.size) (hcl : cl.size ≤ maxLen) (hsv : sv.size ≤ maxLen) :
    Calls Tryd.prog 94 #[.string cl, .string sv, .pointer (some ⟨b, 0, none⟩)] w (BestR w ss (bst ss cl sv)) := by
  obtain ⟨V, hV⟩ : ∃ V, w.alloc (.cells #[.string ⟨#[]⟩, .string ⟨#[]⟩, .string ⟨#[]⟩, .slice none 0 0] 58) = V := ⟨_, rfl⟩
  have hBV : Below w.heap.size w V := by rw [← hV]; exact (Below.refl _ _).alloc (Nat.le_refl _) _
  have hnew : Blk V w.heap.size 58 [.string ⟨#[]⟩, .string ⟨#[]⟩, .string ⟨#[]⟩, .slice none 0 0] := by rw [← hV]; exact heap_alloc_new w _
  have hbV := past_same hb hBV
  have c0 := hbV.cell 0
  obtain ⟨o, ho⟩ : ∃ o, bst ss cl sv = o := ⟨_, rfl⟩
  have C : Hid (Calls Tryd.prog 95 #[.slice A n c, .string cl, .string sv] V fun e w3 => ∃ a1 a2 a3 a4 b, e = .returned (.tuple #[.agg #[a1, a2, a3, a4], .bool b]) ∧ w.heap.size < w3.heap.size ∧ Blk w3 w.heap.size 58 [.string ⟨#[]⟩, .string ⟨#[]⟩, .string ⟨#[]⟩, .slice none 0 0] ∧ (∃ s1 s2 s3 E m k, a1 = .string s1 ∧ a2 = .string s2 ∧ a3 = .string s3 ∧ a4 = .slice E m k) ∧
      ∀ W', w3.grownBy W' (some w.heap.size) → BestR w ss o (.returned (.tuple #[.agg #[a1, a2, a3, a4], .bool b])) W') := by
    have F := sfind_any A n c B ss cl sv V (h.below hBV hB) (Nat.le_trans hB hBV.size) hcl hsv
    rw [ho] at F
    refine F.mono ?_
    rintro e w3 ⟨b3, hr⟩
    have z1 := hBV.size
    have z3 := b3.size
    have B3 : Below w.heap.size w w3 := hBV.trans (b3.mono z1)
    have hb3 : Blk w3 w.heap.size 58 _ := past_same hnew b3
    have hl := Blk.lt hnew
    have fin : ∀ W', w3.grownBy W' (some w.heap.size) → Below w.heap.size w W' := fun W' g => B3.grown g B3.size (fun q e => by cases e; exact Nat.le_refl _)
    cases o with
    | none =>
      have he : e = .returned (.tuple #[.agg #[.string ⟨#[]⟩, .string ⟨#[]⟩, .string ⟨#[]⟩, .slice none 0 0], .bool false]) := hr
      exact ⟨_, _, _, _, _, he, by omega, hb3, ⟨_, _, _, _, _, _, rfl, rfl, rfl, rfl⟩, fun W' g => ⟨fin W' g, rfl⟩⟩
    | some i =>
      obtain ⟨x, E, m, k, hx, he, ha, hE⟩ := hr
      refine ⟨_, _, _, _, _, he, by omega, hb3, ⟨_, _, _, _, _, _, rfl, rfl, rfl, rfl⟩, fun W' g => ⟨fin W' g, x, E, m, k, hx, rfl, ?_, fun b o s e => ⟨by have := (hE b o s e).1; omega, by have := (hE b o s e).2; have := g.size; omega⟩⟩⟩
      exact (ha.keep (fun b o e => g.block b (hE b o none e).2 (by have := (hE b o none e).1; intro e2; injection e2 with e2; omega))).wide g.size
  have HV := Lib.hid hV
  rw [ho]
  clear h ho hV hBV hcl hsv hnew hb hbV
  go_enter Tryd.func94, Tryd.ntmps94
  go_wp2_with (first
    | (rw [HV.out])
    | (go_at_call 95; ((with_reducible refine C.out.mono ?_); rintro e w3 ⟨a1, a2, a3, a4, b, rfl, z3, b2, ⟨s1, s2, s3, E, m, k, rfl, rfl, rfl, rfl⟩, c9⟩; have r0 := b2.cell 0; have r1 := b2.cell 1; have r2 := b2.cell 2; have r3 := b2.cell 3; have g0 := b2.frozen 0; have g1 := b2.frozen 1; have g2 := b2.frozen 2; have g3 := b2.frozen 3; have C9 := Lib.hid c9; have B2 := Lib.hid b2; clear c9 b2)))
  have hb4 := blk4 (x := .string s1) (y := .string s2) (z := .string s3) (v := .slice E m k) B2.out
  have y0 := hb4.cell 0
  have y1 := hb4.cell 1
  have y2 := hb4.cell 2
  have y3 := hb4.cell 3
  exact bodyPost_ret (v := .tuple #[.agg #[.string s1, .string s2, .string s3, .slice E m k], .bool b]) (by simp [results, Tryd.results94, go_sem, y0, y1, y2, y3]) rfl (C9.out _ (gset4 _ _ _ _ _ _))
/-- the word of the best line; is there one? -/
def wdS (ss : List Sec) (o : Option Nat) : ByteArray := match o.bind fun i => ss[i]? with | none => ⟨#[]⟩ | some x => x.wd
def wdB (ss : List Sec) (o : Option Nat) : Bool := decide (0 < (wdS ss o).size)
def WordR (w : World) (ss : List Sec) (o : Option Nat) (e : Ending) (w' : World) : Prop := e = .returned (.tuple #[.string (wdS ss o), .bool (wdB ss o)]) ∧ Below w.heap.size w w'
/-- what a finder's word is, whatever finds: what is called answers as Find does -/
theorem bestR_box {w w1 : World} {ss : List Sec} {o : Option Nat} {e : Ending} (h : BestR w ss o e w1) : ∃ s1 s2 E m k b, e = .returned (.tuple #[.agg #[.string s1, .string s2, .string (wdS ss o), .slice E m k], .bool b]) ∧ Below w.heap.size w w1 ∧ (b = false → wdB ss o = false) ∧ (b = true → wdB ss o = !(wdS ss o).toList.isEmpty) := by
  obtain ⟨h1, h2⟩ := h
  cases o with
  | none => exact ⟨_, _, _, _, _, _, h2, h1, fun _ => rfl, fun e => by cases e⟩
  | some i =>
    obtain ⟨x, E, m, k, hx, rfl, _⟩ := h2
    have e : wdS ss (some i) = x.wd := by unfold wdS; simp [hx]
    refine ⟨x.cl, x.sv, E, m, k, true, by rw [e], h1, (fun e => by cases e), fun _ => ?_⟩
    unfold wdB
    rw [e]
    by_cases h0 : x.wd.size = 0
    · rw [str_nil h0]; simp [h0]
    · rw [str_ne (by omega)]; simp; omega
theorem word_cl (b : Nat) (A : Option Addr) (n c B : Nat) (ss : List Sec) (cl sv : ByteArray) (w : World) (hb : Blk w b 49 [.slice A n c]) (h : SecRd w B A n ss) (hB : B ≤ w.heap.size) (hcl : cl.size ≤ maxLen) (hsv : sv.size ≤ maxLen) :
    Calls Tryd.prog 107 #[.func (.func 94) #[] #[.pointer (some ⟨b, 0, none⟩)], .string cl, .string sv] w (WordR w ss (bst ss cl sv)) := by
  obtain ⟨o, ho⟩ : ∃ o, bst ss cl sv = o := ⟨_, rfl⟩
  have C : Hid (Calls Tryd.prog 94 #[.string cl, .string sv, .pointer (some ⟨b, 0, none⟩)] w fun e w1 => ∃ s1 s2 E m k b, e = .returned (.tuple #[.agg #[.string s1, .string s2, .string (wdS ss o), .slice E m k], .bool b]) ∧ Below w.heap.size w w1 ∧ (b = false → wdB ss o = false) ∧ (b = true → wdB ss o = !(wdS ss o).toList.isEmpty)) := by
    have F := among1_any b A n c B ss cl sv w hb h hB hcl hsv
    rw [ho] at F
    exact F.mono fun e w1 hh => bestR_box hh
  rw [ho]
  obtain ⟨s, hs⟩ : ∃ s, wdS ss o = s := ⟨_, rfl⟩
  obtain ⟨q, hq⟩ : ∃ q, wdB ss o = q := ⟨_, rfl⟩
  rw [hs, hq] at C
  have FN : Hid (∀ W, Below w.heap.size w W → WordR w ss o (.returned (.tuple #[.string s, .bool q])) W) := fun W hW => ⟨by rw [hs, hq], hW⟩
  clear ho hb h hB hcl hsv hs hq
  go_enter Tryd.func107, Tryd.ntmps107
  go_upto_region 2 with (go_at_call 94; ((with_reducible refine C.out.mono ?_); rintro e w1 ⟨s1, s2, E, m, k, b, rfl, b1, q1, q2⟩; have B1 := Lib.hid b1; have Q1 := Lib.hid q1; have Q2 := Lib.hid q2; clear b1 q1 q2 C))
  cases b
  · have e := Lib.hid (Q1.out rfl)
    clear Q1 Q2
    go_quiet (fail)
    go_wp2
    rw [e.out] at FN
    refine bodyPost_ret (v := .tuple #[.string s, .bool false]) (by simp [results, Tryd.results107, go_sem]) rfl (FN.out _ ?_)
    exact below_drewN (B1.out.alloc B1.out.size _) _
  · have e := Lib.hid (Q2.out rfl)
    clear Q1 Q2
    go_quiet (fail)
    go_wp2
    rw [e.out] at FN
    refine bodyPost_ret (v := .tuple #[.string s, .bool (!s.toList.isEmpty)]) (by simp [results, Tryd.results107, go_sem]) rfl (FN.out _ ?_)
    exact below_drewN (B1.out.alloc B1.out.size _) _
end Go.Proofs.YtnklamclcliddaaDoor
namespace Go.Proofs.YtnklamclcliddaaDoor
open Go.RowKit Go.Shelf
set_option maxRecDepth 100000
set_option maxHeartbeats 1000000
set_option linter.unusedSimpArgs false
set_option linter.unusedVariables false

/-- a packet as its kind -/
def kindV (code id : Int) (s : Value) : Value := if code = 1 then .iface 116 (.agg #[.int .i64 code, .int .i64 id, s]) else if code = 2 then .iface 117 (.agg #[.int .i64 code, .int .i64 id, s]) else .iface 119 (.agg #[])
theorem kindOf_any (code id : Int) (A : Option Addr) (n c : Nat) (w : World) : Calls Tryd.prog 45 #[.agg #[.int .i64 code, .int .i64 id, .slice A n c]] w fun e w' => e = .returned (kindV code id (.slice A n c)) ∧ w' = w.alloc (.cells #[.int .i64 code, .int .i64 id, .slice A n c] 24) := by
  unfold kindV
  by_cases h1 : code = 1
  · subst h1
    rw [if_pos rfl]
    go_enter Tryd.func45, Tryd.ntmps45
    go_wp2
    go_ret
    exact ⟨rfl, rfl⟩
  · rw [if_neg h1]
    have e1 : (code == 1) = false := by simpa using h1
    by_cases h2 : code = 2
    · subst h2
      rw [if_pos rfl]
      clear h1
      go_enter Tryd.func45, Tryd.ntmps45
      go_wp2
      go_ret
      exact ⟨rfl, rfl⟩
    · rw [if_neg h2]
      have e2 : (code == 2) = false := by simpa using h2
      clear h1 h2
      go_enter Tryd.func45, Tryd.ntmps45
      go_wp2
      go_ret
      exact ⟨rfl, rfl⟩
/-- what is due -/
def digL (id : Int) (word : ByteArray) (v : List UInt8) : List UInt8 := mdBytes (mdOver (mdPad (respL id word v)) ((mdPad (respL id word v)).length / 64))
theorem digL_length (id : Int) (word : ByteArray) (v : List UInt8) : (digL id word v).length = 16 := by simp [digL, mdBytes]
theorem list16' (l : List UInt8) (h : l.length = 16) : ∃ d0 d1 d2 d3 d4 d5 d6 d7 d8 d9 d10 d11 d12 d13 d14 d15, l = [d0, d1, d2, d3, d4, d5, d6, d7, d8, d9, d10, d11, d12, d13, d14, d15] := by
  match l, h with
  | [d0, d1, d2, d3, d4, d5, d6, d7, d8, d9, d10, d11, d12, d13, d14, d15], _ => exact ⟨_, _, _, _, _, _, _, _, _, _, _, _, _, _, _, _, rfl⟩
theorem resp_dig (id : Int) (x : ByteArray) (A : Option Addr) (n c B : Nat) (l : List UInt8) (w : World) (h0 : 0 ≤ id) (h1 : id ≤ 255) (hr : Rd w B A n l) (hB : B ≤ w.heap.size) (hnil : A = none → c = 0) (hm : n ≤ 35184372088832) (hx : x.size ≤ 35184372088832) (hK : TabK w) (hS : TabS w) :
    Calls Tryd.prog 34 #[.int .i64 id, .string x, .slice A n c] w fun e w' => e = .returned (.tuple #[.agg ((digL id x l).map cellOf).toArray, .int .i64 0]) ∧ Below w.heap.size w w' := by
  have h := resp_ok id x A n c B l w h0 h1 hr hB hnil hm hx hK hS
  rw [partB_bytes] at h
  exact h
theorem wdS_size {ss : List Sec} {cl sv : ByteArray} : (wdS ss (bst ss cl sv)).size ≤ 64 := by
  unfold wdS
  cases ho : bst ss cl sv with
  | none => exact Nat.zero_le _
  | some i =>
    unfold bst at ho
    split at ho
    · cases ho
    · obtain ⟨p, _, hp⟩ := List.exists_of_findSome?_eq_some ho
      obtain ⟨x, hx, _, _, hr⟩ := fst_lt hp
      simp only [Option.bind_some, hx]
      unfold rightE at hr
      split at hr
      · cases hr
      · split at hr
        · cases hr
        · rename_i h1 h2
          rcases Nat.eq_zero_or_pos x.wd.size with h | h
          · omega
          · cases hn : nameB x.wd
            · exact absurd ⟨h, hn⟩ h2
            · simp [nameB] at hn
              exact hn.2.1
/-- whatever finds -/
def FindsC (fv : Value) (ss : List Sec) (W : World) : Prop := ∀ W', Below W.heap.size W W' → ∀ cl sv : ByteArray, cl.size ≤ maxLen → sv.size ≤ maxLen → Calls Tryd.prog 107 #[fv, .string cl, .string sv] W' (WordR W' ss (bst ss cl sv))
def srvOf (remote : ByteArray) (l : List UInt8) : ByteArray := if remote.size = 0 then rvS l else remote
noncomputable def asE (id : Int) (l : List UInt8) (name remote : ByteArray) (ss : List Sec) : Int := if rvE id l ≠ 0 then rvE id l else if nameB name = false then 60 else if wdB ss (bst ss name (srvOf remote l)) = false then 5 else 0
noncomputable def asL (id : Int) (l : List UInt8) (name remote : ByteArray) (ss : List Sec) : List UInt8 := mkL (digL id (wdS ss (bst ss name (srvOf remote l))) (rvV l)) name
theorem rvE_id {id : Int} {l : List UInt8} (h : rvE id l = 0) : 0 ≤ id ∧ id ≤ 255 := by
  unfold rvE at h
  cases hi : idB id
  · rw [hi] at h; simp at h
  · simpa [idB] using hi
theorem aanswer_any (code id : Int) (A : Option Addr) (n c B : Nat) (l : List UInt8) (name remote : ByteArray) (fv : Value) (ss : List Sec) (w : World) (hr : Rd w B A n l) (hB : B ≤ w.heap.size) (hn : n ≤ 140737488355328) (hnm : name.size ≤ maxLen) (hrm : remote.size ≤ maxLen) (hF : FindsC fv ss w) (hK : TabK w) (hS : TabS w) :
    Calls Tryd.prog 93 #[.agg #[.int .i64 code, .int .i64 id, .slice A n c], .string name, .string remote, fv] w (PktZ w 2 id (asL id l name remote ss) (asE id l name remote ss)) := by
  obtain ⟨V, hV⟩ : ∃ V, (w.alloc (.cells #[.int .i64 code, .int .i64 id, .slice A n c] 116)).alloc (.cells #[.int .i64 0, .int .i64 0, .slice none 0 0] 24) = V := ⟨_, rfl⟩
  have bV : Below w.heap.size w V := by rw [← hV]; exact ((Below.refl _ _).alloc (Nat.le_refl _) _).alloc (by simp) _
  have zV : V.heap.size = w.heap.size + 2 := by rw [← hV]; simp
  have h0 : Blk V w.heap.size 116 [.int .i64 code, .int .i64 id, .slice A n c] := by
    rw [← hV]
    exact (Below.heap_alloc _ _ _ (by simp)).trans (heap_alloc_new w _)
  have h1 : Blk V (w.heap.size + 1) 24 [.int .i64 0, .int .i64 0, .slice none 0 0] := by
    rw [← hV]
    have h := heap_alloc_new (w.alloc (.cells #[.int .i64 code, .int .i64 id, .slice A n c] 116)) (.cells #[.int .i64 0, .int .i64 0, .slice none 0 0] 24)
    rw [World.size_alloc] at h
    exact h
  have x0 := h0.cell 0
  have x1 := h0.cell 1
  have x2 := h0.cell 2
  have HV := Lib.hid hV
  have RD := read_any code id A n c B l V (hr.below (bV.mono hB)) (Nat.le_trans hB bV.size) hn
  have NM := Lib.hid (fun W => name_any name W hnm)
  -- a refusal
  have FB : ∀ W er, Below w.heap.size w W → Blk W (w.heap.size + 1) 24 [.int .i64 0, .int .i64 0, .slice none 0 0] → asE id l name remote ss = er → er ≠ 0 → PktZ w 2 id (asL id l name remote ss) (asE id l name remote ss) (.returned (.tuple #[.agg #[.int .i64 0, .int .i64 0, .slice none 0 0], .int .i64 er])) (((W.setCell ⟨w.heap.size + 1, 0, none⟩ (.int .i64 0)).setCell ⟨w.heap.size + 1, 1, none⟩ (.int .i64 0)).setCell ⟨w.heap.size + 1, 2, none⟩ (.slice none 0 0)) := fun W er hb hk he h0 => by
    rw [he]
    exact pktZ_no h0 (below_row hb (gset3 _ _ _ _ _) (by omega))
  have FBH := Lib.hid FB
  by_cases hre : rvE id l = 0
  case neg =>
    have he : asE id l name remote ss = rvE id l := if_pos hre
    have C : Hid (Calls Tryd.prog 106 #[.agg #[.int .i64 code, .int .i64 id, .slice A n c]] V fun e w1 => ∃ er : Int, e = .returned (.tuple #[.slice none 0 0, .string ⟨#[]⟩, .int .i64 er]) ∧ (er != 0) = true ∧ Blk w1 (w.heap.size + 1) 24 [.int .i64 0, .int .i64 0, .slice none 0 0] ∧
        PktZ w 2 id (asL id l name remote ss) (asE id l name remote ss) (.returned (.tuple #[.agg #[.int .i64 0, .int .i64 0, .slice none 0 0], .int .i64 er])) (((w1.setCell ⟨w.heap.size + 1, 0, none⟩ (.int .i64 0)).setCell ⟨w.heap.size + 1, 1, none⟩ (.int .i64 0)).setCell ⟨w.heap.size + 1, 2, none⟩ (.slice none 0 0))) := by
      refine RD.mono ?_
      rintro e w1 ⟨b1, hh⟩
      obtain ⟨-, rfl⟩ := hh.resolve_right (fun h => hre h.1)
      have k1 := past_same h1 b1
      exact ⟨_, rfl, by simpa using hre, k1, FB w1 _ (step_to bV b1) k1 he hre⟩
    clear FBH FB RD bV zV h0 h1 hV hr hB hn hF hre he hK hS
    go_enter Tryd.func93, Tryd.ntmps93
    go_wp2_with (first
      | (rw [HV.out])
      | (go_at_call 106; ((with_reducible refine C.out.mono ?_); rintro e w1 ⟨er, rfl, e1, k1, f1⟩; have r0 := k1.cell 0; have r1 := k1.cell 1; have r2 := k1.cell 2; have g0 := k1.frozen 0; have g1 := k1.frozen 1; have g2 := k1.frozen 2; have lr := Blk.lt k1; have K1 := Lib.hid k1; have F1 := Lib.hid f1; clear f1 k1)))
    have hb4 := blk3 (x := .int .i64 0) (y := .int .i64 0) (z := .slice none 0 0) K1.out
    have p0 := hb4.cell 0
    have p1 := hb4.cell 1
    have p2 := hb4.cell 2
    exact bodyPost_ret (v := .tuple #[.agg #[.int .i64 0, .int .i64 0, .slice none 0 0], .int .i64 er]) (by simp [results, Tryd.results93, go_sem, p0, p1, p2]) rfl F1.out
  obtain ⟨i0, i1⟩ := rvE_id hre
  have RDok : Calls Tryd.prog 106 #[.agg #[.int .i64 code, .int .i64 id, .slice A n c]] V fun e w1 => ∃ D k d, e = .returned (.tuple #[.slice D k d, .string (rvS l), .int .i64 0]) ∧ Below V.heap.size V w1 ∧ Own w1 V.heap.size (.slice D k d) (rvV l) := by
    refine RD.mono ?_
    rintro e w1 ⟨b1, hh⟩
    obtain ⟨-, D, k, d, rfl, o1⟩ := hh.resolve_left (fun h => h.1 hre)
    exact ⟨D, k, d, rfl, b1, o1⟩
  cases hb : nameB name
  case false =>
    have he : asE id l name remote ss = 60 := by unfold asE; rw [if_neg (by rw [hre]; simp), if_pos hb]
    have C : Hid (Calls Tryd.prog 106 #[.agg #[.int .i64 code, .int .i64 id, .slice A n c]] V fun e w1 => ∃ D k d, e = .returned (.tuple #[.slice D k d, .string (rvS l), .int .i64 0]) ∧ Blk w1 (w.heap.size + 1) 24 [.int .i64 0, .int .i64 0, .slice none 0 0] ∧
        PktZ w 2 id (asL id l name remote ss) (asE id l name remote ss) (.returned (.tuple #[.agg #[.int .i64 0, .int .i64 0, .slice none 0 0], .int .i64 60])) (((w1.setCell ⟨w.heap.size + 1, 0, none⟩ (.int .i64 0)).setCell ⟨w.heap.size + 1, 1, none⟩ (.int .i64 0)).setCell ⟨w.heap.size + 1, 2, none⟩ (.slice none 0 0))) := by
      refine RDok.mono ?_
      rintro e w1 ⟨D, k, d, rfl, b1, o1⟩
      have k1 := past_same h1 b1
      exact ⟨_, _, _, rfl, k1, FB w1 _ (step_to bV b1) k1 he (by decide)⟩
    rw [hb] at NM
    clear FBH FB RD RDok bV zV h0 h1 hV hr hB hn hF hre he hK hS hb
    go_enter Tryd.func93, Tryd.ntmps93
    go_wp2_with (first
      | (rw [HV.out])
      | (go_at_call 106; ((with_reducible refine C.out.mono ?_); rintro e w1 ⟨D, k, d, rfl, k1, f1⟩; have r0 := k1.cell 0; have r1 := k1.cell 1; have r2 := k1.cell 2; have g0 := k1.frozen 0; have g1 := k1.frozen 1; have g2 := k1.frozen 2; have lr := Blk.lt k1; have K1 := Lib.hid k1; have F1 := Lib.hid f1; clear f1 k1))
      | (go_at_call 43; ((with_reducible refine (NM.out _).mono ?_); rintro e w' ⟨rfl, rfl⟩)))
    have hb4 := blk3 (x := .int .i64 0) (y := .int .i64 0) (z := .slice none 0 0) K1.out
    have p0 := hb4.cell 0
    have p1 := hb4.cell 1
    have p2 := hb4.cell 2
    exact bodyPost_ret (v := .tuple #[.agg #[.int .i64 0, .int .i64 0, .slice none 0 0], .int .i64 60]) (by simp [results, Tryd.results93, go_sem, p0, p1, p2]) rfl F1.out
  rw [hb] at NM
  have hrs : (rvS l).size ≤ maxLen := by
    unfold rvS
    rw [strOf_size, List.length_drop]
    have := hr.1
    unfold maxLen
    omega
  obtain ⟨srv, hsrv⟩ : ∃ srv, srvOf remote l = srv := ⟨_, rfl⟩
  have hsz : srv.size ≤ maxLen := by
    rw [← hsrv]
    unfold srvOf
    split
    · exact hrs
    · exact hrm
  obtain ⟨s0, hs0⟩ : ∃ s0, rvS l = s0 := ⟨_, rfl⟩
  have hrt : (remote.toList.isEmpty = true ∧ srv = s0) ∨ (remote.toList.isEmpty = false ∧ srv = remote) := by
    rw [← hsrv, ← hs0]
    unfold srvOf
    rcases Nat.eq_zero_or_pos remote.size with h | h
    · exact .inl ⟨str_nil h, by rw [if_pos h]⟩
    · exact .inr ⟨str_ne h, by rw [if_neg (by omega)]⟩
  have hnm64 : name.size ≤ 64 := by simp [nameB] at hb; exact hb.2.1
  rw [hs0] at RDok
  -- behind what is read: the word
  have WC : Calls Tryd.prog 106 #[.agg #[.int .i64 code, .int .i64 id, .slice A n c]] V fun e w1 => ∃ D k d, e = .returned (.tuple #[.slice D k d, .string s0, .int .i64 0]) ∧
      Calls Tryd.prog 107 #[fv, .string name, .string srv] w1 fun e w2 => e = .returned (.tuple #[.string (wdS ss (bst ss name srv)), .bool (wdB ss (bst ss name srv))]) ∧ Below w.heap.size w w2 ∧ Below V.heap.size V w2 ∧ Own w2 V.heap.size (.slice D k d) (rvV l) := by
    refine RDok.mono ?_
    rintro e w1 ⟨D, k, d, rfl, b1, o1⟩
    refine ⟨D, k, d, rfl, (hF w1 (step_to bV b1) name srv hnm hsz).mono ?_⟩
    rintro e w2 ⟨rfl, b2⟩
    exact ⟨rfl, step_to (step_to bV b1) b2, step_to b1 b2, o1.later b2⟩
  cases hwb : wdB ss (bst ss name srv)
  case false =>
    have he : asE id l name remote ss = 5 := by unfold asE; rw [if_neg (by rw [hre]; simp), if_neg (by rw [hb]; simp), hsrv, if_pos hwb]
    have C : Hid (Calls Tryd.prog 106 #[.agg #[.int .i64 code, .int .i64 id, .slice A n c]] V fun e w1 => ∃ D k d, e = .returned (.tuple #[.slice D k d, .string s0, .int .i64 0]) ∧
        Calls Tryd.prog 107 #[fv, .string name, .string srv] w1 fun e w2 => ∃ wd, e = .returned (.tuple #[.string wd, .bool false]) ∧ Blk w2 (w.heap.size + 1) 24 [.int .i64 0, .int .i64 0, .slice none 0 0] ∧
        PktZ w 2 id (asL id l name remote ss) (asE id l name remote ss) (.returned (.tuple #[.agg #[.int .i64 0, .int .i64 0, .slice none 0 0], .int .i64 5])) (((w2.setCell ⟨w.heap.size + 1, 0, none⟩ (.int .i64 0)).setCell ⟨w.heap.size + 1, 1, none⟩ (.int .i64 0)).setCell ⟨w.heap.size + 1, 2, none⟩ (.slice none 0 0))) := by
      refine WC.mono ?_
      rintro e w1 ⟨D, k, d, rfl, hw⟩
      refine ⟨D, k, d, rfl, hw.mono ?_⟩
      rintro e w2 ⟨rfl, b2, b2', o2⟩
      have k1 := past_same h1 b2'
      exact ⟨_, by rw [hwb], k1, FB w2 _ b2 k1 he (by decide)⟩
    clear FBH FB RD RDok WC bV zV h0 h1 hV hr hB hn hF hre he hK hS hb hwb hsz hrs hs0 hsrv hnm64
    rcases hrt with ⟨hr1, rfl⟩ | ⟨hr1, rfl⟩
    all_goals
      go_enter Tryd.func93, Tryd.ntmps93
      go_wp2_with (first
        | (rw [HV.out])
        | (go_at_call 106; ((with_reducible refine C.out.mono ?_); rintro e w1 ⟨D, k, d, rfl, n1⟩; have C1 := Lib.hid n1; clear n1 C))
        | (go_at_call 43; ((with_reducible refine (NM.out _).mono ?_); rintro e w' ⟨rfl, rfl⟩))
        | (go_at_call 107; ((with_reducible refine C1.out.mono ?_); rintro e w2 ⟨wd, rfl, k1, f1⟩; have r0 := k1.cell 0; have r1 := k1.cell 1; have r2 := k1.cell 2; have g0 := k1.frozen 0; have g1 := k1.frozen 1; have g2 := k1.frozen 2; have lr := Blk.lt k1; have K1 := Lib.hid k1; have F1 := Lib.hid f1; clear f1 k1)))
      have hb4 := blk3 (x := .int .i64 0) (y := .int .i64 0) (z := .slice none 0 0) K1.out
      have p0 := hb4.cell 0
      have p1 := hb4.cell 1
      have p2 := hb4.cell 2
      exact bodyPost_ret (v := .tuple #[.agg #[.int .i64 0, .int .i64 0, .slice none 0 0], .int .i64 5]) (by simp [results, Tryd.results93, go_sem, p0, p1, p2]) rfl F1.out
  have he : asE id l name remote ss = 0 := by unfold asE; rw [if_neg (by rw [hre]; simp), if_neg (by rw [hb]; simp), hsrv, if_neg (by rw [hwb]; simp)]
  have hwz : (wdS ss (bst ss name srv)).size ≤ 64 := wdS_size
  have hL : asL id l name remote ss = mkL (digL id (wdS ss (bst ss name srv)) (rvV l)) name := by unfold asL; rw [hsrv]
  obtain ⟨wd, hwd⟩ : ∃ wd, wdS ss (bst ss name srv) = wd := ⟨_, rfl⟩
  rw [hwd] at WC hL hwz
  rw [hwb] at WC
  rw [he, hL]
  have hD := digL_length id wd (rvV l)
  have hvl : (rvV l).length ≤ 255 := by
    unfold rvV
    rw [List.length_take]
    have := rvN_lt l
    omega
  obtain ⟨dg, hdg⟩ : ∃ dg, digL id wd (rvV l) = dg := ⟨_, rfl⟩
  rw [hdg] at hD ⊢
  obtain ⟨d0, d1, d2, d3, d4, d5, d6, d7, d8, d9, d10, d11, d12, d13, d14, d15, rfl⟩ := list16' dg hD
  have mk0 : mkE 2 id 16 name = 0 := by
    unfold mkE
    have : idB id = true := by simp [idB]; omega
    rw [if_neg (by rw [this]; simp), if_neg (by omega), if_neg (by rw [hb]; simp)]
  have C : Hid (Calls Tryd.prog 106 #[.agg #[.int .i64 code, .int .i64 id, .slice A n c]] V fun e w1 => ∃ D k d, e = .returned (.tuple #[.slice D k d, .string s0, .int .i64 0]) ∧
      Calls Tryd.prog 107 #[fv, .string name, .string srv] w1 fun e w2 => e = .returned (.tuple #[.string wd, .bool true]) ∧ Blk w2 w.heap.size 116 [.int .i64 code, .int .i64 id, .slice A n c] ∧
        Calls Tryd.prog 108 #[.agg #[.int .i64 code, .int .i64 id, .slice A n c]] w2 fun e w3 => e = .returned (.int .i64 id) ∧
          Calls Tryd.prog 34 #[.int .i64 id, .string wd, .slice D k d] w3 fun e w4 => e = .returned (.tuple #[.agg #[.int .u8 (d0.toNat : Int), .int .u8 (d1.toNat : Int), .int .u8 (d2.toNat : Int), .int .u8 (d3.toNat : Int), .int .u8 (d4.toNat : Int), .int .u8 (d5.toNat : Int), .int .u8 (d6.toNat : Int), .int .u8 (d7.toNat : Int), .int .u8 (d8.toNat : Int), .int .u8 (d9.toNat : Int), .int .u8 (d10.toNat : Int), .int .u8 (d11.toNat : Int), .int .u8 (d12.toNat : Int), .int .u8 (d13.toNat : Int), .int .u8 (d14.toNat : Int), .int .u8 (d15.toNat : Int)], .int .i64 0]) ∧ ∃ V15, w4.alloc (.cells #[.int .u8 (d0.toNat : Int), .int .u8 (d1.toNat : Int), .int .u8 (d2.toNat : Int), .int .u8 (d3.toNat : Int), .int .u8 (d4.toNat : Int), .int .u8 (d5.toNat : Int), .int .u8 (d6.toNat : Int), .int .u8 (d7.toNat : Int), .int .u8 (d8.toNat : Int), .int .u8 (d9.toNat : Int), .int .u8 (d10.toNat : Int), .int .u8 (d11.toNat : Int), .int .u8 (d12.toNat : Int), .int .u8 (d13.toNat : Int), .int .u8 (d14.toNat : Int), .int .u8 (d15.toNat : Int)] 63) = V15 ∧ Blk V15 w.heap.size 116 [.int .i64 code, .int .i64 id, .slice A n c] ∧
            Calls Tryd.prog 108 #[.agg #[.int .i64 code, .int .i64 id, .slice A n c]] V15.drew fun e w5 => e = .returned (.int .i64 id) ∧ Blk w5 w.heap.size 116 [.int .i64 code, .int .i64 id, .slice A n c] ∧
              Calls Tryd.prog 9 #[.int .i64 2, .int .i64 id, .slice (some ⟨w4.heap.size, 0, none⟩) 16 16, .string name] w5 fun e w6 => ∃ D' k' d', e = .returned (.tuple #[.agg #[.int .i64 2, .int .i64 id, .slice D' k' d'], .int .i64 0]) ∧ Blk w6 w.heap.size 116 [.int .i64 code, .int .i64 id, .slice A n c] ∧ Blk w6 (w.heap.size + 1) 24 [.int .i64 0, .int .i64 0, .slice none 0 0] ∧
                PktZ w 2 id (mkL [d0, d1, d2, d3, d4, d5, d6, d7, d8, d9, d10, d11, d12, d13, d14, d15] name) 0 (.returned (.tuple #[.agg #[.int .i64 2, .int .i64 id, .slice D' k' d'], .int .i64 0])) (((w6.setCell ⟨w.heap.size + 1, 0, none⟩ (.int .i64 2)).setCell ⟨w.heap.size + 1, 1, none⟩ (.int .i64 id)).setCell ⟨w.heap.size + 1, 2, none⟩ (.slice D' k' d'))) := by
    refine WC.mono ?_
    rintro e w1 ⟨D, k, d, rfl, hw⟩
    refine ⟨D, k, d, rfl, hw.mono ?_⟩
    rintro e w2 ⟨rfl, b2, b2', o2⟩
    have k2 := past_same h0 b2'
    refine ⟨rfl, k2, (vid_any code id _ w2).mono ?_⟩
    rintro e w3 ⟨rfl, rfl⟩
    have b3 := (Below.refl w2.heap.size w2).alloc (Nat.le_refl _) (.cells #[.int .i64 code, .int .i64 id, .slice A n c] 114)
    obtain ⟨w3, hw3⟩ : ∃ w3, w2.alloc (.cells #[.int .i64 code, .int .i64 id, .slice A n c] 114) = w3 := ⟨_, rfl⟩
    rw [hw3] at b3 ⊢
    have o3 := o2.later b3
    have BW3 := step_to b2 b3
    have BV3 := step_to b2' b3
    have hrd : Rd w3 w3.heap.size D k (rvV l) ∧ (D = none → d = 0) ∧ k ≤ 255 := by
      have hk : ∃ A' c', Value.slice D k d = .slice A' (rvV l).length c' ∧ Rd w3 w3.heap.size A' (rvV l).length (rvV l) ∧ (A' = none → c' = 0) := by
        rcases o3.form with ⟨e, h⟩ | ⟨g', cap, e, _⟩
        · exact ⟨none, 0, by rw [e, h]; rfl, by rw [h]; exact Rd.nil, fun _ => rfl⟩
        · have o3' := o3
          rw [e] at o3'
          have := o3'.rd rfl _ (Nat.le_refl _)
          rw [List.take_length] at this
          exact ⟨_, _, e, this, fun e => by cases e⟩
      obtain ⟨A', c', e, h1, h2⟩ := hk
      injection e with e1 e2 e3
      subst e1 e2 e3
      exact ⟨h1, h2, hvl⟩
    have hRs := resp_dig id wd D k d w3.heap.size (rvV l) w3 i0 i1 hrd.1 (Nat.le_refl _) hrd.2.1 (by omega) (by omega) (hK.kept BW3) (hS.kept BW3)
    rw [hdg] at hRs
    refine ⟨rfl, hRs.mono ?_⟩
    rintro e w4 ⟨rfl, b4⟩
    refine ⟨rfl, ?_⟩
    obtain ⟨V15, h15⟩ : ∃ V15, w4.alloc (.cells #[.int .u8 (d0.toNat : Int), .int .u8 (d1.toNat : Int), .int .u8 (d2.toNat : Int), .int .u8 (d3.toNat : Int), .int .u8 (d4.toNat : Int), .int .u8 (d5.toNat : Int), .int .u8 (d6.toNat : Int), .int .u8 (d7.toNat : Int), .int .u8 (d8.toNat : Int), .int .u8 (d9.toNat : Int), .int .u8 (d10.toNat : Int), .int .u8 (d11.toNat : Int), .int .u8 (d12.toNat : Int), .int .u8 (d13.toNat : Int), .int .u8 (d14.toNat : Int), .int .u8 (d15.toNat : Int)] 63) = V15 := ⟨_, rfl⟩
    have b15 : Below w4.heap.size w4 V15 := by rw [← h15]; exact (Below.refl _ _).alloc (Nat.le_refl _) _
    have n15 : Blk V15 w4.heap.size 63 ([d0, d1, d2, d3, d4, d5, d6, d7, d8, d9, d10, d11, d12, d13, d14, d15].map cellOf) := by rw [← h15]; exact heap_alloc_new w4 _
    have k15 : Blk V15 w.heap.size 116 _ := past_same (past_same (past_same k2 b3) b4) b15
    have r15 : Rd V15 V15.heap.size (some ⟨w4.heap.size, 0, none⟩) 16 [d0, d1, d2, d3, d4, d5, d6, d7, d8, d9, d10, d11, d12, d13, d14, d15] := by
      refine ⟨rfl, fun _ => ⟨w4.heap.size, 0, rfl, Blk.lt n15, fun j hj => ?_⟩⟩
      rw [Nat.zero_add, n15.cell, cells_at _ j (by simpa using hj)]
    have BW15 := step_to (step_to BW3 b4) b15
    have BV15 := step_to (step_to BV3 b4) b15
    refine ⟨V15, h15, k15, (vid_any code id _ V15.drew).mono ?_⟩
    rintro e w5 ⟨rfl, hw5⟩
    have b5 : Below V15.heap.size V15 w5 := by rw [hw5]; exact (below_drewS (Below.refl V15.heap.size V15) 1).alloc (Nat.le_refl _) _
    refine ⟨rfl, past_same k15 b5, ?_⟩
    have MK := make_any 2 id (some ⟨w4.heap.size, 0, none⟩) 16 16 V15.heap.size [d0, d1, d2, d3, d4, d5, d6, d7, d8, d9, d10, d11, d12, d13, d14, d15] name w5 (r15.below b5) b5.size (fun e => by cases e) (by omega) hnm
    rw [mk0] at MK
    refine MK.mono ?_
    rintro e w6 ⟨b6, D', k', d', rfl, o6⟩
    have k6 := past_same (past_same h1 BV15) (step_to b5 b6)
    have gg := gset3 w6 (w.heap.size + 1) (.int .i64 2) (.int .i64 id) (.slice D' k' d')
    have BW6 := step_to (step_to BW15 b5) b6
    have z5 := (step_to BV15 b5).size
    refine ⟨D', k', d', rfl, past_same (past_same k15 b5) b6, k6, below_row BW6 gg (by omega), D', k', d', rfl, ?_⟩
    have hne : (Value.slice D' k' d').ownBlock = none ∨ (Value.slice D' k' d').ownBlock ≠ some (w.heap.size + 1) := .inr fun e => by
      have := (o6.block _ e).1
      omega
    have h6 := o6.grown gg hne
    refine ⟨h6.1, ?_⟩
    rcases h6.2 with h | ⟨g', cap', cur, e1, e2, e3⟩
    · exact .inl h
    · exact .inr ⟨g', cap', cur, e1, by omega, e3⟩
  clear FBH FB RD RDok WC bV zV h0 h1 hV hr hB hn hF hre he hK hS hb hwb hsz hrs hs0 hsrv hnm64 hwz hL hwd hD hvl hdg mk0 i0 i1
  rcases hrt with ⟨hr1, rfl⟩ | ⟨hr1, rfl⟩
  all_goals
    go_enter Tryd.func93, Tryd.ntmps93
    go_upto_region 14 with (first
      | (rw [HV.out])
      | (go_at_call 106; ((with_reducible refine C.out.mono ?_); rintro e w1 ⟨D, k, d, rfl, n1⟩; have C1 := Lib.hid n1; clear n1 C))
      | (go_at_call 43; ((with_reducible refine (NM.out _).mono ?_); rintro e w' ⟨rfl, rfl⟩))
      | (go_at_call 107; ((with_reducible refine C1.out.mono ?_); rintro e w2 ⟨rfl, k1, n1⟩; have u0 := k1.cell 0; have u1 := k1.cell 1; have u2 := k1.cell 2; have C2 := Lib.hid n1; clear n1 k1 C1))
      | (go_at_call 108; ((with_reducible refine C2.out.mono ?_); rintro e w3 ⟨rfl, n1⟩; have C3 := Lib.hid n1; clear n1 C2))
      | (go_at_call 34; ((with_reducible refine C3.out.mono ?_); rintro e w4 ⟨rfl, V15, h15, k1, n1⟩; have H15 := Lib.hid h15; have v0 := k1.cell 0; have v1 := k1.cell 1; have v2 := k1.cell 2; have C4 := Lib.hid n1; clear n1 k1 C3 h15))
      | (rw [H15.out]))
    go_region_held3 (fun w' => w'.cell? ⟨w.heap.size, 0, none⟩ = some (.int .i64 code) ∧ w'.cell? ⟨w.heap.size, 1, none⟩ = some (.int .i64 id) ∧ w'.cell? ⟨w.heap.size, 2, none⟩ = some (.slice A n c)) (go_keep) (first
      | (go_at_call 108; ((with_reducible refine C4.out.mono ?_); rintro e w5 ⟨rfl, k1, n1⟩; have y0 := k1.cell 0; have y1 := k1.cell 1; have y2 := k1.cell 2; have C5 := Lib.hid n1; clear n1 k1))
      | (go_at_call 9; ((with_reducible refine C5.out.mono ?_); rintro e w6 ⟨D', k', d', rfl, k0, k1, f1⟩; have c0 := k0.cell 0; have c1 := k0.cell 1; have c2 := k0.cell 2; clear k0; have r0 := k1.cell 0; have r1 := k1.cell 1; have r2 := k1.cell 2; have g0 := k1.frozen 0; have g1 := k1.frozen 1; have g2 := k1.frozen 2; have lr := Blk.lt k1; have K1 := Lib.hid k1; have F1 := Lib.hid f1; clear f1 k1)))
    all_goals
      go_wp2
      have hb4 := blk3 (x := .int .i64 2) (y := .int .i64 id) (z := .slice D' k' d') K1.out
      have p0 := hb4.cell 0
      have p1 := hb4.cell 1
      have p2 := hb4.cell 2
      exact bodyPost_ret (v := .tuple #[.agg #[.int .i64 2, .int .i64 id, .slice D' k' d'], .int .i64 0]) (by simp [results, Tryd.results93, go_sem, p0, p1, p2]) rfl F1.out
end Go.Proofs.YtnklamclcliddaaDoor
namespace Go.Proofs.YtnklamclcliddaaDoor
open Go.RowKit Go.Shelf
set_option maxRecDepth 100000
set_option maxHeartbeats 1000000
set_option linter.unusedSimpArgs false
set_option linter.unusedVariables false

theorem zero_asked (W : World) : (zeroValue 116).run Tryd.prog W = .ok (.agg #[.int .i64 0, .int .i64 0, .slice none 0 0]) W := by kernel_rfl
theorem zero_replied (W : World) : (zeroValue 117).run Tryd.prog W = .ok (.agg #[.int .i64 0, .int .i64 0, .slice none 0 0]) W := by kernel_rfl
theorem ta_asked (v : Value) (W : World) : (Instr.typeAssert (.iface 116 v) 78 116 true).run Tryd.prog W = .ok (.tuple #[v, .bool true]) W := by
  simp [Instr.typeAssert, run_underlying Tryd.underlying116, go_sem, Result.andThen]
theorem ta_replied (v : Value) (W : World) : (Instr.typeAssert (.iface 117 v) 78 117 true).run Tryd.prog W = .ok (.tuple #[v, .bool true]) W := by
  simp [Instr.typeAssert, run_underlying Tryd.underlying117, go_sem, Result.andThen]
theorem ta_asked_no (t : Nat) (ht : t ≠ 116) (v : Value) (W : World) : (Instr.typeAssert (.iface t v) 78 116 true).run Tryd.prog W = .ok (.tuple #[.agg #[.int .i64 0, .int .i64 0, .slice none 0 0], .bool false]) W := by
  simp [Instr.typeAssert, run_underlying Tryd.underlying116, go_sem, Result.andThen, ht, zero_asked]
theorem ta_replied_no (t : Nat) (ht : t ≠ 117) (v : Value) (W : World) : (Instr.typeAssert (.iface t v) 78 117 true).run Tryd.prog W = .ok (.tuple #[.agg #[.int .i64 0, .int .i64 0, .slice none 0 0], .bool false]) W := by
  simp [Instr.typeAssert, run_underlying Tryd.underlying117, go_sem, Result.andThen, ht, zero_replied]
noncomputable def anE (code id : Int) (l : List UInt8) (name remote : ByteArray) (ss : List Sec) : Int := if code ≠ 1 then 90 else asE id l name remote ss
theorem answer_any (code id : Int) (A : Option Addr) (n c B : Nat) (l : List UInt8) (name remote : ByteArray) (fv : Value) (ss : List Sec) (w : World) (hr : Rd w B A n l) (hB : B ≤ w.heap.size) (hn : n ≤ 140737488355328) (hnm : name.size ≤ maxLen) (hrm : remote.size ≤ maxLen) (hF : FindsC fv ss w) (hK : TabK w) (hS : TabS w) :
    Calls Tryd.prog 72 #[kindV code id (.slice A n c), .string name, .string remote, fv] w (PktZ w 2 id (asL id l name remote ss) (anE code id l name remote ss)) := by
  obtain ⟨V, hV⟩ : ∃ V, w.alloc (.cells #[.int .i64 0, .int .i64 0, .slice none 0 0] 24) = V := ⟨_, rfl⟩
  have bV : Below w.heap.size w V := by rw [← hV]; exact (Below.refl _ _).alloc (Nat.le_refl _) _
  have zV : V.heap.size = w.heap.size + 1 := by rw [← hV]; simp
  have h1 : Blk V w.heap.size 24 [.int .i64 0, .int .i64 0, .slice none 0 0] := by rw [← hV]; exact heap_alloc_new w _
  have HV := Lib.hid hV
  unfold anE kindV
  by_cases hc : code = 1
  · subst hc
    rw [if_pos rfl, if_neg (by simp)]
    obtain ⟨er, her⟩ : ∃ er, asE id l name remote ss = er := ⟨_, rfl⟩
    obtain ⟨L, hL⟩ : ∃ L, asL id l name remote ss = L := ⟨_, rfl⟩
    obtain ⟨U, hU⟩ : ∃ U, V.alloc (.cells #[.int .i64 1, .int .i64 id, .slice A n c] 116) = U := ⟨_, rfl⟩
    have bU : Below V.heap.size V U := by rw [← hU]; exact (Below.refl _ _).alloc (Nat.le_refl _) _
    have k0 : Blk U V.heap.size 116 [.int .i64 1, .int .i64 id, .slice A n c] := by rw [← hU]; exact heap_alloc_new V _
    have BU := step_to bV bU
    have AA := aanswer_any 1 id A n c B l name remote fv ss U (hr.below (BU.mono hB)) (Nat.le_trans hB BU.size) hn hnm hrm (fun W' hW' => hF W' (step_to BU hW')) (hK.kept BU) (hS.kept BU)
    rw [her, hL] at AA ⊢
    have C : Hid (Calls Tryd.prog 93 #[.agg #[.int .i64 1, .int .i64 id, .slice A n c], .string name, .string remote, fv] U fun e w1 => ∃ (C' I' : Int) (D : Option Addr) (k d : Nat), e = .returned (.tuple #[.agg #[.int .i64 C', .int .i64 I', .slice D k d], .int .i64 er]) ∧ Blk w1 w.heap.size 24 [.int .i64 0, .int .i64 0, .slice none 0 0] ∧
        PktZ w 2 id L er (.returned (.tuple #[.agg #[.int .i64 C', .int .i64 I', .slice D k d], .int .i64 er])) (((w1.setCell ⟨w.heap.size, 0, none⟩ (.int .i64 C')).setCell ⟨w.heap.size, 1, none⟩ (.int .i64 I')).setCell ⟨w.heap.size, 2, none⟩ (.slice D k d))) := by
      refine AA.mono ?_
      rintro e w1 ⟨b1, D, k, d, rfl, o1⟩
      have k1 := past_same (past_same h1 bU) b1
      have gg := gset3 w1 w.heap.size (.int .i64 (if er = 0 then 2 else 0)) (.int .i64 (if er = 0 then id else 0)) (.slice D k d)
      have BW1 := step_to BU b1
      refine ⟨_, _, _, _, _, rfl, k1, below_row BW1 gg (Nat.le_refl _), D, k, d, rfl, ?_⟩
      have zU := BU.size
      have hne : (Value.slice D k d).ownBlock = none ∨ (Value.slice D k d).ownBlock ≠ some w.heap.size := .inr fun e => by
        have := (o1.block _ e).1
        have := bU.size
        omega
      have h6 := o1.grown gg hne
      refine ⟨h6.1, ?_⟩
      rcases h6.2 with h | ⟨g', cap', cur, e1, e2, e3⟩
      · exact .inl h
      · exact .inr ⟨g', cap', cur, e1, by omega, e3⟩
    have TA := fun W => ta_asked (.agg #[.int .i64 1, .int .i64 id, .slice A n c]) W
    have HU := Lib.hid hU
    have u0 := k0.cell 0
    have u1 := k0.cell 1
    have u2 := k0.cell 2
    clear AA her hL hU bU k0 BU hV bV zV h1 hr hB hn hF hK hS
    go_enter Tryd.func72, Tryd.ntmps72
    go_wp2_with (first
      | (rw [HV.out])
      | (rw [HU.out])
      | (go_at_call 93; ((with_reducible refine C.out.mono ?_); rintro e w1 ⟨C', I', D, k, d, rfl, k1, f1⟩; have r0 := k1.cell 0; have r1 := k1.cell 1; have r2 := k1.cell 2; have g0 := k1.frozen 0; have g1 := k1.frozen 1; have g2 := k1.frozen 2; have lr := Blk.lt k1; have K1 := Lib.hid k1; have F1 := Lib.hid f1; clear f1 k1)))
    have hb4 := blk3 (x := .int .i64 C') (y := .int .i64 I') (z := .slice D k d) K1.out
    have p0 := hb4.cell 0
    have p1 := hb4.cell 1
    have p2 := hb4.cell 2
    exact bodyPost_ret (v := .tuple #[.agg #[.int .i64 C', .int .i64 I', .slice D k d], .int .i64 er]) (by simp [results, Tryd.results72, go_sem, p0, p1, p2]) rfl F1.out
  · rw [if_neg hc, if_pos hc]
    have r0 := h1.cell 0
    have r1 := h1.cell 1
    have r2 := h1.cell 2
    have g0 := h1.frozen 0
    have g1 := h1.frozen 1
    have g2 := h1.frozen 2
    have lr := Blk.lt h1
    have hb4 := blk3 (x := .int .i64 0) (y := .int .i64 0) (z := .slice none 0 0) h1
    have p0 := hb4.cell 0
    have p1 := hb4.cell 1
    have p2 := hb4.cell 2
    have F := Lib.hid (pktZ_no (code := 2) (id := id) (l := asL id l name remote ss) (err := 90) (by decide) (below_row bV (gset3 V w.heap.size (.int .i64 0) (.int .i64 0) (.slice none 0 0)) (Nat.le_refl _)))
    clear hV bV zV h1 hb4 hr hB hn hF hK hS
    by_cases h2 : code = 2
    · rw [if_pos h2]
      have TA := fun W => ta_asked_no 117 (by decide) (.agg #[.int .i64 code, .int .i64 id, .slice A n c]) W
      clear hc h2
      go_enter Tryd.func72, Tryd.ntmps72
      go_wp2_with (rw [HV.out])
      exact bodyPost_ret (v := .tuple #[.agg #[.int .i64 0, .int .i64 0, .slice none 0 0], .int .i64 90]) (by simp [results, Tryd.results72, go_sem, p0, p1, p2]) rfl F.out
    · rw [if_neg h2]
      have TA := fun W => ta_asked_no 119 (by decide) (.agg #[]) W
      clear hc h2
      go_enter Tryd.func72, Tryd.ntmps72
      go_wp2_with (rw [HV.out])
      exact bodyPost_ret (v := .tuple #[.agg #[.int .i64 0, .int .i64 0, .slice none 0 0], .int .i64 90]) (by simp [results, Tryd.results72, go_sem, p0, p1, p2]) rfl F.out
end Go.Proofs.YtnklamclcliddaaDoor
namespace Go.Proofs.YtnklamclcliddaaDoor
open Go.RowKit Go.Shelf
set_option maxRecDepth 100000
set_option maxHeartbeats 1000000
set_option linter.unusedSimpArgs false
set_option linter.unusedVariables false

theorem own_rd {w : World} {base n c : Nat} {A : Option Addr} {l : List UInt8} (h : Own w base (.slice A n c) l) : Rd w w.heap.size A n l ∧ n ≤ c ∧ (A = none → c = 0) := by
  rcases h.2 with ⟨e, h0⟩ | ⟨g, cap, cur, e, hb, hg, hc, hm, _⟩
  · injection e with e1 e2 e3
    subst e1; subst e2; subst e3
    rw [List.eq_nil_of_length_eq_zero h0]
    exact ⟨Rd.nil, Nat.le_refl _, fun _ => rfl⟩
  · injection e with e1 e2 e3
    subst e1; subst e2; subst e3
    refine ⟨?_, hc, fun h => by cases h⟩
    have r := Own.rd h rfl l.length (Nat.le_refl _)
    rwa [List.take_length] at r
noncomputable def pvE (ci : Int) (l : List UInt8) (ri : Int) (rl : List UInt8) (name : ByteArray) (ss : List Sec) : Int :=
  if rvE ci l ≠ 0 then rvE ci l else if rvE ri rl ≠ 0 then rvE ri rl else if ci ≠ ri then 201 else if wdB ss (bst ss (rvS rl) name) = false then 5 else
    if rvV rl ≠ digL ci (wdS ss (bst ss (rvS rl) name)) (rvV l) then 120 else 0
noncomputable def pvS (ci : Int) (l : List UInt8) (ri : Int) (rl : List UInt8) (name : ByteArray) (ss : List Sec) : ByteArray := if pvE ci l ri rl name ss = 0 then rvS rl else ⟨#[]⟩
def PvR (w : World) (s : ByteArray) (er : Int) (e : Ending) (w' : World) : Prop := e = .returned (.tuple #[.string s, .int .i64 er]) ∧ Below w.heap.size w w'
theorem rvS_size {id : Int} {l : List UInt8} (h : rvE id l = 0) : (rvS l).size ≤ 64 := by
  unfold rvE at h
  split at h
  · cases h
  · split at h
    · cases h
    · split at h
      · cases h
      · split at h
        · cases h
        · rename_i h4
          cases hb : nameB (rvS l)
          · exact absurd hb h4
          · simp [nameB] at hb
            exact hb.2.1
theorem proves_any (rc ri : Int) (E : Option Addr) (m me : Nat) (rl : List UInt8) (cc ci : Int) (A : Option Addr) (n c B : Nat) (l : List UInt8) (name : ByteArray) (fv : Value) (ss : List Sec) (w : World) (hq : Rd w B A n l) (hr : Rd w B E m rl) (hB : B ≤ w.heap.size) (hn : n ≤ 140737488355328) (hm : m ≤ 140737488355328) (hnm : name.size ≤ maxLen) (hF : FindsC fv ss w) (hK : TabK w) (hS : TabS w) :
    Calls Tryd.prog 122 #[.agg #[.int .i64 rc, .int .i64 ri, .slice E m me], .agg #[.int .i64 cc, .int .i64 ci, .slice A n c], .string name, fv] w (PvR w (pvS ci l ri rl name ss) (pvE ci l ri rl name ss)) := by
  obtain ⟨V, hV⟩ : ∃ V, (w.alloc (.cells #[.int .i64 rc, .int .i64 ri, .slice E m me] 117)).alloc (.cells #[.int .i64 cc, .int .i64 ci, .slice A n c] 116) = V := ⟨_, rfl⟩
  have bV : Below w.heap.size w V := by rw [← hV]; exact ((Below.refl _ _).alloc (Nat.le_refl _) _).alloc (by simp) _
  have zV : V.heap.size = w.heap.size + 2 := by rw [← hV]; simp
  have h0 : Blk V w.heap.size 117 [.int .i64 rc, .int .i64 ri, .slice E m me] := by
    rw [← hV]
    exact (Below.heap_alloc _ _ _ (by simp)).trans (heap_alloc_new w _)
  have h1 : Blk V (w.heap.size + 1) 116 [.int .i64 cc, .int .i64 ci, .slice A n c] := by
    rw [← hV]
    have h := heap_alloc_new (w.alloc (.cells #[.int .i64 rc, .int .i64 ri, .slice E m me] 117)) (.cells #[.int .i64 cc, .int .i64 ci, .slice A n c] 116)
    rw [World.size_alloc] at h
    exact h
  have x0 := h1.cell 0
  have x1 := h1.cell 1
  have x2 := h1.cell 2
  have HV := Lib.hid hV
  have RQ := read_any cc ci A n c B l V (hq.below (bV.mono hB)) (Nat.le_trans hB bV.size) hn
  have RR := fun W (b : Below V.heap.size V W) => read_any rc ri E m me B rl W ((hr.below (bV.mono hB)).below (b.mono (Nat.le_trans hB bV.size))) (Nat.le_trans (Nat.le_trans hB bV.size) b.size) hm
  by_cases hre : rvE ci l = 0
  case neg =>
    have he : pvE ci l ri rl name ss = rvE ci l := if_pos hre
    have hs : pvS ci l ri rl name ss = ⟨#[]⟩ := if_neg (by rw [he]; exact hre)
    rw [he, hs]
    obtain ⟨er, her⟩ : ∃ er, rvE ci l = er := ⟨_, rfl⟩
    have C : Hid (Calls Tryd.prog 106 #[.agg #[.int .i64 cc, .int .i64 ci, .slice A n c]] V fun e w1 => e = .returned (.tuple #[.slice none 0 0, .string ⟨#[]⟩, .int .i64 er]) ∧ Below w.heap.size w w1) := by
      refine RQ.mono ?_
      rintro e w1 ⟨b1, hh⟩
      obtain ⟨-, rfl⟩ := hh.resolve_right (fun h => hre h.1)
      exact ⟨by rw [her], step_to bV b1⟩
    rw [her] at hre ⊢
    have e1 : (er != 0) = true := by simpa using hre
    clear RQ RR bV zV h0 h1 hV hq hr hB hn hm hF hre he hK hS hs her
    go_enter Tryd.func122, Tryd.ntmps122
    go_wp2_with (first
      | (rw [HV.out])
      | (go_at_call 106; ((with_reducible refine C.out.mono ?_); rintro e w1 ⟨rfl, b1⟩; have B1 := Lib.hid b1; clear b1)))
    exact bodyPost_ret (v := .tuple #[.string ⟨#[]⟩, .int .i64 er]) (by simp [results, Tryd.results122, go_sem]) rfl ⟨rfl, B1.out⟩
  obtain ⟨i0, i1⟩ := rvE_id hre
  have RQok : Calls Tryd.prog 106 #[.agg #[.int .i64 cc, .int .i64 ci, .slice A n c]] V fun e w1 => ∃ D k d, e = .returned (.tuple #[.slice D k d, .string (rvS l), .int .i64 0]) ∧ Below V.heap.size V w1 ∧ Own w1 V.heap.size (.slice D k d) (rvV l) := by
    refine RQ.mono ?_
    rintro e w1 ⟨b1, hh⟩
    obtain ⟨-, D, k, d, rfl, o1⟩ := hh.resolve_left (fun h => h.1 hre)
    exact ⟨D, k, d, rfl, b1, o1⟩
  by_cases hrr : rvE ri rl = 0
  case neg =>
    have he : pvE ci l ri rl name ss = rvE ri rl := by unfold pvE; rw [if_neg (by rw [hre]; simp), if_pos hrr]
    have hs : pvS ci l ri rl name ss = ⟨#[]⟩ := if_neg (by rw [he]; exact hrr)
    rw [he, hs]
    obtain ⟨er, her⟩ : ∃ er, rvE ri rl = er := ⟨_, rfl⟩
    have C : Hid (Calls Tryd.prog 106 #[.agg #[.int .i64 cc, .int .i64 ci, .slice A n c]] V fun e w1 => ∃ D k d, e = .returned (.tuple #[.slice D k d, .string (rvS l), .int .i64 0]) ∧ Blk w1 w.heap.size 117 [.int .i64 rc, .int .i64 ri, .slice E m me] ∧
        Calls Tryd.prog 106 #[.agg #[.int .i64 rc, .int .i64 ri, .slice E m me]] w1 fun e w2 => e = .returned (.tuple #[.slice none 0 0, .string ⟨#[]⟩, .int .i64 er]) ∧ Below w.heap.size w w2) := by
      refine RQok.mono ?_
      rintro e w1 ⟨D, k, d, rfl, b1, -⟩
      refine ⟨D, k, d, rfl, past_same h0 b1, (RR w1 b1).mono ?_⟩
      rintro e w2 ⟨b2, hh⟩
      obtain ⟨-, rfl⟩ := hh.resolve_right (fun h => hrr h.1)
      exact ⟨by rw [her], step_to (step_to bV b1) b2⟩
    rw [her] at hrr ⊢
    have e1 : (er != 0) = true := by simpa using hrr
    clear RQ RQok RR bV zV h0 h1 hV hq hr hB hn hm hF hre hrr he hK hS hs her
    go_enter Tryd.func122, Tryd.ntmps122
    go_wp2_with (first
      | (rw [HV.out])
      | (go_at_call 106; ((with_reducible refine C.out.mono ?_); rintro e w1 ⟨D, k, d, rfl, k1, n1⟩; have u0 := k1.cell 0; have u1 := k1.cell 1; have u2 := k1.cell 2; have C1 := Lib.hid n1; clear k1 n1 C))
      | (go_at_call 106; ((with_reducible refine C1.out.mono ?_); rintro e w2 ⟨rfl, b2⟩; have B2 := Lib.hid b2; clear b2)))
    exact bodyPost_ret (v := .tuple #[.string ⟨#[]⟩, .int .i64 er]) (by simp [results, Tryd.results122, go_sem]) rfl ⟨rfl, B2.out⟩
  have hrs := rvS_size hrr
  -- both are read
  have RB : Calls Tryd.prog 106 #[.agg #[.int .i64 cc, .int .i64 ci, .slice A n c]] V fun e w1 => ∃ D k d, e = .returned (.tuple #[.slice D k d, .string (rvS l), .int .i64 0]) ∧ Blk w1 w.heap.size 117 [.int .i64 rc, .int .i64 ri, .slice E m me] ∧
        Calls Tryd.prog 106 #[.agg #[.int .i64 rc, .int .i64 ri, .slice E m me]] w1 fun e w2 => ∃ G j g, e = .returned (.tuple #[.slice G j g, .string (rvS rl), .int .i64 0]) ∧ Below V.heap.size V w2 ∧ Own w2 V.heap.size (.slice D k d) (rvV l) ∧ Own w2 V.heap.size (.slice G j g) (rvV rl) := by
    refine RQok.mono ?_
    rintro e w1 ⟨D, k, d, rfl, b1, o1⟩
    refine ⟨D, k, d, rfl, past_same h0 b1, (RR w1 b1).mono ?_⟩
    rintro e w2 ⟨b2, hh⟩
    obtain ⟨-, G, j, g, rfl, o2⟩ := hh.resolve_left (fun h => h.1 hrr)
    refine ⟨G, j, g, rfl, step_to b1 b2, o1.later b2, o2.1, ?_⟩
    rcases o2.2 with h | ⟨g', cap', cur, e1, e2, e3⟩
    · exact .inl h
    · exact .inr ⟨g', cap', cur, e1, by have := b1.size; omega, e3⟩
  -- identifiers, in whatever order
  have IDG : ∀ w2, Below V.heap.size V w2 → ∀ (a b : Int) (s : Value) W, Below w2.heap.size w2 W → Calls Tryd.prog 108 #[.agg #[.int .i64 a, .int .i64 b, s]] W fun e w' => e = .returned (.int .i64 b) ∧ Below w2.heap.size w2 w' ∧ Blk w' w.heap.size 117 [.int .i64 rc, .int .i64 ri, .slice E m me] ∧ Blk w' (w.heap.size + 1) 116 [.int .i64 cc, .int .i64 ci, .slice A n c] := fun w2 b2 a b s W hW => by
    refine (vid_any a b s W).mono ?_
    rintro e w' ⟨rfl, rfl⟩
    have b3 := (Below.refl W.heap.size W).alloc (Nat.le_refl _) (.cells #[.int .i64 a, .int .i64 b, s] 114)
    exact ⟨rfl, step_to hW b3, past_same (past_same (past_same h0 b2) hW) b3, past_same (past_same (past_same h1 b2) hW) b3⟩
  by_cases hid : ci = ri
  case neg =>
    have he : pvE ci l ri rl name ss = 201 := by unfold pvE; rw [if_neg (by rw [hre]; simp), if_neg (by rw [hrr]; simp), if_pos hid]
    have hs : pvS ci l ri rl name ss = ⟨#[]⟩ := if_neg (by rw [he]; decide)
    rw [he, hs]
    have e1 : (ci != ri) = true := by simpa using hid
    have C : Hid (Calls Tryd.prog 106 #[.agg #[.int .i64 cc, .int .i64 ci, .slice A n c]] V fun e w1 => ∃ D k d, e = .returned (.tuple #[.slice D k d, .string (rvS l), .int .i64 0]) ∧ Blk w1 w.heap.size 117 [.int .i64 rc, .int .i64 ri, .slice E m me] ∧
        Calls Tryd.prog 106 #[.agg #[.int .i64 rc, .int .i64 ri, .slice E m me]] w1 fun e w2 => ∃ G j g, e = .returned (.tuple #[.slice G j g, .string (rvS rl), .int .i64 0]) ∧ Blk w2 w.heap.size 117 [.int .i64 rc, .int .i64 ri, .slice E m me] ∧ Blk w2 (w.heap.size + 1) 116 [.int .i64 cc, .int .i64 ci, .slice A n c] ∧ Below w2.heap.size w2 w2.drew ∧ Below w.heap.size w w2 ∧
          ∀ (a b : Int) (s : Value) W, Below w2.heap.size w2 W → Calls Tryd.prog 108 #[.agg #[.int .i64 a, .int .i64 b, s]] W fun e w' => e = .returned (.int .i64 b) ∧ Below w2.heap.size w2 w' ∧ Blk w' w.heap.size 117 [.int .i64 rc, .int .i64 ri, .slice E m me] ∧ Blk w' (w.heap.size + 1) 116 [.int .i64 cc, .int .i64 ci, .slice A n c]) := by
      refine RB.mono ?_
      rintro e w1 ⟨D, k, d, rfl, k1, h2⟩
      refine ⟨D, k, d, rfl, k1, h2.mono ?_⟩
      rintro e w2 ⟨G, j, g, rfl, b2, -, -⟩
      exact ⟨G, j, g, rfl, past_same h0 b2, past_same h1 b2, below_drewS (Below.refl _ _) 1, step_to bV b2, IDG w2 b2⟩
    clear RQ RQok RR RB IDG bV zV h0 h1 hV hq hr hB hn hm hF hre hrr he hK hS hs hid hrs
    go_enter Tryd.func122, Tryd.ntmps122
    go_upto_region 7 with (first
      | (rw [HV.out])
      | (go_at_call 106; ((with_reducible refine C.out.mono ?_); rintro e w1 ⟨D, k, d, rfl, k1, n1⟩; have u0 := k1.cell 0; have u1 := k1.cell 1; have u2 := k1.cell 2; have C1 := Lib.hid n1; clear k1 n1 C))
      | (go_at_call 106; ((with_reducible refine C1.out.mono ?_); rintro e w2 ⟨G, j, g, rfl, k1, k2, ha, hb, n1⟩; have v0 := k1.cell 0; have v1 := k1.cell 1; have v2 := k1.cell 2; have y0 := k2.cell 0; have y1 := k2.cell 1; have y2 := k2.cell 2; have HA := Lib.hid ha; have HB := Lib.hid hb; have C2 := Lib.hid n1; clear k1 k2 ha hb n1 C1)))
    go_region_held3 (fun w' => w'.cell? ⟨w.heap.size, 0, none⟩ = some (.int .i64 rc) ∧ w'.cell? ⟨w.heap.size, 1, none⟩ = some (.int .i64 ri) ∧ w'.cell? ⟨w.heap.size, 2, none⟩ = some (.slice E m me) ∧ w'.cell? ⟨w.heap.size + 1, 0, none⟩ = some (.int .i64 cc) ∧ w'.cell? ⟨w.heap.size + 1, 1, none⟩ = some (.int .i64 ci) ∧ w'.cell? ⟨w.heap.size + 1, 2, none⟩ = some (.slice A n c)) (go_keep) (first
      | (go_at_call 108; ((with_reducible refine (C2.out _ _ _ _ HA.out).mono ?_); rintro e w3 ⟨rfl, hb3, k1, k2⟩; have s0 := k1.cell 0; have s1 := k1.cell 1; have s2 := k1.cell 2; have t0 := k2.cell 0; have t1 := k2.cell 1; have t2 := k2.cell 2; have HB3 := Lib.hid hb3; clear k1 k2 hb3))
      | (go_at_call 108; ((with_reducible refine (C2.out _ _ _ _ HB3.out).mono ?_); rintro e w4 ⟨rfl, hb4, k1, k2⟩; have q0 := k1.cell 0; have q1 := k1.cell 1; have q2 := k1.cell 2; have r0 := k2.cell 0; have r1 := k2.cell 1; have r2 := k2.cell 2; have HB4 := Lib.hid hb4; clear k1 k2 hb4)))
    all_goals
      go_wp2
      exact bodyPost_ret (v := .tuple #[.string ⟨#[]⟩, .int .i64 201]) (by simp [results, Tryd.results122, go_sem]) rfl ⟨rfl, step_to HB.out HB4.out⟩
  subst hid
  have hwz : (wdS ss (bst ss (rvS rl) name)).size ≤ 64 := wdS_size
  obtain ⟨wd, hwd⟩ : ∃ wd, wdS ss (bst ss (rvS rl) name) = wd := ⟨_, rfl⟩
  obtain ⟨wb, hwb⟩ : ∃ wb, wdB ss (bst ss (rvS rl) name) = wb := ⟨_, rfl⟩
  obtain ⟨rs, hrse⟩ : ∃ rs, rvS rl = rs := ⟨_, rfl⟩
  have WDC : ∀ W, Below w.heap.size w W → Calls Tryd.prog 107 #[fv, .string rs, .string name] W fun e w' => e = .returned (.tuple #[.string wd, .bool wb]) ∧ Below W.heap.size W w' := fun W hW => by
    refine (hF W hW rs name (by rw [← hrse]; unfold maxLen; omega) hnm).mono ?_
    rintro e w' ⟨rfl, b⟩
    exact ⟨by rw [← hrse, hwd, hwb], b⟩
  rw [hrse] at RB
  rw [hwd] at hwz
  have hvl : (rvV l).length ≤ 255 := by
    unfold rvV
    rw [List.length_take]
    have := rvN_lt l
    omega
  cases wb
  case false =>
    have he : pvE ci l ci rl name ss = 5 := by unfold pvE; rw [if_neg (by rw [hre]; simp), if_neg (by rw [hrr]; simp), if_neg (by simp), if_pos hwb]
    have hs : pvS ci l ci rl name ss = ⟨#[]⟩ := if_neg (by rw [he]; decide)
    rw [he, hs]
    have C : Hid (Calls Tryd.prog 106 #[.agg #[.int .i64 cc, .int .i64 ci, .slice A n c]] V fun e w1 => ∃ D k d, e = .returned (.tuple #[.slice D k d, .string (rvS l), .int .i64 0]) ∧ Blk w1 w.heap.size 117 [.int .i64 rc, .int .i64 ci, .slice E m me] ∧
        Calls Tryd.prog 106 #[.agg #[.int .i64 rc, .int .i64 ci, .slice E m me]] w1 fun e w2 => ∃ G j g, e = .returned (.tuple #[.slice G j g, .string rs, .int .i64 0]) ∧ Blk w2 w.heap.size 117 [.int .i64 rc, .int .i64 ci, .slice E m me] ∧ Blk w2 (w.heap.size + 1) 116 [.int .i64 cc, .int .i64 ci, .slice A n c] ∧ Below w2.heap.size w2 w2.drew ∧ Below w.heap.size w w2 ∧
          (∀ (a b : Int) (s : Value) W, Below w2.heap.size w2 W → Calls Tryd.prog 108 #[.agg #[.int .i64 a, .int .i64 b, s]] W fun e w' => e = .returned (.int .i64 b) ∧ Below w2.heap.size w2 w' ∧ Blk w' w.heap.size 117 [.int .i64 rc, .int .i64 ci, .slice E m me] ∧ Blk w' (w.heap.size + 1) 116 [.int .i64 cc, .int .i64 ci, .slice A n c]) ∧
          ∀ W, Below w2.heap.size w2 W → Calls Tryd.prog 107 #[fv, .string rs, .string name] W fun e w' => e = .returned (.tuple #[.string wd, .bool false]) ∧ Below w.heap.size w w') := by
      refine RB.mono ?_
      rintro e w1 ⟨D, k, d, rfl, k1, h2⟩
      refine ⟨D, k, d, rfl, k1, h2.mono ?_⟩
      rintro e w2 ⟨G, j, g, rfl, b2, -, -⟩
      refine ⟨G, j, g, rfl, past_same h0 b2, past_same h1 b2, below_drewS (Below.refl _ _) 1, step_to bV b2, IDG w2 b2, fun W hW => ?_⟩
      exact (WDC W (step_to (step_to bV b2) hW)).mono fun e w' hh => ⟨hh.1, step_to (step_to (step_to bV b2) hW) hh.2⟩
    clear RQ RQok RR RB IDG WDC bV zV h0 h1 hV hq hr hB hn hm hF hre hrr he hK hS hs hrs hwd hwb hrse hwz hvl i0 i1
    go_enter Tryd.func122, Tryd.ntmps122
    go_upto_region 7 with (first
      | (rw [HV.out])
      | (go_at_call 106; ((with_reducible refine C.out.mono ?_); rintro e w1 ⟨D, k, d, rfl, k1, n1⟩; have u0 := k1.cell 0; have u1 := k1.cell 1; have u2 := k1.cell 2; have C1 := Lib.hid n1; clear k1 n1 C))
      | (go_at_call 106; ((with_reducible refine C1.out.mono ?_); rintro e w2 ⟨G, j, g, rfl, k1, k2, ha, hb, n1, n2⟩; have v0 := k1.cell 0; have v1 := k1.cell 1; have v2 := k1.cell 2; have y0 := k2.cell 0; have y1 := k2.cell 1; have y2 := k2.cell 2; have HA := Lib.hid ha; have HB := Lib.hid hb; have C2 := Lib.hid n1; have C3 := Lib.hid n2; clear k1 k2 ha hb n1 n2 C1)))
    go_region_held3 (fun w' => w'.cell? ⟨w.heap.size, 0, none⟩ = some (.int .i64 rc) ∧ w'.cell? ⟨w.heap.size, 1, none⟩ = some (.int .i64 ci) ∧ w'.cell? ⟨w.heap.size, 2, none⟩ = some (.slice E m me) ∧ w'.cell? ⟨w.heap.size + 1, 0, none⟩ = some (.int .i64 cc) ∧ w'.cell? ⟨w.heap.size + 1, 1, none⟩ = some (.int .i64 ci) ∧ w'.cell? ⟨w.heap.size + 1, 2, none⟩ = some (.slice A n c)) (go_keep) (first
      | (go_at_call 108; ((with_reducible refine (C2.out _ _ _ _ HA.out).mono ?_); rintro e w3 ⟨rfl, hb3, k1, k2⟩; have s0 := k1.cell 0; have s1 := k1.cell 1; have s2 := k1.cell 2; have t0 := k2.cell 0; have t1 := k2.cell 1; have t2 := k2.cell 2; have HB3 := Lib.hid hb3; clear k1 k2 hb3))
      | (go_at_call 108; ((with_reducible refine (C2.out _ _ _ _ HB3.out).mono ?_); rintro e w4 ⟨rfl, hb4, k1, k2⟩; have q0 := k1.cell 0; have q1 := k1.cell 1; have q2 := k1.cell 2; have r0 := k2.cell 0; have r1 := k2.cell 1; have r2 := k2.cell 2; have HB4 := Lib.hid hb4; clear k1 k2 hb4)))
    all_goals
      go_wp2_with (go_at_call 107; ((with_reducible refine (C3.out _ HB4.out).mono ?_); rintro e w5 ⟨rfl, hb5⟩; have HB5 := Lib.hid hb5; clear hb5))
      exact bodyPost_ret (v := .tuple #[.string ⟨#[]⟩, .int .i64 5]) (by simp [results, Tryd.results122, go_sem]) rfl ⟨rfl, HB5.out⟩
  have hD := digL_length ci wd (rvV l)
  obtain ⟨dg, hdg⟩ : ∃ dg, digL ci wd (rvV l) = dg := ⟨_, rfl⟩
  have hpe : pvE ci l ci rl name ss = if rvV rl = dg then 0 else 120 := by
    unfold pvE
    rw [if_neg (by rw [hre]; simp), if_neg (by rw [hrr]; simp), if_neg (by simp), if_neg (by rw [hwb]; simp), hwd, hdg]
    by_cases h : rvV rl = dg
    · rw [if_neg (fun h2 => h2 h), if_pos h]
    · rw [if_pos h, if_neg h]
  rw [hdg] at hD
  obtain ⟨d0, d1, d2, d3, d4, d5, d6, d7, d8, d9, d10, d11, d12, d13, d14, d15, rfl⟩ := list16' dg hD
  obtain ⟨ok, hok⟩ : ∃ ok, decide (rvV rl = [d0, d1, d2, d3, d4, d5, d6, d7, d8, d9, d10, d11, d12, d13, d14, d15]) = ok := ⟨_, rfl⟩
  have C : Hid (Calls Tryd.prog 106 #[.agg #[.int .i64 cc, .int .i64 ci, .slice A n c]] V fun e w1 => ∃ D k d, e = .returned (.tuple #[.slice D k d, .string (rvS l), .int .i64 0]) ∧ Blk w1 w.heap.size 117 [.int .i64 rc, .int .i64 ci, .slice E m me] ∧
        Calls Tryd.prog 106 #[.agg #[.int .i64 rc, .int .i64 ci, .slice E m me]] w1 fun e w2 => ∃ G j g, e = .returned (.tuple #[.slice G j g, .string rs, .int .i64 0]) ∧ Blk w2 w.heap.size 117 [.int .i64 rc, .int .i64 ci, .slice E m me] ∧ Blk w2 (w.heap.size + 1) 116 [.int .i64 cc, .int .i64 ci, .slice A n c] ∧ Below w2.heap.size w2 w2.drew ∧ Below w.heap.size w w2 ∧
          (∀ (a b : Int) (s : Value) W, Below w2.heap.size w2 W → Calls Tryd.prog 108 #[.agg #[.int .i64 a, .int .i64 b, s]] W fun e w' => e = .returned (.int .i64 b) ∧ Below w2.heap.size w2 w' ∧ Blk w' w.heap.size 117 [.int .i64 rc, .int .i64 ci, .slice E m me] ∧ Blk w' (w.heap.size + 1) 116 [.int .i64 cc, .int .i64 ci, .slice A n c]) ∧
          ∀ W, Below w2.heap.size w2 W → Calls Tryd.prog 107 #[fv, .string rs, .string name] W fun e w5 => e = .returned (.tuple #[.string wd, .bool true]) ∧ Blk w5 (w.heap.size + 1) 116 [.int .i64 cc, .int .i64 ci, .slice A n c] ∧
            Calls Tryd.prog 108 #[.agg #[.int .i64 cc, .int .i64 ci, .slice A n c]] w5 fun e w6 => e = .returned (.int .i64 ci) ∧
              Calls Tryd.prog 34 #[.int .i64 ci, .string wd, .slice D k d] w6 fun e w7 => e = .returned (.tuple #[.agg #[.int .u8 (d0.toNat : Int), .int .u8 (d1.toNat : Int), .int .u8 (d2.toNat : Int), .int .u8 (d3.toNat : Int), .int .u8 (d4.toNat : Int), .int .u8 (d5.toNat : Int), .int .u8 (d6.toNat : Int), .int .u8 (d7.toNat : Int), .int .u8 (d8.toNat : Int), .int .u8 (d9.toNat : Int), .int .u8 (d10.toNat : Int), .int .u8 (d11.toNat : Int), .int .u8 (d12.toNat : Int), .int .u8 (d13.toNat : Int), .int .u8 (d14.toNat : Int), .int .u8 (d15.toNat : Int)], .int .i64 0]) ∧ ∃ V8, w7.alloc (.cells #[.int .u8 (d0.toNat : Int), .int .u8 (d1.toNat : Int), .int .u8 (d2.toNat : Int), .int .u8 (d3.toNat : Int), .int .u8 (d4.toNat : Int), .int .u8 (d5.toNat : Int), .int .u8 (d6.toNat : Int), .int .u8 (d7.toNat : Int), .int .u8 (d8.toNat : Int), .int .u8 (d9.toNat : Int), .int .u8 (d10.toNat : Int), .int .u8 (d11.toNat : Int), .int .u8 (d12.toNat : Int), .int .u8 (d13.toNat : Int), .int .u8 (d14.toNat : Int), .int .u8 (d15.toNat : Int)] 63) = V8 ∧
                Calls Tryd.prog 102 #[.slice G j g, .slice (some ⟨w7.heap.size, 0, none⟩) 16 16] V8 fun e w9 => e = .returned (.bool ok) ∧ Below w.heap.size w w9) := by
    refine RB.mono ?_
    rintro e w1 ⟨D, k, d, rfl, k1, h2⟩
    refine ⟨D, k, d, rfl, k1, h2.mono ?_⟩
    rintro e w2 ⟨G, j, g, rfl, b2, o2, o2'⟩
    refine ⟨G, j, g, rfl, past_same h0 b2, past_same h1 b2, below_drewS (Below.refl _ _) 1, step_to bV b2, IDG w2 b2, fun W hW => ?_⟩
    refine (WDC W (step_to (step_to bV b2) hW)).mono ?_
    rintro e w5 ⟨rfl, b5⟩
    have BW5 := step_to (step_to (step_to bV b2) hW) b5
    have B25 := step_to hW b5
    refine ⟨rfl, past_same (past_same h1 b2) B25, (vid_any cc ci _ w5).mono ?_⟩
    rintro e w6 ⟨rfl, hw6⟩
    have b6 : Below w5.heap.size w5 w6 := by rw [hw6]; exact (Below.refl _ _).alloc (Nat.le_refl _) _
    have BW6 := step_to BW5 b6
    have B26 := step_to B25 b6
    obtain ⟨r1, r2, r3⟩ := own_rd (o2.later B26)
    have hkk : k ≤ 255 := by have := r1.1; omega
    have hRs := resp_dig ci wd D k d w6.heap.size (rvV l) w6 i0 i1 r1 (Nat.le_refl _) r3 (by omega) (by omega) (hK.kept BW6) (hS.kept BW6)
    rw [hdg] at hRs
    refine ⟨rfl, hRs.mono ?_⟩
    rintro e w7 ⟨rfl, b7⟩
    refine ⟨rfl, ?_⟩
    obtain ⟨V8, h8⟩ : ∃ V8, w7.alloc (.cells #[.int .u8 (d0.toNat : Int), .int .u8 (d1.toNat : Int), .int .u8 (d2.toNat : Int), .int .u8 (d3.toNat : Int), .int .u8 (d4.toNat : Int), .int .u8 (d5.toNat : Int), .int .u8 (d6.toNat : Int), .int .u8 (d7.toNat : Int), .int .u8 (d8.toNat : Int), .int .u8 (d9.toNat : Int), .int .u8 (d10.toNat : Int), .int .u8 (d11.toNat : Int), .int .u8 (d12.toNat : Int), .int .u8 (d13.toNat : Int), .int .u8 (d14.toNat : Int), .int .u8 (d15.toNat : Int)] 63) = V8 := ⟨_, rfl⟩
    have b8 : Below w7.heap.size w7 V8 := by rw [← h8]; exact (Below.refl _ _).alloc (Nat.le_refl _) _
    have n8 : Blk V8 w7.heap.size 63 ([d0, d1, d2, d3, d4, d5, d6, d7, d8, d9, d10, d11, d12, d13, d14, d15].map cellOf) := by rw [← h8]; exact heap_alloc_new w7 _
    have r8 : Rd V8 V8.heap.size (some ⟨w7.heap.size, 0, none⟩) 16 [d0, d1, d2, d3, d4, d5, d6, d7, d8, d9, d10, d11, d12, d13, d14, d15] := by
      refine ⟨rfl, fun _ => ⟨w7.heap.size, 0, rfl, Blk.lt n8, fun j hj => ?_⟩⟩
      rw [Nat.zero_add, n8.cell, cells_at _ j (by simpa using hj)]
    obtain ⟨q1, q2, q3⟩ := own_rd (o2'.later (step_to (step_to B26 b7) b8))
    have hjj : j ≤ 255 := by
      have := q1.1
      have h9 : (rvV rl).length ≤ 255 := by
        unfold rvV
        rw [List.length_take]
        have := rvN_lt rl
        omega
      omega
    refine ⟨V8, h8, (equal_any G (some ⟨w7.heap.size, 0, none⟩) j 16 g 16 V8.heap.size (rvV rl) [d0, d1, d2, d3, d4, d5, d6, d7, d8, d9, d10, d11, d12, d13, d14, d15] V8 q1 r8 (by unfold maxLen; omega) (by unfold maxLen; omega)).mono ?_⟩
    rintro e w9 ⟨rfl, q, rfl⟩
    exact ⟨by rw [hok], below_drewS (step_to (step_to BW6 b7) b8) q⟩
  have RES : Hid (∀ W, Below w.heap.size w W → PvR w (pvS ci l ci rl name ss) (pvE ci l ci rl name ss) (.returned (.tuple #[.string (if ok then rs else ⟨#[]⟩), .int .i64 (if ok then 0 else 120)])) W) := fun W hW => by
    refine ⟨?_, hW⟩
    unfold pvS
    rw [hpe, hrse]
    cases ok
    · have h : ¬ rvV rl = [d0, d1, d2, d3, d4, d5, d6, d7, d8, d9, d10, d11, d12, d13, d14, d15] := by simpa using hok
      rw [if_neg h]
      rfl
    · have h : rvV rl = [d0, d1, d2, d3, d4, d5, d6, d7, d8, d9, d10, d11, d12, d13, d14, d15] := by simpa using hok
      rw [if_pos h]
      rfl
  clear RQ RQok RR RB IDG WDC bV zV h0 h1 hV hq hr hB hn hm hF hre hrr hK hS hrs hwd hwb hrse hwz hvl i0 i1 hD hdg hpe hok
  cases ok
  all_goals
    go_enter Tryd.func122, Tryd.ntmps122
    go_upto_region 7 with (first
      | (rw [HV.out])
      | (go_at_call 106; ((with_reducible refine C.out.mono ?_); rintro e w1 ⟨D, k, d, rfl, k1, n1⟩; have u0 := k1.cell 0; have u1 := k1.cell 1; have u2 := k1.cell 2; have C1 := Lib.hid n1; clear k1 n1 C))
      | (go_at_call 106; ((with_reducible refine C1.out.mono ?_); rintro e w2 ⟨G, j, g, rfl, k1, k2, ha, hb, n1, n2⟩; have v0 := k1.cell 0; have v1 := k1.cell 1; have v2 := k1.cell 2; have y0 := k2.cell 0; have y1 := k2.cell 1; have y2 := k2.cell 2; have HA := Lib.hid ha; have HB := Lib.hid hb; have C2 := Lib.hid n1; have C3 := Lib.hid n2; clear k1 k2 ha hb n1 n2 C1)))
    go_region_held3 (fun w' => w'.cell? ⟨w.heap.size, 0, none⟩ = some (.int .i64 rc) ∧ w'.cell? ⟨w.heap.size, 1, none⟩ = some (.int .i64 ci) ∧ w'.cell? ⟨w.heap.size, 2, none⟩ = some (.slice E m me) ∧ w'.cell? ⟨w.heap.size + 1, 0, none⟩ = some (.int .i64 cc) ∧ w'.cell? ⟨w.heap.size + 1, 1, none⟩ = some (.int .i64 ci) ∧ w'.cell? ⟨w.heap.size + 1, 2, none⟩ = some (.slice A n c)) (go_keep) (first
      | (go_at_call 108; ((with_reducible refine (C2.out _ _ _ _ HA.out).mono ?_); rintro e w3 ⟨rfl, hb3, k1, k2⟩; have s0 := k1.cell 0; have s1 := k1.cell 1; have s2 := k1.cell 2; have t0 := k2.cell 0; have t1 := k2.cell 1; have t2 := k2.cell 2; have HB3 := Lib.hid hb3; clear k1 k2 hb3))
      | (go_at_call 108; ((with_reducible refine (C2.out _ _ _ _ HB3.out).mono ?_); rintro e w4 ⟨rfl, hb4, k1, k2⟩; have q0 := k1.cell 0; have q1 := k1.cell 1; have q2 := k1.cell 2; have r0 := k2.cell 0; have r1 := k2.cell 1; have r2 := k2.cell 2; have HB4 := Lib.hid hb4; clear k1 k2 hb4)))
    all_goals
      go_wp2_with (first
        | (go_at_call 107; ((with_reducible refine (C3.out _ HB4.out).mono ?_); rintro e w5 ⟨rfl, k1, n1⟩; have z0 := k1.cell 0; have z1 := k1.cell 1; have z2 := k1.cell 2; have C5 := Lib.hid n1; clear k1 n1))
        | (go_at_call 108; ((with_reducible refine C5.out.mono ?_); rintro e w6 ⟨rfl, n1⟩; have C6 := Lib.hid n1; clear n1 C5))
        | (go_at_call 34; ((with_reducible refine C6.out.mono ?_); rintro e w7 ⟨rfl, V8, h8, n1⟩; have H8 := Lib.hid h8; have C7 := Lib.hid n1; clear n1 h8 C6))
        | (rw [H8.out])
        | (go_at_call 102; ((with_reducible refine C7.out.mono ?_); rintro e w9 ⟨rfl, n1⟩; have C9 := Lib.hid n1; clear n1 C7)))
      first
        | exact bodyPost_ret (v := .tuple #[.string ⟨#[]⟩, .int .i64 120]) (by simp [results, Tryd.results122, go_sem]) rfl (RES.out _ C9.out)
        | exact bodyPost_ret (v := .tuple #[.string rs, .int .i64 0]) (by simp [results, Tryd.results122, go_sem]) rfl (RES.out _ C9.out)
end Go.Proofs.YtnklamclcliddaaDoor
namespace Go.Proofs.YtnklamclcliddaaDoor
open Go.RowKit Go.Shelf
set_option maxRecDepth 100000
set_option maxHeartbeats 1000000
set_option linter.unusedSimpArgs false
set_option linter.unusedVariables false

noncomputable def hoE (cc ci : Int) (l : List UInt8) (rc ri : Int) (rl : List UInt8) (name : ByteArray) (ss : List Sec) : Int := if cc = 1 ∧ rc = 2 then pvE ci l ri rl name ss else 90
noncomputable def hoS (cc ci : Int) (l : List UInt8) (rc ri : Int) (rl : List UInt8) (name : ByteArray) (ss : List Sec) : ByteArray := if cc = 1 ∧ rc = 2 then pvS ci l ri rl name ss else ⟨#[]⟩
theorem holds_any (rc ri : Int) (E : Option Addr) (m me : Nat) (rl : List UInt8) (cc ci : Int) (A : Option Addr) (n c B : Nat) (l : List UInt8) (name : ByteArray) (fv : Value) (ss : List Sec) (w : World) (hq : Rd w B A n l) (hr : Rd w B E m rl) (hB : B ≤ w.heap.size) (hn : n ≤ 140737488355328) (hm : m ≤ 140737488355328) (hnm : name.size ≤ maxLen) (hF : FindsC fv ss w) (hK : TabK w) (hS : TabS w) :
    Calls Tryd.prog 118 #[kindV cc ci (.slice A n c), kindV rc ri (.slice E m me), .string name, fv] w (PvR w (hoS cc ci l rc ri rl name ss) (hoE cc ci l rc ri rl name ss)) := by
  by_cases h1 : cc = 1
  · subst h1
    by_cases h2 : rc = 2
    · subst h2
      have e1 : hoE 1 ci l 2 ri rl name ss = pvE ci l ri rl name ss := if_pos ⟨rfl, rfl⟩
      have e2 : hoS 1 ci l 2 ri rl name ss = pvS ci l ri rl name ss := if_pos ⟨rfl, rfl⟩
      rw [e1, e2]
      clear e1 e2
      obtain ⟨er, her⟩ : ∃ er, pvE ci l ri rl name ss = er := ⟨_, rfl⟩
      obtain ⟨s, hs⟩ : ∃ s, pvS ci l ri rl name ss = s := ⟨_, rfl⟩
      obtain ⟨V, hV⟩ : ∃ V, (w.alloc (.cells #[.int .i64 1, .int .i64 ci, .slice A n c] 116)).alloc (.cells #[.int .i64 2, .int .i64 ri, .slice E m me] 117) = V := ⟨_, rfl⟩
      have bV : Below w.heap.size w V := by rw [← hV]; exact ((Below.refl _ _).alloc (Nat.le_refl _) _).alloc (by simp) _
      have h0 : Blk V w.heap.size 116 [.int .i64 1, .int .i64 ci, .slice A n c] := by
        rw [← hV]
        exact (Below.heap_alloc _ _ _ (by simp)).trans (heap_alloc_new w _)
      have h1 : Blk V (w.heap.size + 1) 117 [.int .i64 2, .int .i64 ri, .slice E m me] := by
        rw [← hV]
        have h := heap_alloc_new (w.alloc (.cells #[.int .i64 1, .int .i64 ci, .slice A n c] 116)) (.cells #[.int .i64 2, .int .i64 ri, .slice E m me] 117)
        rw [World.size_alloc] at h
        exact h
      have x0 := h0.cell 0
      have x1 := h0.cell 1
      have x2 := h0.cell 2
      have y0 := h1.cell 0
      have y1 := h1.cell 1
      have y2 := h1.cell 2
      have HV := Lib.hid hV
      have PV := proves_any 2 ri E m me rl 1 ci A n c B l name fv ss V (hq.below (bV.mono hB)) (hr.below (bV.mono hB)) (Nat.le_trans hB bV.size) hn hm hnm (fun W' hW' => hF W' (step_to bV hW')) (hK.kept bV) (hS.kept bV)
      rw [her, hs] at PV ⊢
      have C : Hid (Calls Tryd.prog 122 #[.agg #[.int .i64 2, .int .i64 ri, .slice E m me], .agg #[.int .i64 1, .int .i64 ci, .slice A n c], .string name, fv] V fun e w' => e = .returned (.tuple #[.string s, .int .i64 er]) ∧ Below w.heap.size w w') := PV.mono fun e w' hh => ⟨hh.1, step_to bV hh.2⟩
      have T1 := fun W => ta_asked (.agg #[.int .i64 1, .int .i64 ci, .slice A n c]) W
      have T2 := fun W => ta_replied (.agg #[.int .i64 2, .int .i64 ri, .slice E m me]) W
      unfold kindV
      rw [if_pos rfl, if_neg (by decide), if_pos rfl]
      clear PV bV h0 h1 hV hq hr hB hn hm hF hK hS her hs
      go_enter Tryd.func118, Tryd.ntmps118
      go_wp2_with (first
        | (rw [HV.out])
        | (go_at_call 122; ((with_reducible refine C.out.mono ?_); rintro e w1 ⟨rfl, b1⟩; have B1 := Lib.hid b1; clear b1)))
      exact bodyPost_ret (v := .tuple #[.string s, .int .i64 er]) (by simp [results, Tryd.results118, go_sem]) rfl ⟨rfl, B1.out⟩
    · have e1 : hoE 1 ci l rc ri rl name ss = 90 := if_neg (fun h => h2 h.2)
      have e2 : hoS 1 ci l rc ri rl name ss = ⟨#[]⟩ := if_neg (fun h => h2 h.2)
      rw [e1, e2]
      have T1 := fun W => ta_asked (.agg #[.int .i64 1, .int .i64 ci, .slice A n c]) W
      have BV : Hid (Below w.heap.size w (w.alloc (.cells #[.int .i64 1, .int .i64 ci, .slice A n c] 116))) := (Below.refl _ _).alloc (Nat.le_refl _) _
      unfold kindV
      rw [if_pos rfl, if_neg h2]
      by_cases h3 : rc = 1
      · rw [if_pos h3]
        have T2 := fun W => ta_replied_no 116 (by decide) (.agg #[.int .i64 rc, .int .i64 ri, .slice E m me]) W
        clear e1 e2 hq hr hB hn hm hF hK hS h2 h3
        go_enter Tryd.func118, Tryd.ntmps118
        go_wp2
        exact bodyPost_ret (v := .tuple #[.string ⟨#[]⟩, .int .i64 90]) (by simp [results, Tryd.results118, go_sem]) rfl ⟨rfl, BV.out⟩
      · rw [if_neg h3]
        have T2 := fun W => ta_replied_no 119 (by decide) (.agg #[]) W
        clear e1 e2 hq hr hB hn hm hF hK hS h2 h3
        go_enter Tryd.func118, Tryd.ntmps118
        go_wp2
        exact bodyPost_ret (v := .tuple #[.string ⟨#[]⟩, .int .i64 90]) (by simp [results, Tryd.results118, go_sem]) rfl ⟨rfl, BV.out⟩
  · have e1 : hoE cc ci l rc ri rl name ss = 90 := if_neg (fun h => h1 h.1)
    have e2 : hoS cc ci l rc ri rl name ss = ⟨#[]⟩ := if_neg (fun h => h1 h.1)
    rw [e1, e2]
    obtain ⟨kv, hkv⟩ : ∃ kv, kindV rc ri (.slice E m me) = kv := ⟨_, rfl⟩
    rw [hkv]
    unfold kindV
    rw [if_neg h1]
    by_cases h3 : cc = 2
    · rw [if_pos h3]
      have T2 := fun W => ta_asked_no 117 (by decide) (.agg #[.int .i64 cc, .int .i64 ci, .slice A n c]) W
      clear e1 e2 hq hr hB hn hm hF hK hS h1 h3 hkv
      go_enter Tryd.func118, Tryd.ntmps118
      go_wp2
      exact bodyPost_ret (v := .tuple #[.string ⟨#[]⟩, .int .i64 90]) (by simp [results, Tryd.results118, go_sem]) rfl ⟨rfl, Below.refl _ _⟩
    · rw [if_neg h3]
      have T2 := fun W => ta_asked_no 119 (by decide) (.agg #[]) W
      clear e1 e2 hq hr hB hn hm hF hK hS h1 h3 hkv
      go_enter Tryd.func118, Tryd.ntmps118
      go_wp2
      exact bodyPost_ret (v := .tuple #[.string ⟨#[]⟩, .int .i64 90]) (by simp [results, Tryd.results118, go_sem]) rfl ⟨rfl, Below.refl _ _⟩
/-- a list as a finder -/
theorem finds_cl {W : World} {b n c B : Nat} {A : Option Addr} {ss : List Sec} (hb : Blk W b 49 [.slice A n c]) (h : SecRd W B A n ss) (hB : B ≤ W.heap.size) : FindsC (.func (.func 94) #[] #[.pointer (some ⟨b, 0, none⟩)]) ss W :=
  fun W' hW' cl sv hcl hsv => word_cl b A n c B ss cl sv W' (past_same hb hW') (h.below hW' hB) (Nat.le_trans hB hW'.size) hcl hsv
theorem canswer_any (code id : Int) (A : Option Addr) (n c B : Nat) (l : List UInt8) (name remote : ByteArray) (E : Option Addr) (m me BS : Nat) (ss : List Sec) (w : World) (hr : Rd w B A n l) (hB : B ≤ w.heap.size) (hn : n ≤ 140737488355328) (hnm : name.size ≤ maxLen) (hrm : remote.size ≤ maxLen) (hs : SecRd w BS E m ss) (hBS : BS ≤ w.heap.size) (hK : TabK w) (hS : TabS w) :
    Calls Tryd.prog 48 #[.agg #[.int .i64 code, .int .i64 id, .slice A n c], .string name, .string remote, .slice E m me] w (PktZ w 2 id (asL id l name remote ss) (anE code id l name remote ss)) := by
  obtain ⟨V, hV⟩ : ∃ V, (w.alloc (.cells #[.int .i64 code, .int .i64 id, .slice A n c] 24)).alloc (.cells #[.int .i64 0, .int .i64 0, .slice none 0 0] 24) = V := ⟨_, rfl⟩
  have bV : Below w.heap.size w V := by rw [← hV]; exact ((Below.refl _ _).alloc (Nat.le_refl _) _).alloc (by simp) _
  have h0 : Blk V w.heap.size 24 [.int .i64 code, .int .i64 id, .slice A n c] := by
    rw [← hV]
    exact (Below.heap_alloc _ _ _ (by simp)).trans (heap_alloc_new w _)
  have h1 : Blk V (w.heap.size + 1) 24 [.int .i64 0, .int .i64 0, .slice none 0 0] := by
    rw [← hV]
    have h := heap_alloc_new (w.alloc (.cells #[.int .i64 code, .int .i64 id, .slice A n c] 24)) (.cells #[.int .i64 0, .int .i64 0, .slice none 0 0] 24)
    rw [World.size_alloc] at h
    exact h
  have zV : w.heap.size + 1 < V.heap.size := Blk.lt h1
  have x0 := h0.cell 0
  have x1 := h0.cell 1
  have x2 := h0.cell 2
  have HV := Lib.hid hV
  obtain ⟨er, her⟩ : ∃ er, anE code id l name remote ss = er := ⟨_, rfl⟩
  obtain ⟨L, hL⟩ : ∃ L, asL id l name remote ss = L := ⟨_, rfl⟩
  have C : Hid (Calls Tryd.prog 45 #[.agg #[.int .i64 code, .int .i64 id, .slice A n c]] V fun e w1 => ∃ kv, e = .returned kv ∧
      Calls Tryd.prog 73 #[.slice E m me] w1 fun e w2 => ∃ fv, e = .returned fv ∧
        Calls Tryd.prog 72 #[kv, .string name, .string remote, fv] w2 fun e w3 => ∃ (C' I' : Int) (D : Option Addr) (k d : Nat), e = .returned (.tuple #[.agg #[.int .i64 C', .int .i64 I', .slice D k d], .int .i64 er]) ∧ Blk w3 (w.heap.size + 1) 24 [.int .i64 0, .int .i64 0, .slice none 0 0] ∧
          PktZ w 2 id L er (.returned (.tuple #[.agg #[.int .i64 C', .int .i64 I', .slice D k d], .int .i64 er])) (((w3.setCell ⟨w.heap.size + 1, 0, none⟩ (.int .i64 C')).setCell ⟨w.heap.size + 1, 1, none⟩ (.int .i64 I')).setCell ⟨w.heap.size + 1, 2, none⟩ (.slice D k d))) := by
    refine (kindOf_any code id A n c V).mono ?_
    rintro e w1 ⟨rfl, hw1⟩
    have b1 : Below V.heap.size V w1 := by rw [hw1]; exact (Below.refl _ _).alloc (Nat.le_refl _) _
    have B1 := step_to bV b1
    refine ⟨_, rfl, (among_any E m me w1).mono ?_⟩
    rintro e w2 ⟨rfl, hw2⟩
    have b2 : Below w1.heap.size w1 w2 := by rw [hw2]; exact (Below.refl _ _).alloc (Nat.le_refl _) _
    have n2 : Blk w2 w1.heap.size 49 [.slice E m me] := by rw [hw2]; exact heap_alloc_new w1 _
    have B2 := step_to B1 b2
    have AN := answer_any code id A n c B l name remote _ ss w2 (hr.below (B2.mono hB)) (Nat.le_trans hB B2.size) hn hnm hrm (finds_cl n2 (hs.below B2 hBS) (Nat.le_trans hBS B2.size)) (hK.kept B2) (hS.kept B2)
    rw [her, hL] at AN
    refine ⟨_, rfl, AN.mono ?_⟩
    rintro e w3 ⟨b3, D, k, d, rfl, o3⟩
    have BV3 := step_to (step_to b1 b2) b3
    have k3 := past_same h1 BV3
    have gg := gset3 w3 (w.heap.size + 1) (.int .i64 (if er = 0 then 2 else 0)) (.int .i64 (if er = 0 then id else 0)) (.slice D k d)
    refine ⟨_, _, _, _, _, rfl, k3, below_row (step_to B2 b3) gg (by omega), D, k, d, rfl, ?_⟩
    have hne : (Value.slice D k d).ownBlock = none ∨ (Value.slice D k d).ownBlock ≠ some (w.heap.size + 1) := .inr fun e => by
      have := (o3.block _ e).1
      have := (step_to b1 b2).size
      omega
    have h6 := o3.grown gg hne
    refine ⟨h6.1, ?_⟩
    rcases h6.2 with h | ⟨g', cap', cur, e1, e2, e3⟩
    · exact .inl h
    · exact .inr ⟨g', cap', cur, e1, by have := B2.size; omega, e3⟩
  rw [her, hL]
  clear bV h0 h1 hV hr hB hn hs hBS hK hS her hL hnm hrm
  go_enter Tryd.func48, Tryd.ntmps48
  go_wp2_with (first
    | (rw [HV.out])
    | (go_at_call 45; ((with_reducible refine C.out.mono ?_); rintro e w1 ⟨kv, rfl, n1⟩; have C1 := Lib.hid n1; clear n1 C))
    | (go_at_call 73; ((with_reducible refine C1.out.mono ?_); rintro e w2 ⟨fv, rfl, n1⟩; have C2 := Lib.hid n1; clear n1 C1))
    | (go_at_call 72; ((with_reducible refine C2.out.mono ?_); rintro e w3 ⟨C', I', D, k, d, rfl, k1, f1⟩; have r0 := k1.cell 0; have r1 := k1.cell 1; have r2 := k1.cell 2; have g0 := k1.frozen 0; have g1 := k1.frozen 1; have g2 := k1.frozen 2; have lr := Blk.lt k1; have K1 := Lib.hid k1; have F1 := Lib.hid f1; clear f1 k1)))
  have hb4 := blk3 (x := .int .i64 C') (y := .int .i64 I') (z := .slice D k d) K1.out
  have p0 := hb4.cell 0
  have p1 := hb4.cell 1
  have p2 := hb4.cell 2
  exact bodyPost_ret (v := .tuple #[.agg #[.int .i64 C', .int .i64 I', .slice D k d], .int .i64 er]) (by simp [results, Tryd.results48, go_sem, p0, p1, p2]) rfl F1.out
end Go.Proofs.YtnklamclcliddaaDoor
