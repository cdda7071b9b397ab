/-
  chap.Make, tetherref13.Make (written by gen_chmake.py).
  chap: (valued).read, (valued).id, kindOf.
  tetherref13.Make (written by gen_chrmake.py).
  tetherref13.Read (written by gen_chrread.py).
-/
import Derived.Test.YtnklamclcliddaaDoorMdAppStr
import Derived.Test.YtnklamclcliddaaDoorMdConv
import Derived.Test.YtnklamclcliddaaDoorSeBase
import Derived.Test.YtnklamclcliddaaDoorRest
import Derived.Test.YtnklamclcliddaaDoorNewReader
import Derived.Outline
import Derived.Test.YtnklamclcliddaaDoorSliceFrom
import Derived.BigQuiet
namespace Go.Proofs.YtnklamclcliddaaDoor
open Go.RowKit Go.Shelf
set_option maxRecDepth 100000
set_option maxHeartbeats 800000
set_option linter.unusedSimpArgs false
set_option linter.unusedVariables false

def idB (id : Int) : Bool := decide (0 ≤ id) && decide (id ≤ 255)
theorem gset' (w : World) (g i : Nat) (u : Value) : w.grownBy (w.setCell ⟨g, i, none⟩ u) (some g) :=
  ⟨rfl, rfl, rfl, by simp [World.setCell], fun k _ hne => Below.heap_setCell w ⟨g, i, none⟩ u k (fun e => hne (by rw [e]))⟩
theorem gtrans' {a b c : World} {g : Nat} (h : a.grownBy b (some g)) (k : b.grownBy c (some g)) : a.grownBy c (some g) :=
  ⟨k.os.trans h.os, k.tape.trans h.tape, k.output.trans h.output, Nat.le_trans h.size k.size, fun i hi hne => (k.block i (Nat.lt_of_lt_of_le hi h.size) hne).trans (h.block i hi hne)⟩
theorem gset3 (w : World) (g : Nat) (a b c : Value) : w.grownBy (((w.setCell ⟨g, 0, none⟩ a).setCell ⟨g, 1, none⟩ b).setCell ⟨g, 2, none⟩ c) (some g) :=
  gtrans' (gtrans' (gset' _ _ _ _) (gset' _ _ _ _)) (gset' _ _ _ _)
theorem blk3 {W : World} {g t : Nat} {a b c x y z : Value} (h : Blk W g t [a, b, c]) : Blk (((W.setCell ⟨g, 0, none⟩ x).setCell ⟨g, 1, none⟩ y).setCell ⟨g, 2, none⟩ z) g t [x, y, z] := ((h.set_ 0 x).set_ 1 y).set_ 2 z
theorem below_only {W W' : World} {g : Nat} (h : Below W.heap.size W W') : W.grownBy W' (some g) := ⟨h.os, h.tape, h.output, h.size, fun i hi _ => h.block i hi⟩
theorem below_row {w W W' : World} {g : Nat} (h : Below w.heap.size w W) (k : W.grownBy W' (some g)) (hg : w.heap.size ≤ g) : Below w.heap.size w W' :=
  ⟨k.os.trans h.os, k.tape.trans h.tape, k.output.trans h.output, Nat.le_trans h.size k.size, fun i hi => (k.block i (Nat.lt_of_lt_of_le hi h.size) (by intro e; injection e with e; omega)).trans (h.block i hi)⟩
theorem blk_off {W W' : World} {g i t : Nat} {cs : List Value} (h : Blk W i t cs) (k : W.grownBy W' (some g)) (hne : i ≠ g) : Blk W' i t cs :=
  (k.block i (Blk.lt h) (by intro e; injection e with e; omega)).trans h
theorem past_same {W W' : World} {g t : Nat} {cs : List Value} (h : Blk W g t cs) (hb : Below W.heap.size W W') : Blk W' g t cs := (hb.block _ (Blk.lt h)).trans h
theorem step_to {w0 W W' : World} (h : Below w0.heap.size w0 W) (b : Below W.heap.size W W') : Below w0.heap.size w0 W' := h.trans (b.mono h.size)
/-- a packet, and what went wrong -/
def PktR (w : World) (code id : Int) (l : List UInt8) (err : Int) (e : Ending) (w' : World) : Prop :=
  Below w.heap.size w w' ∧ ∃ D k d, e = .returned (.tuple #[.agg #[.int .i64 code, .int .i64 id, .slice D k d], .int .i64 err]) ∧ Own w' w.heap.size (.slice D k d) l
def PktZ (w : World) (code id : Int) (l : List UInt8) (err : Int) (e : Ending) (w' : World) : Prop :=
  PktR w (if err = 0 then code else 0) (if err = 0 then id else 0) (if err = 0 then l else []) err e w'
theorem pktZ_no {w w' : World} {code id err : Int} {l : List UInt8} (he : err ≠ 0) (hB : Below w.heap.size w w') : PktZ w code id l err (.returned (.tuple #[.agg #[.int .i64 0, .int .i64 0, .slice none 0 0], .int .i64 err])) w' := by
  unfold PktZ
  rw [if_neg he, if_neg he, if_neg he]
  exact ⟨hB, none, 0, 0, rfl, Own.nil _ _⟩
theorem idRight_any (id : Int) (w : World) : Calls Tryd.prog 42 #[.int .i64 id] w fun e w' => e = .returned (.bool (idB id)) ∧ w = w' := by
  unfold idB
  by_cases h0 : 0 ≤ id
  · rw [decide_eq_true h0]
    by_cases h1 : id ≤ 255
    · rw [decide_eq_true h1]
      go_enter Tryd.func42, Tryd.ntmps42
      go_wp2
      go_ret
      exact ⟨rfl, rfl⟩
    · rw [decide_eq_false h1]
      go_enter Tryd.func42, Tryd.ntmps42
      go_wp2
      go_ret
      exact ⟨rfl, rfl⟩
  · rw [decide_eq_false h0]
    go_enter Tryd.func42, Tryd.ntmps42
    go_wp2
    go_ret
    exact ⟨rfl, rfl⟩
/-- what goes wrong with a challenge, or a response -/
def mkE (code id : Int) (n : Nat) (name : ByteArray) : Int := if (code ≠ 1 ∧ code ≠ 2) ∨ idB id = false then 90 else if n < 1 ∨ 255 < n then 4 else if nameB name = false then 60 else 0
/-- its bytes -/
def mkL (l : List UInt8) (name : ByteArray) : List UInt8 := [UInt8.ofNat l.length] ++ l ++ name.data.toList
theorem make_any (code id : Int) (A : Option Addr) (n c B : Nat) (l : List UInt8) (name : ByteArray) (w : World) (hr : Rd w B A n l) (hB : B ≤ w.heap.size) (hnil : A = none → c = 0) (hm : n ≤ 140737488355328) (hs : name.size ≤ maxLen) :
    Calls Tryd.prog 9 #[.int .i64 code, .int .i64 id, .slice A n c, .string name] w (PktZ w code id (mkL l name) (mkE code id n name)) := by
  have hl := hr.1
  obtain ⟨V, hV⟩ : ∃ V, w.alloc (.cells #[.int .i64 0, .int .i64 0, .slice none 0 0] 24) = V := ⟨_, rfl⟩
  have bV : Below w.heap.size w V := by rw [← hV]; exact (Below.refl _ _).alloc (Nat.le_refl _) _
  have zV : V.heap.size = w.heap.size + 1 := by rw [← hV]; simp
  have h0 : Blk V w.heap.size 24 [.int .i64 0, .int .i64 0, .slice none 0 0] := by rw [← hV]; exact heap_alloc_new w _
  have r0 := h0.cell 0
  have r1 := h0.cell 1
  have r2 := h0.cell 2
  have e0 := h0.frozen 0
  have e1 := h0.frozen 1
  have e2 := h0.frozen 2
  have lr := Blk.lt h0
  have hb4 := blk3 (x := .int .i64 0) (y := .int .i64 0) (z := .slice none 0 0) h0
  have p0 := hb4.cell 0
  have p1 := hb4.cell 1
  have p2 := hb4.cell 2
  have BE : Below w.heap.size w (((V.setCell ⟨w.heap.size, 0, none⟩ (.int .i64 0)).setCell ⟨w.heap.size, 1, none⟩ (.int .i64 0)).setCell ⟨w.heap.size, 2, none⟩ (.slice none 0 0)) := below_row bV (gset3 _ _ _ _ _) (Nat.le_refl _)
  have HV := Lib.hid hV
  have NM := Lib.hid (fun W => name_any name W hs)
  have IDR := Lib.hid (fun W => idRight_any id W)
  by_cases hc : (code ≠ 1 ∧ code ≠ 2) ∨ idB id = false
  · have he : mkE code id n name = 90 := if_pos hc
    have F := Lib.hid (pktZ_no (code := code) (id := id) (l := mkL l name) (err := 90) (by decide) BE)
    rw [he]
    clear he hV bV zV h0 hb4 BE hr hl
    by_cases hc1 : code ≠ 1 ∧ code ≠ 2
    · have c1 : (code != 1) = true := by simpa using hc1.1
      have c2 : (code != 2) = true := by simpa using hc1.2
      clear hc hc1
      go_enter Tryd.func9, Tryd.ntmps9
      go_wp2_with (first
        | (rw [HV.out])
        | (go_at_call 42; ((with_reducible refine (IDR.out _).mono ?_); rintro e w' ⟨rfl, rfl⟩)))
      exact bodyPost_ret (v := .tuple #[.agg #[.int .i64 0, .int .i64 0, .slice none 0 0], .int .i64 90]) (by simp [results, Tryd.results9, go_sem, p0, p1, p2]) rfl F.out
    · have hi := hc.resolve_left hc1
      have hcc : code = 1 ∨ code = 2 := by omega
      rw [hi] at IDR
      clear hc hc1 hi
      rcases hcc with rfl | rfl
      all_goals
        go_enter Tryd.func9, Tryd.ntmps9
        go_wp2_with (first
          | (rw [HV.out])
          | (go_at_call 42; ((with_reducible refine (IDR.out _).mono ?_); rintro e w' ⟨rfl, rfl⟩)))
        exact bodyPost_ret (v := .tuple #[.agg #[.int .i64 0, .int .i64 0, .slice none 0 0], .int .i64 90]) (by simp [results, Tryd.results9, go_sem, p0, p1, p2]) rfl F.out
  · have hcc : code = 1 ∨ code = 2 := by omega
    have hi : idB id = true := by
      cases h : idB id
      · exact absurd (.inr h) hc
      · rfl
    rw [hi] at IDR
    by_cases hn : n < 1 ∨ 255 < n
    · have he : mkE code id n name = 4 := by unfold mkE; rw [if_neg hc, if_pos hn]
      have F := Lib.hid (pktZ_no (code := code) (id := id) (l := mkL l name) (err := 4) (by decide) BE)
      rw [he]
      clear he hV bV zV h0 hb4 BE hr hl hc
      by_cases hn1 : n < 1
      · have n1 : (n : Int) < 1 := by omega
        clear hn hn1
        rcases hcc with rfl | rfl
        all_goals
          go_enter Tryd.func9, Tryd.ntmps9
          go_wp2_with (first
            | (rw [HV.out])
            | (go_at_call 42; ((with_reducible refine (IDR.out _).mono ?_); rintro e w' ⟨rfl, rfl⟩)))
          exact bodyPost_ret (v := .tuple #[.agg #[.int .i64 0, .int .i64 0, .slice none 0 0], .int .i64 4]) (by simp [results, Tryd.results9, go_sem, p0, p1, p2]) rfl F.out
      · have n1 : ¬ (n : Int) < 1 := by omega
        have n2 : (255 : Int) < (n : Int) := by omega
        clear hn hn1
        rcases hcc with rfl | rfl
        all_goals
          go_enter Tryd.func9, Tryd.ntmps9
          go_wp2_with (first
            | (rw [HV.out])
            | (go_at_call 42; ((with_reducible refine (IDR.out _).mono ?_); rintro e w' ⟨rfl, rfl⟩)))
          exact bodyPost_ret (v := .tuple #[.agg #[.int .i64 0, .int .i64 0, .slice none 0 0], .int .i64 4]) (by simp [results, Tryd.results9, go_sem, p0, p1, p2]) rfl F.out
    · have n1 : ¬ (n : Int) < 1 := by omega
      have n2 : ¬ (255 : Int) < (n : Int) := by omega
      cases hb : nameB name
      · have he : mkE code id n name = 60 := by unfold mkE; rw [if_neg hc, if_neg hn, if_pos hb]
        have F := Lib.hid (pktZ_no (code := code) (id := id) (l := mkL l name) (err := 60) (by decide) BE)
        rw [he]
        rw [hb] at NM
        clear he hV bV zV h0 hb4 BE hr hl hc hn hb
        rcases hcc with rfl | rfl
        all_goals
          go_enter Tryd.func9, Tryd.ntmps9
          go_wp2_with (first
            | (rw [HV.out])
            | (go_at_call 43; ((with_reducible refine (NM.out _).mono ?_); rintro e w' ⟨rfl, rfl⟩))
            | (go_at_call 42; ((with_reducible refine (IDR.out _).mono ?_); rintro e w' ⟨rfl, rfl⟩)))
          exact bodyPost_ret (v := .tuple #[.agg #[.int .i64 0, .int .i64 0, .slice none 0 0], .int .i64 60]) (by simp [results, Tryd.results9, go_sem, p0, p1, p2]) rfl F.out
      · have he : mkE code id n name = 0 := by unfold mkE; rw [if_neg hc, if_neg hn, if_neg (by rw [hb]; simp)]
        rw [he]
        rw [hb] at NM
        have hz : name.size ≤ 64 := by simp [nameB] at hb; exact hb.2.1
        have hsz : name.data.toList.length = name.size := Array.length_toList
        -- the bytes
        obtain ⟨V1, hV1⟩ : ∃ V1, V.alloc (.cells #[.int .u8 (n : Int)] 5) = V1 := ⟨_, rfl⟩
        have bV1 : Below V.heap.size V V1 := by rw [← hV1]; exact (Below.refl _ _).alloc (Nat.le_refl _) _
        have o1 : Own V1 V.heap.size (.slice (some ⟨V.heap.size, 0, none⟩) 1 1) [UInt8.ofNat n] := by rw [← hV1]; exact own_one V V.heap.size (UInt8.ofNat n) n (by simp; omega) (Nat.le_refl _)
        obtain ⟨v2, w2, R2, o2, g2, b2⟩ := append_run o1 c ((hr.below (bV.mono hB)).below (bV1.mono (by omega))) hnil (by simp; omega) bV1.size
        have B2 : Below V.heap.size V w2 := bV1.grown g2 bV1.size (fun q e => (o1.block q e).1)
        obtain ⟨v3, w3, R3, o3, g3⟩ := append_str o2 name (by simp [hl, hsz]; omega) B2.size
        have B3 : Below V.heap.size V w3 := B2.grown g3 B2.size (fun q e => (o2.block q e).1)
        have hmk : [UInt8.ofNat n] ++ l ++ name.data.toList = mkL l name := by unfold mkL; rw [hl]
        rw [hmk] at o3
        obtain ⟨g, cap, hv3, hg, hgl, hcap⟩ : ∃ g cap, v3 = .slice (some ⟨g, 0, none⟩) (mkL l name).length cap ∧ V.heap.size ≤ g ∧ g < w3.heap.size ∧ (mkL l name).length ≤ cap := by
          rcases o3.form with ⟨_, hh⟩ | h
          · simp [mkL] at hh
          · exact h
        subst hv3
        obtain ⟨N, hN⟩ : ∃ N, (mkL l name).length = N := ⟨_, rfl⟩
        rw [hN] at R3 o3
        have z3 : Blk w3 w.heap.size 24 [.int .i64 0, .int .i64 0, .slice none 0 0] := (B3.block _ (by omega)).trans h0
        have F : Hid (PktZ w code id (mkL l name) 0 (.returned (.tuple #[.agg #[.int .i64 code, .int .i64 id, .slice (some ⟨g, 0, none⟩) N cap], .int .i64 0])) (((w3.setCell ⟨w.heap.size, 0, none⟩ (.int .i64 code)).setCell ⟨w.heap.size, 1, none⟩ (.int .i64 id)).setCell ⟨w.heap.size, 2, none⟩ (.slice (some ⟨g, 0, none⟩) N cap))) := by
          have gg := gset3 w3 w.heap.size (.int .i64 code) (.int .i64 id) (.slice (some ⟨g, 0, none⟩) N cap)
          refine ⟨below_row (bV.trans (B3.mono (by omega))) gg (Nat.le_refl _), _, _, _, rfl, ?_⟩
          have h4 := o3.grown gg (.inr (by simp [Value.ownBlock]; omega))
          refine ⟨h4.1, ?_⟩
          rcases h4.2 with h | ⟨g', cap', cur, e1, e2, e3⟩
          · exact .inl h
          · exact .inr ⟨g', cap', cur, e1, by omega, e3⟩
        have f0 := z3.frozen 0
        have f1 := z3.frozen 1
        have f2 := z3.frozen 2
        have l3 := Blk.lt z3
        have q0 := z3.cell 0
        have q1 := z3.cell 1
        have q2 := z3.cell 2
        have Z3 := Lib.hid z3
        have HV1 := Lib.hid hV1
        have R2H := Lib.hid R2
        have R3H := Lib.hid R3
        have w8 : IntKind.u8.wrap (n : Int) = n := by rw [IntKind.wrap_u8']; omega
        clear he hV bV zV h0 hb4 BE hr hl hc hn hb p0 p1 p2 hV1 bV1 o1 R2 o2 g2 b2 B2 R3 o3 g3 B3 hmk hg hgl hcap hN z3 hz hsz
        rcases hcc with rfl | rfl
        all_goals
          go_enter Tryd.func9, Tryd.ntmps9
          go_wp2_with (first
            | (rw [HV.out])
            | (go_at_call 43; ((with_reducible refine (NM.out _).mono ?_); rintro e w' ⟨rfl, rfl⟩))
            | (go_at_call 42; ((with_reducible refine (IDR.out _).mono ?_); rintro e w' ⟨rfl, rfl⟩))
            | (rw [HV1.out])
            | (at_builtin; refine wpList_appT rfl (.tmp 42) (.tmp 43) #[22, 22] rfl _ _ rfl rfl _ _ R2H.out ?_)
            | (at_builtin; refine wpList_appT rfl (.tmp 47) (.tmp 48) #[22, 9] rfl _ _ rfl rfl _ _ R3H.out ?_))
          first
            | (have hb5 := blk3 (x := .int .i64 1) (y := .int .i64 id) (z := .slice (some ⟨g, 0, none⟩) N cap) Z3.out
               have p0 := hb5.cell 0
               have p1 := hb5.cell 1
               have p2 := hb5.cell 2
               exact bodyPost_ret (v := .tuple #[.agg #[.int .i64 1, .int .i64 id, .slice (some ⟨g, 0, none⟩) N cap], .int .i64 0]) (by simp [results, Tryd.results9, go_sem, p0, p1, p2]) rfl F.out)
            | (have hb5 := blk3 (x := .int .i64 2) (y := .int .i64 id) (z := .slice (some ⟨g, 0, none⟩) N cap) Z3.out
               have p0 := hb5.cell 0
               have p1 := hb5.cell 1
               have p2 := hb5.cell 2
               exact bodyPost_ret (v := .tuple #[.agg #[.int .i64 2, .int .i64 id, .slice (some ⟨g, 0, none⟩) N cap], .int .i64 0]) (by simp [results, Tryd.results9, go_sem, p0, p1, p2]) rfl F.out)
end Go.Proofs.YtnklamclcliddaaDoor
namespace Go.Proofs.YtnklamclcliddaaDoor
open Go.RowKit Go.Shelf
set_option maxRecDepth 100000
set_option maxHeartbeats 1000000
set_option linter.unusedSimpArgs false
set_option linter.unusedVariables false

/-- how long a value is said to be -/
def rvN (l : List UInt8) : Nat := (l.headD 0).toNat
def rvE (id : Int) (l : List UInt8) : Int := if idB id = false then 90 else if l.length < 1 ∨ l.length - 1 < rvN l then 8 else if rvN l = 0 then 4 else if nameB (strOf (l.drop (1 + rvN l))) = false then 60 else 0
def rvV (l : List UInt8) : List UInt8 := (l.drop 1).take (rvN l)
def rvS (l : List UInt8) : ByteArray := strOf (l.drop (1 + rvN l))
theorem strOf_size (l : List UInt8) : (strOf l).size = l.length := by
  simp [strOf, strOfNums, ByteArray.size]
theorem rvN_lt (l : List UInt8) : rvN l < 256 := (l.headD 0).toNat_lt
/-- what went wrong with the bytes -/
def octE (l : List UInt8) : Int := if l.length < 1 ∨ l.length - 1 < rvN l then 8 else 0
def octZ (l : List UInt8) : Int := if l.length < 1 then 0 else rvN l
theorem oct_facts (l : List UInt8) : nmVal l 0 1 = octZ l ∧ tkErr (nmRest l 0 1) (nmErr l 0 1) (octZ l) = octE l ∧ (octE l = 0 → tkOut (nmRest l 0 1) (nmErr l 0 1) (octZ l) = rvV l ∧ tkRest (nmRest l 0 1) (nmErr l 0 1) (octZ l) = l.drop (1 + rvN l) ∧ 1 ≤ l.length) := by
  cases l with
  | nil => refine ⟨by decide, by decide, fun h => absurd h (by decide)⟩
  | cons c r =>
    have hN : rvN (c :: r) = c.toNat := rfl
    have e1 : nmErr (c :: r) 0 1 = 0 := by
      unfold nmErr
      rw [if_neg (by simp), if_neg (by omega), if_neg (by simp; omega)]
    have e2 : nmRest (c :: r) 0 1 = r := by unfold nmRest; rw [if_pos e1]; rfl
    have e3 : nmVal (c :: r) 0 1 = c.toNat := by
      unfold nmVal
      rw [if_pos e1]
      show num (c :: r) 1 = _
      simp [num, byteAt]
    have e4 : octZ (c :: r) = c.toNat := by unfold octZ; rw [if_neg (by simp)]; rfl
    rw [e1, e2, e3, e4]
    refine ⟨rfl, ?_, fun h => ?_⟩
    · unfold tkErr octE
      rw [hN, if_neg (by simp), if_neg (by omega)]
      simp only [List.length_cons]
      by_cases h : r.length < c.toNat
      · rw [if_pos (by omega), if_pos (by omega)]
      · rw [if_neg (by omega), if_neg (by omega)]
    · have h2 : tkErr r 0 c.toNat = 0 := by
        unfold octE at h
        unfold tkErr
        rw [hN] at h
        simp only [List.length_cons] at h
        by_cases h3 : r.length < c.toNat
        · rw [if_pos (by omega)] at h; cases h
        · rw [if_neg (by simp), if_neg (by omega), if_neg (by omega)]
      unfold tkOut tkRest rvV
      rw [if_pos h2, if_pos h2, hN]
      refine ⟨by simp, ?_, by simp⟩
      rw [Nat.add_comm, List.drop_succ_cons]
      simp
def Good (e : Int) : Prop := e = 0
def RdC (w V : World) (bs : List Value) (A : Option Addr) (n c : Nat) (l : List UInt8) : Prop :=
  Calls Tryd.prog 54 #[.slice A n c] V fun e w2 => ∃ g, e = .returned (.pointer (some ⟨g, 0, none⟩)) ∧
    Calls Tryd.prog 56 #[.pointer (some ⟨g, 0, none⟩), .int .i64 1] w2 fun e w3 => e = .returned (.int .u64 (octZ l)) ∧
      Calls Tryd.prog 116 #[.pointer (some ⟨g, 0, none⟩), .int .i64 (octZ l)] w3 fun e w4 => ∃ D k d, e = .returned (.slice D k d) ∧ Blk w4 w.heap.size 114 bs ∧ Below w.heap.size w w4 ∧
        Calls Tryd.prog 57 #[.pointer (some ⟨g, 0, none⟩)] w4 (fun e w' => e = .returned (.int .i64 (octE l)) ∧ w4 = w') ∧
        (Good (octE l) → Calls Tryd.prog 117 #[.pointer (some ⟨g, 0, none⟩)] w4 fun e w5 => ∃ D' k' d', e = .returned (.slice D' k' d') ∧ (convert 22 9 (.slice D' k' d')).run Tryd.prog w5 = .ok (.string (rvS l)) w5 ∧ Below w.heap.size w w5 ∧ Own w5 w.heap.size (.slice D k d) (rvV l))
theorem rdc_any {w V : World} {bs : List Value} {A : Option Addr} {n c B : Nat} {l : List UInt8} (hr : Rd V B A n l) (hB : B ≤ V.heap.size) (hn : n ≤ 140737488420864) (hb : Blk V w.heap.size 114 bs) (bV : Below w.heap.size w V) : RdC w V bs A n c l := by
  obtain ⟨f1, f2, f3⟩ := oct_facts l
  have hlt := Blk.lt hb
  refine (newreader_any A n c B l V hr hB hn).mono ?_
  rintro e w2 ⟨g, rfl, hg, hgl, b2, hO⟩
  have O2 := hO w2 none (World.grownBy.refl _ _) (fun q e => by cases e)
  have x2 := past_same hb b2
  have B2 := step_to bV b2
  refine ⟨g, rfl, (onum_any _ g 1 l 0 w2 O2).mono ?_⟩
  rintro e w3 ⟨rfl, O3, g3⟩
  have x3 := blk_off x2 g3 (by omega)
  have B3 := below_row B2 g3 (by omega)
  rw [f1]
  refine ⟨rfl, (take_any _ g (octZ l) _ _ w3 O3).mono ?_⟩
  rintro e w4 ⟨v, rfl, o4, O4, g4⟩
  rw [f2] at O4
  have x4 := blk_off x3 g4 (by omega)
  have B4 := below_row B3 g4 (by omega)
  obtain ⟨D, d, hv⟩ : ∃ D d, v = .slice D (tkOut (nmRest l 0 1) (nmErr l 0 1) (octZ l)).length d := by
    rcases o4.form with ⟨e, h⟩ | ⟨g', cap, e, _⟩
    · exact ⟨none, 0, by rw [e, h]; rfl⟩
    · exact ⟨_, _, e⟩
  subst hv
  refine ⟨D, _, d, rfl, x4, B4, err_any _ g _ _ w4 O4, fun h0 => ?_⟩
  have h0 : octE l = 0 := h0
  obtain ⟨f4, f5, f6⟩ := f3 h0
  rw [f5, h0] at O4
  refine (rest_any _ g _ 0 w4 O4).mono ?_
  rintro e w5 ⟨v, rfl, o5, O5, g5⟩
  have e5 : tkOut (l.drop (1 + rvN l)) 0 (l.drop (1 + rvN l)).length = l.drop (1 + rvN l) := by
    have : tkErr (l.drop (1 + rvN l)) 0 (l.drop (1 + rvN l)).length = 0 := by
      unfold tkErr
      rw [if_neg (by simp), if_neg (by omega), if_neg (by omega)]
    unfold tkOut
    rw [if_pos this, Int.toNat_natCast, List.take_length]
  rw [e5] at o5
  obtain ⟨D', d', hv, hrd⟩ : ∃ D' d', v = .slice D' (l.drop (1 + rvN l)).length d' ∧ Rd w5 w5.heap.size D' (l.drop (1 + rvN l)).length (l.drop (1 + rvN l)) := by
    rcases o5.form with ⟨e, h⟩ | ⟨g', cap, e, _⟩
    · exact ⟨none, 0, by rw [e, h]; rfl, by rw [h]; exact Rd.nil⟩
    · subst e
      have := o5.rd rfl _ (Nat.le_refl _)
      rw [List.take_length] at this
      exact ⟨_, _, rfl, this⟩
  subst hv
  refine ⟨D', _, d', rfl, conv_run hrd d', below_row B4 g5 (by omega), ?_⟩
  rw [f4] at o4 ⊢
  have hne : (Value.slice D (rvV l).length d).ownBlock = none ∨ (Value.slice D (rvV l).length d).ownBlock ≠ some g := .inr fun e => by
    have := (o4.block g e).1
    have := g3.size
    omega
  have h6 := o4.grown g5 hne
  refine ⟨h6.1, ?_⟩
  rcases h6.2 with h | ⟨g', cap', cur, e1, e2, e3⟩
  · exact .inl h
  · exact .inr ⟨g', cap', cur, e1, by have := B3.size; omega, e3⟩
/-- what read answers -/
def RvR (w : World) (id : Int) (l : List UInt8) (e : Ending) (w' : World) : Prop :=
  Below w.heap.size w w' ∧ ((rvE id l ≠ 0 ∧ e = .returned (.tuple #[.slice none 0 0, .string ⟨#[]⟩, .int .i64 (rvE id l)])) ∨ (rvE id l = 0 ∧ ∃ D k d, e = .returned (.tuple #[.slice D k d, .string (rvS l), .int .i64 0]) ∧ Own w' w.heap.size (.slice D k d) (rvV l)))
theorem read_any (code id : Int) (A : Option Addr) (n c B : Nat) (l : List UInt8) (w : World) (hr : Rd w B A n l) (hB : B ≤ w.heap.size) (hn : n ≤ 140737488355328) :
    Calls Tryd.prog 106 #[.agg #[.int .i64 code, .int .i64 id, .slice A n c]] w (RvR w id l) := by
  obtain ⟨V, hV⟩ : ∃ V, w.alloc (.cells #[.int .i64 code, .int .i64 id, .slice A n c] 114) = V := ⟨_, rfl⟩
  have bV : Below w.heap.size w V := by rw [← hV]; exact (Below.refl _ _).alloc (Nat.le_refl _) _
  have h0 : Blk V w.heap.size 114 [.int .i64 code, .int .i64 id, .slice A n c] := by rw [← hV]; exact heap_alloc_new w _
  have RC := rdc_any (c := c) (hr.below (bV.mono hB)) (Nat.le_trans hB bV.size) (by omega) h0 bV
  have v2 := h0.cell 2
  have HV := Lib.hid hV
  have IDR := Lib.hid (fun W => idRight_any id W)
  have hsz : (rvS l).size ≤ maxLen := by
    unfold rvS
    rw [strOf_size, List.length_drop]
    have := hr.1
    unfold maxLen
    omega
  have NM := Lib.hid (fun W => name_any (rvS l) W hsz)
  have zb : 0 ≤ octZ l ∧ octZ l < 256 := by
    have := rvN_lt l
    unfold octZ
    split <;> omega
  obtain ⟨z, hz⟩ : ∃ z, octZ l = z := ⟨_, rfl⟩
  obtain ⟨oe, hoe⟩ : ∃ oe, octE l = oe := ⟨_, rfl⟩
  obtain ⟨s, hs⟩ : ∃ s, rvS l = s := ⟨_, rfl⟩
  have RC2 := Lib.hid RC
  unfold RdC at RC2
  rw [hz, hoe, hs] at RC2
  rw [hz] at zb
  rw [hs] at NM
  obtain ⟨zb1, zb2⟩ := zb
  have key : rvE id l = if idB id = false then 90 else if oe ≠ 0 then 8 else if z = 0 then 4 else if nameB s = false then 60 else 0 := by
    unfold rvE
    rw [← hoe, ← hz, ← hs]
    unfold octE octZ
    by_cases h1 : l.length < 1 ∨ l.length - 1 < rvN l
    · rw [if_pos h1, if_pos h1]; simp
    · rw [if_neg h1, if_neg h1, if_neg (show ¬ l.length < 1 by omega)]
      simp only [ne_eq, not_true_eq_false, if_false]
      by_cases h2 : rvN l = 0
      · rw [if_pos h2, if_pos (show (rvN l : Int) = 0 by omega)]
      · rw [if_neg h2, if_neg (show ¬ (rvN l : Int) = 0 by omega)]
        rfl
  have hoe8 : oe = 8 ∨ oe = 0 := by
    rw [← hoe]
    unfold octE
    split
    · exact .inl rfl
    · exact .inr rfl
  have FB : Hid (∀ W er, Below w.heap.size w W → rvE id l = er → er ≠ 0 → RvR w id l (.returned (.tuple #[.slice none 0 0, .string ⟨#[]⟩, .int .i64 er])) W) := fun W er hb he h => ⟨hb, .inl ⟨by rw [he]; exact h, by rw [he]⟩⟩
  have FG : Hid (∀ W D k d, Below w.heap.size w W → rvE id l = 0 → Own W w.heap.size (.slice D k d) (rvV l) → RvR w id l (.returned (.tuple #[.slice D k d, .string s, .int .i64 0])) W) := fun W D k d hb he h => ⟨hb, .inr ⟨he, D, k, d, by rw [hs], h⟩⟩
  have KEY := Lib.hid key
  clear key hz hoe hs RC hV bV h0 hr hsz hB hn
  cases hi : idB id
  · have e : Hid (rvE id l = 90) := by show _ = _; rw [KEY.out, if_pos hi]
    rw [hi] at IDR
    clear hi hoe8 KEY FG NM
    go_enter Tryd.func106, Tryd.ntmps106
    go_wp2_with (first
      | (rw [HV.out])
      | (go_at_call 54; ((with_reducible refine RC2.out.mono ?_); rintro e w2 ⟨g, rfl, n1⟩; have N2 := Lib.hid n1; clear n1 RC2))
      | (go_at_call 56; ((with_reducible refine N2.out.mono ?_); rintro e w3 ⟨rfl, n1⟩; have N3 := Lib.hid n1; clear n1 N2))
      | (go_at_call 116; ((with_reducible refine N3.out.mono ?_); rintro e w4 ⟨D, k, d, rfl, x4, b4, n1, -⟩; have u1 := x4.cell 1; have B4 := Lib.hid b4; have N4 := Lib.hid n1; clear n1 N3 b4 x4))
      | (go_at_call 42; ((with_reducible refine (IDR.out _).mono ?_); rintro e w' ⟨rfl, rfl⟩)))
    exact bodyPost_ret (v := .tuple #[.slice none 0 0, .string ⟨#[]⟩, .int .i64 90]) (by simp [results, Tryd.results106, go_sem]) rfl (FB.out _ _ B4.out e.out (by decide))
  rw [hi] at IDR
  rcases hoe8 with rfl | rfl
  · have e : Hid (rvE id l = 8) := by show _ = _; rw [KEY.out, if_neg (by rw [hi]; simp), if_pos (by decide)]
    clear hi KEY FG NM
    go_enter Tryd.func106, Tryd.ntmps106
    go_wp2_with (first
      | (rw [HV.out])
      | (go_at_call 54; ((with_reducible refine RC2.out.mono ?_); rintro e w2 ⟨g, rfl, n1⟩; have N2 := Lib.hid n1; clear n1 RC2))
      | (go_at_call 56; ((with_reducible refine N2.out.mono ?_); rintro e w3 ⟨rfl, n1⟩; have N3 := Lib.hid n1; clear n1 N2))
      | (go_at_call 116; ((with_reducible refine N3.out.mono ?_); rintro e w4 ⟨D, k, d, rfl, x4, b4, n1, -⟩; have u1 := x4.cell 1; have B4 := Lib.hid b4; have N4 := Lib.hid n1; clear n1 N3 b4 x4))
      | (go_at_call 42; ((with_reducible refine (IDR.out _).mono ?_); rintro e w' ⟨rfl, rfl⟩))
      | (go_at_call 57; ((with_reducible refine N4.out.mono ?_); rintro e w' ⟨rfl, rfl⟩)))
    exact bodyPost_ret (v := .tuple #[.slice none 0 0, .string ⟨#[]⟩, .int .i64 8]) (by simp [results, Tryd.results106, go_sem]) rfl (FB.out _ _ B4.out e.out (by decide))
  by_cases hz0 : z = 0
  · have e : Hid (rvE id l = 4) := by show _ = _; rw [KEY.out, if_neg (by rw [hi]; simp), if_neg (by simp), if_pos hz0]
    subst hz0
    clear hi KEY FG NM
    go_enter Tryd.func106, Tryd.ntmps106
    go_wp2_with (first
      | (rw [HV.out])
      | (go_at_call 54; ((with_reducible refine RC2.out.mono ?_); rintro e w2 ⟨g, rfl, n1⟩; have N2 := Lib.hid n1; clear n1 RC2))
      | (go_at_call 56; ((with_reducible refine N2.out.mono ?_); rintro e w3 ⟨rfl, n1⟩; have N3 := Lib.hid n1; clear n1 N2))
      | (go_at_call 116; ((with_reducible refine N3.out.mono ?_); rintro e w4 ⟨D, k, d, rfl, x4, b4, n1, -⟩; have u1 := x4.cell 1; have B4 := Lib.hid b4; have N4 := Lib.hid n1; clear n1 N3 b4 x4))
      | (go_at_call 42; ((with_reducible refine (IDR.out _).mono ?_); rintro e w' ⟨rfl, rfl⟩))
      | (go_at_call 57; ((with_reducible refine N4.out.mono ?_); rintro e w' ⟨rfl, rfl⟩)))
    exact bodyPost_ret (v := .tuple #[.slice none 0 0, .string ⟨#[]⟩, .int .i64 4]) (by simp [results, Tryd.results106, go_sem]) rfl (FB.out _ _ B4.out e.out (by decide))
  have hz1 : (z == 0) = false := by simpa using hz0
  cases hb : nameB s
  · have e : Hid (rvE id l = 60) := by show _ = _; rw [KEY.out, if_neg (by rw [hi]; simp), if_neg (by simp), if_neg hz0, if_pos hb]
    rw [hb] at NM
    clear hi KEY FG hb hz0
    go_enter Tryd.func106, Tryd.ntmps106
    go_wp2_with (first
      | (rw [HV.out])
      | (go_at_call 54; ((with_reducible refine RC2.out.mono ?_); rintro e w2 ⟨g, rfl, n1⟩; have N2 := Lib.hid n1; clear n1 RC2))
      | (go_at_call 56; ((with_reducible refine N2.out.mono ?_); rintro e w3 ⟨rfl, n1⟩; have N3 := Lib.hid n1; clear n1 N2))
      | (go_at_call 116; ((with_reducible refine N3.out.mono ?_); rintro e w4 ⟨D, k, d, rfl, x4, b4, n1, n2⟩; have u1 := x4.cell 1; have N4 := Lib.hid n1; have N5 := Lib.hid (n2 (show Good 0 from rfl)); clear n1 N3 b4 x4 n2))
      | (go_at_call 42; ((with_reducible refine (IDR.out _).mono ?_); rintro e w' ⟨rfl, rfl⟩))
      | (go_at_call 57; ((with_reducible refine N4.out.mono ?_); rintro e w' ⟨rfl, rfl⟩))
      | (go_at_call 117; ((with_reducible refine N5.out.mono ?_); rintro e w5 ⟨D', k', d', rfl, cv, b5, o5⟩; have B5 := Lib.hid b5; clear b5 o5))
      | (rw [cv])
      | (go_at_call 43; ((with_reducible refine (NM.out _).mono ?_); rintro e w' ⟨rfl, rfl⟩)))
    exact bodyPost_ret (v := .tuple #[.slice none 0 0, .string ⟨#[]⟩, .int .i64 60]) (by simp [results, Tryd.results106, go_sem]) rfl (FB.out _ _ B5.out e.out (by decide))
  · have e : Hid (rvE id l = 0) := by show _ = _; rw [KEY.out, if_neg (by rw [hi]; simp), if_neg (by simp), if_neg hz0, if_neg (by rw [hb]; simp)]
    rw [hb] at NM
    clear hi KEY FB hb hz0
    go_enter Tryd.func106, Tryd.ntmps106
    go_wp2_with (first
      | (rw [HV.out])
      | (go_at_call 54; ((with_reducible refine RC2.out.mono ?_); rintro e w2 ⟨g, rfl, n1⟩; have N2 := Lib.hid n1; clear n1 RC2))
      | (go_at_call 56; ((with_reducible refine N2.out.mono ?_); rintro e w3 ⟨rfl, n1⟩; have N3 := Lib.hid n1; clear n1 N2))
      | (go_at_call 116; ((with_reducible refine N3.out.mono ?_); rintro e w4 ⟨D, k, d, rfl, x4, b4, n1, n2⟩; have u1 := x4.cell 1; have N4 := Lib.hid n1; have N5 := Lib.hid (n2 (show Good 0 from rfl)); clear n1 N3 b4 x4 n2))
      | (go_at_call 42; ((with_reducible refine (IDR.out _).mono ?_); rintro e w' ⟨rfl, rfl⟩))
      | (go_at_call 57; ((with_reducible refine N4.out.mono ?_); rintro e w' ⟨rfl, rfl⟩))
      | (go_at_call 117; ((with_reducible refine N5.out.mono ?_); rintro e w5 ⟨D', k', d', rfl, cv, b5, o5⟩; have B5 := Lib.hid b5; have O5 := Lib.hid o5; clear b5 o5))
      | (rw [cv])
      | (go_at_call 43; ((with_reducible refine (NM.out _).mono ?_); rintro e w' ⟨rfl, rfl⟩)))
    exact bodyPost_ret (v := .tuple #[.slice D k d, .string s, .int .i64 0]) (by simp [results, Tryd.results106, go_sem]) rfl (FG.out _ _ _ _ B5.out e.out O5.out)
theorem vid_any (code id : Int) (s : Value) (w : World) : Calls Tryd.prog 108 #[.agg #[.int .i64 code, .int .i64 id, s]] w fun e w' => e = .returned (.int .i64 id) ∧ w' = w.alloc (.cells #[.int .i64 code, .int .i64 id, s] 114) := by
  go_enter Tryd.func108, Tryd.ntmps108
  go_wp2
  go_ret
  exact ⟨rfl, rfl⟩
end Go.Proofs.YtnklamclcliddaaDoor
namespace Go.Proofs.YtnklamclcliddaaDoor
open Go.RowKit Go.Shelf
set_option maxRecDepth 100000
set_option maxHeartbeats 800000
set_option linter.unusedSimpArgs false
set_option linter.unusedVariables false

theorem rmake_any (code id : Int) (A : Option Addr) (n c B : Nat) (l : List UInt8) (name : ByteArray) (w : World) (hr : Rd w B A n l) (hB : B ≤ w.heap.size) (hnil : A = none → c = 0) (hm : n ≤ 140737488355328) (hs : name.size ≤ maxLen) :
    Calls Tryd.prog 10 #[.int .i64 code, .int .i64 id, .slice A n c, .string name] w (PktZ w code id (mkL l name) (mkE code id n name)) := by
  have hl := hr.1
  obtain ⟨V, hV⟩ : ∃ V, w.alloc (.cells #[.int .i64 0, .int .i64 0, .slice none 0 0] 24) = V := ⟨_, rfl⟩
  have bV : Below w.heap.size w V := by rw [← hV]; exact (Below.refl _ _).alloc (Nat.le_refl _) _
  have zV : V.heap.size = w.heap.size + 1 := by rw [← hV]; simp
  have h0 : Blk V w.heap.size 24 [.int .i64 0, .int .i64 0, .slice none 0 0] := by rw [← hV]; exact heap_alloc_new w _
  have r0 := h0.cell 0
  have r1 := h0.cell 1
  have r2 := h0.cell 2
  have e0 := h0.frozen 0
  have e1 := h0.frozen 1
  have e2 := h0.frozen 2
  have lr := Blk.lt h0
  have hb4 := blk3 (x := .int .i64 0) (y := .int .i64 0) (z := .slice none 0 0) h0
  have p0 := hb4.cell 0
  have p1 := hb4.cell 1
  have p2 := hb4.cell 2
  have BE : Below w.heap.size w (((V.setCell ⟨w.heap.size, 0, none⟩ (.int .i64 0)).setCell ⟨w.heap.size, 1, none⟩ (.int .i64 0)).setCell ⟨w.heap.size, 2, none⟩ (.slice none 0 0)) := below_row bV (gset3 _ _ _ _ _) (Nat.le_refl _)
  have HV := Lib.hid hV
  have NM := Lib.hid (fun W => rname_any name W hs)
  by_cases hc : (code ≠ 1 ∧ code ≠ 2) ∨ idB id = false
  · have he : mkE code id n name = 90 := if_pos hc
    have F := Lib.hid (pktZ_no (code := code) (id := id) (l := mkL l name) (err := 90) (by decide) BE)
    rw [he]
    clear he hV bV zV h0 hb4 BE hr hl
    by_cases hc1 : code ≠ 1 ∧ code ≠ 2
    · have c1 : (code != 1) = true := by simpa using hc1.1
      have c2 : (code != 2) = true := by simpa using hc1.2
      clear hc hc1
      go_enter Tryd.func10, Tryd.ntmps10
      go_wp2_with (first
        | (rw [HV.out]))
      exact bodyPost_ret (v := .tuple #[.agg #[.int .i64 0, .int .i64 0, .slice none 0 0], .int .i64 90]) (by simp [results, Tryd.results10, go_sem, p0, p1, p2]) rfl F.out
    · have hi := hc.resolve_left hc1
      have hcc : code = 1 ∨ code = 2 := by omega
      have hi2 : id < 0 ∨ (¬ id < 0 ∧ 255 < id) := by
        simp only [idB, Bool.and_eq_false_iff, decide_eq_false_iff_not] at hi
        omega
      have d1 : ((1 : Int) != 1) = false := by decide
      clear hc hc1 hi
      rcases hcc with rfl | rfl
      all_goals
        rcases hi2 with h | ⟨h, h'⟩
        all_goals
          go_enter Tryd.func10, Tryd.ntmps10
          go_wp2_with (rw [HV.out])
          exact bodyPost_ret (v := .tuple #[.agg #[.int .i64 0, .int .i64 0, .slice none 0 0], .int .i64 90]) (by simp [results, Tryd.results10, go_sem, p0, p1, p2]) rfl F.out
  · have hcc : code = 1 ∨ code = 2 := by omega
    have hi : idB id = true := by
      cases h : idB id
      · exact absurd (.inr h) hc
      · rfl
    have i01 : ¬ id < 0 ∧ ¬ 255 < id := by
      simp only [idB, Bool.and_eq_true, decide_eq_true_eq] at hi
      omega
    obtain ⟨i0, i1⟩ := i01
    by_cases hn : n < 1 ∨ 255 < n
    · have he : mkE code id n name = 4 := by unfold mkE; rw [if_neg hc, if_pos hn]
      have F := Lib.hid (pktZ_no (code := code) (id := id) (l := mkL l name) (err := 4) (by decide) BE)
      rw [he]
      clear he hV bV zV h0 hb4 BE hr hl hc
      by_cases hn1 : n < 1
      · have n1 : (n : Int) < 1 := by omega
        clear hn hn1
        rcases hcc with rfl | rfl
        all_goals
          go_enter Tryd.func10, Tryd.ntmps10
          go_wp2_with (first
            | (rw [HV.out]))
          exact bodyPost_ret (v := .tuple #[.agg #[.int .i64 0, .int .i64 0, .slice none 0 0], .int .i64 4]) (by simp [results, Tryd.results10, go_sem, p0, p1, p2]) rfl F.out
      · have n1 : ¬ (n : Int) < 1 := by omega
        have n2 : (255 : Int) < (n : Int) := by omega
        clear hn hn1
        rcases hcc with rfl | rfl
        all_goals
          go_enter Tryd.func10, Tryd.ntmps10
          go_wp2_with (first
            | (rw [HV.out]))
          exact bodyPost_ret (v := .tuple #[.agg #[.int .i64 0, .int .i64 0, .slice none 0 0], .int .i64 4]) (by simp [results, Tryd.results10, go_sem, p0, p1, p2]) rfl F.out
    · have n1 : ¬ (n : Int) < 1 := by omega
      have n2 : ¬ (255 : Int) < (n : Int) := by omega
      cases hb : nameB name
      · have he : mkE code id n name = 60 := by unfold mkE; rw [if_neg hc, if_neg hn, if_pos hb]
        have F := Lib.hid (pktZ_no (code := code) (id := id) (l := mkL l name) (err := 60) (by decide) BE)
        rw [he]
        rw [hb] at NM
        clear he hV bV zV h0 hb4 BE hr hl hc hn hb
        rcases hcc with rfl | rfl
        all_goals
          go_enter Tryd.func10, Tryd.ntmps10
          go_wp2_with (first
            | (rw [HV.out])
            | (go_at_call 32; ((with_reducible refine (NM.out _).mono ?_); rintro e w' ⟨rfl, rfl⟩)))
          exact bodyPost_ret (v := .tuple #[.agg #[.int .i64 0, .int .i64 0, .slice none 0 0], .int .i64 60]) (by simp [results, Tryd.results10, go_sem, p0, p1, p2]) rfl F.out
      · have he : mkE code id n name = 0 := by unfold mkE; rw [if_neg hc, if_neg hn, if_neg (by rw [hb]; simp)]
        rw [he]
        rw [hb] at NM
        have hz : name.size ≤ 64 := by simp [nameB] at hb; exact hb.2.1
        have hsz : name.data.toList.length = name.size := Array.length_toList
        -- the bytes
        obtain ⟨V1, hV1⟩ : ∃ V1, V.alloc (.cells #[.int .u8 (n : Int)] 5) = V1 := ⟨_, rfl⟩
        have bV1 : Below V.heap.size V V1 := by rw [← hV1]; exact (Below.refl _ _).alloc (Nat.le_refl _) _
        have o1 : Own V1 V.heap.size (.slice (some ⟨V.heap.size, 0, none⟩) 1 1) [UInt8.ofNat n] := by rw [← hV1]; exact own_one V V.heap.size (UInt8.ofNat n) n (by simp; omega) (Nat.le_refl _)
        obtain ⟨V2, hV2⟩ : ∃ V2, V1.alloc (.cells #[.int .i64 code, .int .i64 id, .slice (some ⟨V.heap.size, 0, none⟩) 1 1] 24) = V2 := ⟨_, rfl⟩
        have z1 : V1.heap.size = V.heap.size + 1 := by rw [← hV1]; simp
        have bV2 : Below V1.heap.size V1 V2 := by rw [← hV2]; exact (Below.refl _ _).alloc (Nat.le_refl _) _
        have n2 : Blk V2 (V.heap.size + 1) 24 [.int .i64 code, .int .i64 id, .slice (some ⟨V.heap.size, 0, none⟩) 1 1] := by rw [← hV2, ← z1]; exact heap_alloc_new V1 _
        have bVV2 : Below V.heap.size V V2 := bV1.trans (bV2.mono bV1.size)
        obtain ⟨v2, w2, R2, o2, g2, b2⟩ := append_run (o1.later bV2) c ((hr.below (bV.mono hB)).below (bVV2.mono (by omega))) hnil (by simp; omega) bVV2.size
        obtain ⟨ga, ca, hv2, -, -, -⟩ : ∃ ga ca, v2 = .slice (some ⟨ga, 0, none⟩) ([UInt8.ofNat n] ++ l).length ca ∧ V.heap.size ≤ ga ∧ ga < w2.heap.size ∧ ([UInt8.ofNat n] ++ l).length ≤ ca := by
          rcases o2.form with ⟨_, hh⟩ | h
          · simp at hh
          · exact h
        subst hv2
        obtain ⟨La, hLa⟩ : ∃ La, ([UInt8.ofNat n] ++ l).length = La := ⟨_, rfl⟩
        rw [hLa] at R2 o2
        have B2 : Below V.heap.size V w2 := bVV2.grown g2 bVV2.size (fun q e => ((o1.later bV2).block q e).1)
        have ne2 : ∀ q, (Value.slice (some ⟨V.heap.size, 0, none⟩) 1 1).ownBlock = some q → q ≠ V.heap.size + 1 := fun q e => by simp [Value.ownBlock] at e; omega
        have n3 : Blk w2 (V.heap.size + 1) 24 [.int .i64 code, .int .i64 id, .slice (some ⟨V.heap.size, 0, none⟩) 1 1] := (g2.block _ (Blk.lt n2) (by intro e; exact ne2 _ e.symm rfl)).trans n2
        obtain ⟨w2', hw2'⟩ : ∃ w2', w2.setCell ⟨V.heap.size + 1, 2, none⟩ (.slice (some ⟨ga, 0, none⟩) La ca) = w2' := ⟨_, rfl⟩
        have gs2 : w2.grownBy w2' (some (V.heap.size + 1)) := by rw [← hw2']; exact gset' _ _ _ _
        have n4 : Blk w2' (V.heap.size + 1) 24 [.int .i64 code, .int .i64 id, (.slice (some ⟨ga, 0, none⟩) La ca)] := by rw [← hw2']; exact n3.set_ 2 (.slice (some ⟨ga, 0, none⟩) La ca)
        have no2 : (Value.slice (some ⟨ga, 0, none⟩) La ca).ownBlock = none ∨ (Value.slice (some ⟨ga, 0, none⟩) La ca).ownBlock ≠ some (V.heap.size + 1) := by
          rcases o2.form with ⟨e, _⟩ | ⟨g', cap, e, hg, hgl, _⟩
          · exact .inl (by rw [e]; rfl)
          · refine .inr fun h => ?_
            rw [e] at h
            simp only [Value.ownBlock, Option.some.injEq] at h
            subst h
            rcases o2.2 with ⟨q, _⟩ | ⟨g2', cap2, cur, q1, q2, q3, _⟩
            · rw [q] at e; cases e
            · rw [q1] at e
              injection e with e1
              injection e1 with e2
              injection e2 with e3
              subst e3
              rw [show w2.heap[V.heap.size + 1]? = _ from n3] at q3
              injection q3 with q4
              injection q4 with q5 q6
              exact absurd q6 (by decide)
        have o2' := o2.grown gs2 no2
        have B2' : Below V.heap.size V w2' := B2.grown gs2 B2.size (fun q e => by injection e with e; omega)
        obtain ⟨v3, w3, R3, o3, g3⟩ := append_str o2' name (by simp [hl, hsz]; omega) B2'.size
        have B3 : Below V.heap.size V w3 := B2'.grown g3 B2'.size (fun q e => (o2'.block q e).1)
        have n5 : Blk w3 (V.heap.size + 1) 24 [.int .i64 code, .int .i64 id, (.slice (some ⟨ga, 0, none⟩) La ca)] := (g3.block _ (Blk.lt n4) (by rcases no2 with h | h; rw [h]; simp; exact fun e => h e.symm)).trans n4
        obtain ⟨w3', hw3'⟩ : ∃ w3', w3.setCell ⟨V.heap.size + 1, 2, none⟩ v3 = w3' := ⟨_, rfl⟩
        have gs3 : w3.grownBy w3' (some (V.heap.size + 1)) := by rw [← hw3']; exact gset' _ _ _ _
        have n6 : Blk w3' (V.heap.size + 1) 24 [.int .i64 code, .int .i64 id, v3] := by rw [← hw3']; exact n5.set_ 2 v3
        have B3' : Below V.heap.size V w3' := B3.grown gs3 B3.size (fun q e => by injection e with e; omega)
        have hmk : [UInt8.ofNat n] ++ l ++ name.data.toList = mkL l name := by unfold mkL; rw [hl]
        rw [hmk] at o3
        have no3 : v3.ownBlock = none ∨ v3.ownBlock ≠ some (V.heap.size + 1) := by
          rcases o3.2 with ⟨q, _⟩ | ⟨g2', cap2, cur, q1, q2, q3, _⟩
          · exact .inl (by rw [q]; rfl)
          · refine .inr fun h => ?_
            rw [q1] at h
            simp only [Value.ownBlock, Option.some.injEq] at h
            subst h
            rw [show w3.heap[V.heap.size + 1]? = _ from n5] at q3
            injection q3 with q4
            injection q4 with q5 q6
            exact absurd q6 (by decide)
        have o3' := o3.grown gs3 no3
        obtain ⟨g, cap, hv3, hg, hgl, hcap⟩ : ∃ g cap, v3 = .slice (some ⟨g, 0, none⟩) (mkL l name).length cap ∧ V.heap.size ≤ g ∧ g < w3'.heap.size ∧ (mkL l name).length ≤ cap := by
          rcases o3'.form with ⟨_, hh⟩ | h
          · simp [mkL] at hh
          · exact h
        subst hv3
        obtain ⟨N, hN⟩ : ∃ N, (mkL l name).length = N := ⟨_, rfl⟩
        rw [hN] at R3 o3' n6 hw3'
        have z3 : Blk w3' w.heap.size 24 [.int .i64 0, .int .i64 0, .slice none 0 0] := (B3'.block _ (by omega)).trans h0
        have F : Hid (PktZ w code id (mkL l name) 0 (.returned (.tuple #[.agg #[.int .i64 code, .int .i64 id, .slice (some ⟨g, 0, none⟩) N cap], .int .i64 0])) (((w3'.setCell ⟨w.heap.size, 0, none⟩ (.int .i64 code)).setCell ⟨w.heap.size, 1, none⟩ (.int .i64 id)).setCell ⟨w.heap.size, 2, none⟩ (.slice (some ⟨g, 0, none⟩) N cap))) := by
          have gg := gset3 w3' w.heap.size (.int .i64 code) (.int .i64 id) (.slice (some ⟨g, 0, none⟩) N cap)
          refine ⟨below_row (bV.trans (B3'.mono (by omega))) gg (Nat.le_refl _), _, _, _, rfl, ?_⟩
          have h4 := o3'.grown gg (.inr (by simp [Value.ownBlock]; omega))
          refine ⟨h4.1, ?_⟩
          rcases h4.2 with h | ⟨g', cap', cur, e1, e2, e3⟩
          · exact .inl h
          · exact .inr ⟨g', cap', cur, e1, by omega, e3⟩
        have x0 := n2.cell 0
        have x1 := n2.cell 1
        have x2 := n2.cell 2
        have x3 := n3.cell 2
        have x4 := n3.frozen 2
        have x5 : w2'.cell? ⟨V.heap.size + 1, 2, none⟩ = some (.slice (some ⟨ga, 0, none⟩) La ca) := n4.cell 2
        have x6 : w3.cell? ⟨V.heap.size + 1, 2, none⟩ = some (.slice (some ⟨ga, 0, none⟩) La ca) := n5.cell 2
        have x7 := n5.frozen 2
        have y0 := n6.cell 0
        have y1 := n6.cell 1
        have y2 := n6.cell 2
        have m2 := Blk.lt n2
        have m3 := Blk.lt n3
        have m5 := Blk.lt n5
        have m6 := Blk.lt n6
        have f0 := z3.frozen 0
        have f1 := z3.frozen 1
        have f2 := z3.frozen 2
        have l3 := Blk.lt z3
        have q0 := z3.cell 0
        have q1 := z3.cell 1
        have q2 := z3.cell 2
        have Z3 := Lib.hid z3
        have HV1 := Lib.hid hV1
        have HV2 := Lib.hid hV2
        have HW2 := Lib.hid hw2'
        have HW3 := Lib.hid hw3'
        have R2H := Lib.hid R2
        have R3H := Lib.hid R3
        have zz := z1
        have w8 : IntKind.u8.wrap (n : Int) = n := by rw [IntKind.wrap_u8']; omega
        clear hLa he hV bV zV h0 hb4 BE hr hl hc hn hb p0 p1 p2 hV1 bV1 o1 hV2 bV2 bVV2 n2 R2 o2 g2 b2 B2 ne2 n3 hw2' gs2 n4 no2 o2' B2' R3 o3 g3 B3 n5 hw3' gs3 n6 B3' no3 o3' hmk hg hgl hcap hN z3 hz hsz z1 hi
        rcases hcc with rfl | rfl
        all_goals
          go_enter Tryd.func10, Tryd.ntmps10
          go_wp2_with (first
            | (rw [HV.out])
            | (go_at_call 32; ((with_reducible refine (NM.out _).mono ?_); rintro e w' ⟨rfl, rfl⟩))
            | (rw [HV1.out])
            | (rw [HV2.out])
            | (rw [HW2.out])
            | (rw [HW3.out])
            | (at_builtin; refine wpList_appT rfl (.tmp 47) (.tmp 48) #[22, 22] rfl _ _ rfl rfl _ _ R2H.out ?_)
            | (at_builtin; refine wpList_appT rfl (.tmp 52) (.tmp 53) #[22, 9] rfl _ _ rfl rfl _ _ R3H.out ?_))
          first
            | (have hb5 := blk3 (x := .int .i64 1) (y := .int .i64 id) (z := .slice (some ⟨g, 0, none⟩) N cap) Z3.out
               have p0 := hb5.cell 0
               have p1 := hb5.cell 1
               have p2 := hb5.cell 2
               exact bodyPost_ret (v := .tuple #[.agg #[.int .i64 1, .int .i64 id, .slice (some ⟨g, 0, none⟩) N cap], .int .i64 0]) (by simp [results, Tryd.results10, go_sem, p0, p1, p2]) rfl F.out)
            | (have hb5 := blk3 (x := .int .i64 2) (y := .int .i64 id) (z := .slice (some ⟨g, 0, none⟩) N cap) Z3.out
               have p0 := hb5.cell 0
               have p1 := hb5.cell 1
               have p2 := hb5.cell 2
               exact bodyPost_ret (v := .tuple #[.agg #[.int .i64 2, .int .i64 id, .slice (some ⟨g, 0, none⟩) N cap], .int .i64 0]) (by simp [results, Tryd.results10, go_sem, p0, p1, p2]) rfl F.out)
end Go.Proofs.YtnklamclcliddaaDoor
namespace Go.Proofs.YtnklamclcliddaaDoor
open Go.RowKit Go.Shelf
set_option maxRecDepth 100000
set_option maxHeartbeats 1000000
set_option linter.unusedSimpArgs false
set_option linter.unusedVariables false

theorem slice_part (A : Option Addr) (n c B k : Nat) (l : List UInt8) (w : World) (hr : Rd w B A n l) (hc : n ≤ c) (hnil : A = none → c = 0) (hk : 1 + k ≤ n) :
    ∃ A' c', (∀ W, (Instr.slice 22 (.slice A n c) (some (.int .i64 1)) (some (.int .i64 (1 + (k : Int)))) none).run Tryd.prog W = .ok (.slice A' k c') W) ∧ Rd w B A' k ((l.drop 1).take k) ∧ (A' = none → c' = 0) := by
  have hl := hr.1
  refine ⟨if c = 1 then A else A.map (·.add (1 * 1)), c - 1, fun W => ?_, ⟨by rw [List.length_take, List.length_drop]; omega, fun h0 => ?_⟩, fun h => ?_⟩
  · rw [run_slice_lh W 22 _ _ _ (by rw [slice_elem]; exact Tryd.underlying22) .i64 .i64 _ _ (by omega) (by omega) (by omega), slice_elem, byte_sizeOf]
    simp only [Result.andThen_ok, sliced]
    rw [show (1 + (k : Int)).toNat - (1 : Int).toNat = k by omega]
    rfl
  · obtain ⟨b, off, rfl, hb, hcell⟩ := hr.2 (by omega)
    refine ⟨b, off + 1, ?_, hb, fun j hj => ?_⟩
    · rw [if_neg (by omega)]
      simp [Addr.add]
    · rw [Nat.add_assoc, hcell (1 + j) (by omega)]
      congr 2
      unfold byteAt
      rw [List.getD_eq_getElem?_getD, List.getD_eq_getElem?_getD, List.getElem?_take_of_lt hj, List.getElem?_drop]
  · split at h
    · omega
    · cases A with
      | none => have := hnil rfl; omega
      | some a => simp at h
theorem rvV_eq {l : List UInt8} {N : Nat} (h : rvN l = N) : (l.drop 1).take N = rvV l := by
  unfold rvV
  rw [h]
def rrE (code id : Int) (l : List UInt8) : Int := if code ≠ 1 ∧ code ≠ 2 then 90 else rvE id l
def RRR (w : World) (code id : Int) (l : List UInt8) (e : Ending) (w' : World) : Prop :=
  Below w.heap.size w w' ∧ ∃ D k d, e = .returned (.tuple #[.slice D k d, .string (if rrE code id l = 0 then rvS l else ⟨#[]⟩), .int .i64 (rrE code id l)]) ∧ Own w' w.heap.size (.slice D k d) (if rrE code id l = 0 then rvV l else [])
theorem rrr_no {w w' : World} {code id : Int} {l : List UInt8} {er : Int} (h : rrE code id l = er) (h0 : er ≠ 0) (hB : Below w.heap.size w w') : RRR w code id l (.returned (.tuple #[.slice none 0 0, .string ⟨#[]⟩, .int .i64 er])) w' := by
  unfold RRR
  rw [h, if_neg h0, if_neg h0]
  exact ⟨hB, none, 0, 0, rfl, Own.nil _ _⟩
theorem rread_any (code id : Int) (A : Option Addr) (n c B : Nat) (l : List UInt8) (w : World) (hr : Rd w B A n l) (hB : B ≤ w.heap.size) (hc : n ≤ c) (hnil : A = none → c = 0) (hn : n ≤ 140737488355328) :
    Calls Tryd.prog 18 #[.agg #[.int .i64 code, .int .i64 id, .slice A n c]] w (RRR w code id l) := by
  have hl := hr.1
  obtain ⟨V, hV⟩ : ∃ V, w.alloc (.cells #[.int .i64 code, .int .i64 id, .slice A n c] 24) = V := ⟨_, rfl⟩
  have bV : Below w.heap.size w V := by rw [← hV]; exact (Below.refl _ _).alloc (Nat.le_refl _) _
  have h0 : Blk V w.heap.size 24 [.int .i64 code, .int .i64 id, .slice A n c] := by rw [← hV]; exact heap_alloc_new w _
  have r0 := h0.cell 0
  have r1 := h0.cell 1
  have r2 := h0.cell 2
  have lr := Blk.lt h0
  have rV := hr.below (bV.mono hB)
  have hBV := Nat.le_trans hB bV.size
  have DR : Hid (∀ q, Below w.heap.size w (V.drewN q)) := fun q => below_drewN bV q
  have DR0 : Hid (Below w.heap.size w V) := bV
  have HV := Lib.hid hV
  by_cases hcode : code ≠ 1 ∧ code ≠ 2
  · have N := Lib.hid (rrr_no (w := w) (w' := V) (code := code) (id := id) (l := l) (er := 90) (if_pos hcode) (by decide) bV)
    have c1 : (code != 1) = true := by simpa using hcode.1
    have c2 : (code != 2) = true := by simpa using hcode.2
    clear hV bV h0 rV hBV hr hl hcode
    go_enter Tryd.func18, Tryd.ntmps18
    go_wp2_with (rw [HV.out])
    all_goals exact bodyPost_ret (v := .tuple #[.slice none 0 0, .string ⟨#[]⟩, .int .i64 90]) (by simp [results, Tryd.results18, go_sem]) rfl N.out
  · have hcc : code = 1 ∨ code = 2 := by omega
    have hE : rrE code id l = rvE id l := if_neg hcode
    cases hi : idB id
    · have he : rvE id l = 90 := if_pos hi
      have N := Lib.hid (rrr_no (w := w) (w' := V) (code := code) (id := id) (l := l) (er := 90) (hE.trans he) (by decide) bV)
      have hi2 : id < 0 ∨ (¬ id < 0 ∧ 255 < id) := by
        simp only [idB, Bool.and_eq_false_iff, decide_eq_false_iff_not] at hi
        omega
      clear hV bV h0 rV hBV hr hl hcode hE he hi
      rcases hcc with rfl | rfl
      all_goals
        rcases hi2 with h | ⟨h, h'⟩
        all_goals
          go_enter Tryd.func18, Tryd.ntmps18
          go_wp2_with (rw [HV.out])
          all_goals exact bodyPost_ret (v := .tuple #[.slice none 0 0, .string ⟨#[]⟩, .int .i64 90]) (by simp [results, Tryd.results18, go_sem]) rfl N.out
    · have i01 : ¬ id < 0 ∧ ¬ 255 < id := by
        simp only [idB, Bool.and_eq_true, decide_eq_true_eq] at hi
        omega
      obtain ⟨i0, i1⟩ := i01
      by_cases hz : n = 0
      · subst hz
        have he : rvE id l = 8 := by unfold rvE; rw [if_neg (by rw [hi]; simp), if_pos (.inl (by omega))]
        have N : Hid (∀ q, RRR w code id l (.returned (.tuple #[.slice none 0 0, .string ⟨#[]⟩, .int .i64 8])) (V.drewN q)) := fun q => rrr_no (hE.trans he) (by decide) (below_drewN bV q)
        clear hV bV h0 rV hBV hr hl hcode hE he hi
        rcases hcc with rfl | rfl
        all_goals
          go_enter Tryd.func18, Tryd.ntmps18
          go_upto_region 3 with (rw [HV.out])
          go_quiet (fail)
          go_wp2_with (rw [HV.out])
          all_goals exact bodyPost_ret (v := .tuple #[.slice none 0 0, .string ⟨#[]⟩, .int .i64 8]) (by simp [results, Tryd.results18, go_sem]) rfl (N.out _)
      · obtain ⟨b, off, rfl, hb, hcell⟩ := rV.2 (by omega)
        obtain ⟨N, hN⟩ : ∃ N, rvN l = N := ⟨_, rfl⟩
        have hN2 : N < 256 := by rw [← hN]; exact rvN_lt l
        have c0 : V.cell? ⟨b, off, none⟩ = some (.int .u8 (N : Int)) := by
          have h := hcell 0 (by omega)
          rw [Nat.add_zero] at h
          rw [h, ← hN]
          unfold rvN byteAt
          cases l with
          | nil => simp at hl; omega
          | cons x t => rfl
        have g1 : decide ((n : Int) < 1) = false := by rw [decide_eq_false_iff_not]; omega
        have ws : IntKind.i64.wrap ((n : Int) - 1) = (n : Int) - 1 := by rw [IntKind.wrap_i64]; omega
        have w1 : IntKind.i64.wrap (1 + (N : Int)) = 1 + (N : Int) := by rw [IntKind.wrap_i64]; omega
        by_cases hs : n - 1 < N
        · have he : rvE id l = 8 := by unfold rvE; rw [if_neg (by rw [hi]; simp), if_pos (.inr (by rw [hN]; omega))]
          have F : Hid (∀ q, RRR w code id l (.returned (.tuple #[.slice none 0 0, .string ⟨#[]⟩, .int .i64 8])) (V.drewN q)) := fun q => rrr_no (hE.trans he) (by decide) (below_drewN bV q)
          have g2 : decide ((n : Int) - 1 < (N : Int)) = true := by rw [decide_eq_true_iff]; omega
          clear hV bV h0 rV hBV hr hl hcode hE he hi hcell hN
          rcases hcc with rfl | rfl
          all_goals
            go_enter Tryd.func18, Tryd.ntmps18
            go_upto_region 3 with (rw [HV.out])
            go_quiet (fail)
            go_wp2_with (rw [HV.out])
            all_goals exact bodyPost_ret (v := .tuple #[.slice none 0 0, .string ⟨#[]⟩, .int .i64 8]) (by simp [results, Tryd.results18, go_sem]) rfl (F.out _)
        · have g2 : decide ((n : Int) - 1 < (N : Int)) = false := by rw [decide_eq_false_iff_not]; omega
          by_cases hz0 : N = 0
          · subst hz0
            have he : rvE id l = 4 := by unfold rvE; rw [if_neg (by rw [hi]; simp), if_neg (by rw [hN]; omega), if_pos hN]
            have F : Hid (∀ q, RRR w code id l (.returned (.tuple #[.slice none 0 0, .string ⟨#[]⟩, .int .i64 4])) (V.drewN q)) := fun q => rrr_no (hE.trans he) (by decide) (below_drewN bV q)
            clear hV bV h0 rV hBV hr hl hcode hE he hi hcell hN
            rcases hcc with rfl | rfl
            all_goals
              go_enter Tryd.func18, Tryd.ntmps18
              go_upto_region 3 with (rw [HV.out])
              go_quiet (fail)
              go_wp2_with (rw [HV.out])
              all_goals exact bodyPost_ret (v := .tuple #[.slice none 0 0, .string ⟨#[]⟩, .int .i64 4]) (by simp [results, Tryd.results18, go_sem]) rfl (F.out _)
          · have z0 : ((N : Int) == 0) = false := by simpa using hz0
            have z1 : ¬ (N : Int) = 0 := by omega
            obtain ⟨A1, c1, s1, t1, u1, v1⟩ := slice_from (some ⟨b, off, none⟩) n c B (1 + N) l V rV hc hnil (by omega)
            obtain ⟨A2, c2, s2, t2, u2⟩ := slice_part (some ⟨b, off, none⟩) n c B N l V rV hc hnil (by omega)
            have CV : Hid (∀ q, (convert 22 9 (.slice A1 (n - (1 + N)) c1)).run Tryd.prog (V.drewN q) = .ok (.string (rvS l)) (V.drewN q)) := fun q => by
              have h := conv_run (t1.drewN q) c1
              unfold rvS
              rw [hN]
              exact h
            have hsz : (rvS l).size ≤ maxLen := by
              unfold rvS maxLen
              rw [strOf_size, List.length_drop]
              omega
            have NM := Lib.hid (fun W => rname_any (rvS l) W hsz)
            push_cast at s1
            cases hb2 : nameB (rvS l)
            · have he : rvE id l = 60 := by unfold rvE; rw [if_neg (by rw [hi]; simp), if_neg (by rw [hN]; omega), if_neg (by rw [hN]; exact hz0)]; exact if_pos hb2
              have F : Hid (∀ q, RRR w code id l (.returned (.tuple #[.slice none 0 0, .string ⟨#[]⟩, .int .i64 60])) (V.drewN q)) := fun q => rrr_no (hE.trans he) (by decide) (below_drewN bV q)
              rw [hb2] at NM
              obtain ⟨nm, hnm⟩ : ∃ nm, rvS l = nm := ⟨_, rfl⟩
              rw [hnm] at NM CV
              clear hV bV h0 rV hBV hr hl hcode hE he hi hcell hN t1 u1 v1 s2 t2 u2 hb2 hsz hnm
              rcases hcc with rfl | rfl
              all_goals
                go_enter Tryd.func18, Tryd.ntmps18
                go_upto_region 3 with (rw [HV.out])
                go_quiet (fail)
                go_wp2_with (first
                  | (rw [CV.out])
                  | (go_at_call 32; ((with_reducible refine (NM.out _).mono ?_); rintro e w' ⟨rfl, rfl⟩)))
                all_goals exact bodyPost_ret (v := .tuple #[.slice none 0 0, .string ⟨#[]⟩, .int .i64 60]) (by simp [results, Tryd.results18, go_sem]) rfl (F.out _)
            · have he : rvE id l = 0 := by unfold rvE; rw [if_neg (by rw [hi]; simp), if_neg (by rw [hN]; omega), if_neg (by rw [hN]; exact hz0), if_neg (by show ¬ nameB (rvS l) = false; rw [hb2]; simp)]
              have hE0 := hE.trans he
              have AP : Hid (∀ q, ∃ D k d w2, (Builtin.append_ #[22, 22] 22 #[.slice none 0 0, .slice A2 N c2]).run Tryd.prog (V.drewN q) = .ok (.slice D k d) w2 ∧ RRR w code id l (.returned (.tuple #[.slice D k d, .string (rvS l), .int .i64 0])) w2) := fun q => by
                obtain ⟨v', w2, R, o2, g2, b2⟩ := append_run (Own.nil (V.drewN q) (V.drewN q).heap.size) c2 (t2.drewN q) u2 (by simp; omega) (Nat.le_refl _)
                have hv := rvV_eq hN
                obtain ⟨D, k, d, rfl⟩ : ∃ D k d, v' = .slice D k d := by
                  rcases o2.form with ⟨e, _⟩ | ⟨g, cap, e, _⟩
                  · exact ⟨_, _, _, e⟩
                  · exact ⟨_, _, _, e⟩
                refine ⟨D, k, d, w2, R, ?_⟩
                unfold RRR
                rw [hE0, if_pos rfl, if_pos rfl]
                have bq := below_drewN bV q
                have g3 : Below w.heap.size w w2 := bq.grown g2 bq.size (fun g e => by simp [Value.ownBlock] at e)
                refine ⟨g3, D, k, d, rfl, ?_⟩
                rw [List.nil_append, hv] at o2
                have hle : w.heap.size ≤ (V.drewN q).heap.size := bq.size
                refine ⟨o2.1, ?_⟩
                rcases o2.2 with h | ⟨g', cap', cur, e1, e2, e3⟩
                · exact .inl h
                · exact .inr ⟨g', cap', cur, e1, by omega, e3⟩
              rw [hb2] at NM
              obtain ⟨nm, hnm⟩ : ∃ nm, rvS l = nm := ⟨_, rfl⟩
              rw [hnm] at NM CV AP
              clear hV bV h0 rV hBV hr hl hcode hE he hE0 hi hcell hN t1 u1 v1 t2 u2 hb2 hsz hnm
              rcases hcc with rfl | rfl
              all_goals
                go_enter Tryd.func18, Tryd.ntmps18
                go_upto_region 3 with (rw [HV.out])
                go_quiet (fail)
                go_wp2_with (first
                  | (rw [CV.out])
                  | (go_at_call 32; ((with_reducible refine (NM.out _).mono ?_); rintro e w' ⟨rfl, rfl⟩))
                  | (at_builtin; obtain ⟨D, k, d, w2, R, FN⟩ := AP.out _; have R2 := Lib.hid R; have F := Lib.hid FN; clear R FN; refine wpList_appT rfl (.tmp 58) (.tmp 63) #[22, 22] rfl _ _ rfl rfl _ _ R2.out ?_))
                all_goals exact bodyPost_ret (v := .tuple #[.slice D k d, .string nm, .int .i64 0]) (by simp [results, Tryd.results18, go_sem]) rfl F.out
end Go.Proofs.YtnklamclcliddaaDoor
