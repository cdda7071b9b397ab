/-
  chap.Make, tetherref13.Make (written by gen_chmake.py).
-/
import Derived.Test.YtdijgmijnoiliaaDoorMdAppStr
import Derived.Test.YtdijgmijnoiliaaDoorMdConv
import Derived.Test.YtdijgmijnoiliaaDoorSeBase
namespace Go.Proofs.YtdijgmijnoiliaaDoor
open Go.RowKit Go.Shelf
set_option maxRecDepth 100000
set_option maxHeartbeats 800000
set_option linter.unusedSimpArgs false
set_option linter.unusedVariables false

def idB (id : Int) : Bool := decide (0 ≤ id) && decide (id ≤ 255)
theorem gset' (w : World) (g i : Nat) (u : Value) : w.grownBy (w.setCell ⟨g, i, none⟩ u) (some g) :=
  ⟨rfl, rfl, rfl, by simp [World.setCell], fun k _ hne => Below.heap_setCell w ⟨g, i, none⟩ u k (fun e => hne (by rw [e]))⟩
theorem gtrans' {a b c : World} {g : Nat} (h : a.grownBy b (some g)) (k : b.grownBy c (some g)) : a.grownBy c (some g) :=
  ⟨k.os.trans h.os, k.tape.trans h.tape, k.output.trans h.output, Nat.le_trans h.size k.size, fun i hi hne => (k.block i (Nat.lt_of_lt_of_le hi h.size) hne).trans (h.block i hi hne)⟩
theorem gset3 (w : World) (g : Nat) (a b c : Value) : w.grownBy (((w.setCell ⟨g, 0, none⟩ a).setCell ⟨g, 1, none⟩ b).setCell ⟨g, 2, none⟩ c) (some g) :=
  gtrans' (gtrans' (gset' _ _ _ _) (gset' _ _ _ _)) (gset' _ _ _ _)
theorem blk3 {W : World} {g t : Nat} {a b c x y z : Value} (h : Blk W g t [a, b, c]) : Blk (((W.setCell ⟨g, 0, none⟩ x).setCell ⟨g, 1, none⟩ y).setCell ⟨g, 2, none⟩ z) g t [x, y, z] := ((h.set_ 0 x).set_ 1 y).set_ 2 z
theorem below_only {W W' : World} {g : Nat} (h : Below W.heap.size W W') : W.grownBy W' (some g) := ⟨h.os, h.tape, h.output, h.size, fun i hi _ => h.block i hi⟩
theorem below_row {w W W' : World} {g : Nat} (h : Below w.heap.size w W) (k : W.grownBy W' (some g)) (hg : w.heap.size ≤ g) : Below w.heap.size w W' :=
  ⟨k.os.trans h.os, k.tape.trans h.tape, k.output.trans h.output, Nat.le_trans h.size k.size, fun i hi => (k.block i (Nat.lt_of_lt_of_le hi h.size) (by intro e; injection e with e; omega)).trans (h.block i hi)⟩
theorem blk_off {W W' : World} {g i t : Nat} {cs : List Value} (h : Blk W i t cs) (k : W.grownBy W' (some g)) (hne : i ≠ g) : Blk W' i t cs :=
  (k.block i (Blk.lt h) (by intro e; injection e with e; omega)).trans h
theorem past_same {W W' : World} {g t : Nat} {cs : List Value} (h : Blk W g t cs) (hb : Below W.heap.size W W') : Blk W' g t cs := (hb.block _ (Blk.lt h)).trans h
theorem step_to {w0 W W' : World} (h : Below w0.heap.size w0 W) (b : Below W.heap.size W W') : Below w0.heap.size w0 W' := h.trans (b.mono h.size)
/-- a packet, and what went wrong -/
def PktR (w : World) (code id : Int) (l : List UInt8) (err : Int) (e : Ending) (w' : World) : Prop :=
  Below w.heap.size w w' ∧ ∃ D k d, e = .returned (.tuple #[.agg #[.int .i64 code, .int .i64 id, .slice D k d], .int .i64 err]) ∧ Own w' w.heap.size (.slice D k d) l
def PktZ (w : World) (code id : Int) (l : List UInt8) (err : Int) (e : Ending) (w' : World) : Prop :=
  PktR w (if err = 0 then code else 0) (if err = 0 then id else 0) (if err = 0 then l else []) err e w'
theorem pktZ_no {w w' : World} {code id err : Int} {l : List UInt8} (he : err ≠ 0) (hB : Below w.heap.size w w') : PktZ w code id l err (.returned (.tuple #[.agg #[.int .i64 0, .int .i64 0, .slice none 0 0], .int .i64 err])) w' := by
  unfold PktZ
  rw [if_neg he, if_neg he, if_neg he]
  exact ⟨hB, none, 0, 0, rfl, Own.nil _ _⟩
theorem idRight_any (id : Int) (w : World) : Calls Tryd.prog 31 #[.int .i64 id] w fun e w' => e = .returned (.bool (idB id)) ∧ w = w' := by
  unfold idB
  by_cases h0 : 0 ≤ id
  · rw [decide_eq_true h0]
    by_cases h1 : id ≤ 255
    · rw [decide_eq_true h1]
      go_enter Tryd.func31, Tryd.ntmps31
      go_wp2
      go_ret
      exact ⟨rfl, rfl⟩
    · rw [decide_eq_false h1]
      go_enter Tryd.func31, Tryd.ntmps31
      go_wp2
      go_ret
      exact ⟨rfl, rfl⟩
  · rw [decide_eq_false h0]
    go_enter Tryd.func31, Tryd.ntmps31
    go_wp2
    go_ret
    exact ⟨rfl, rfl⟩
/-- what goes wrong with a challenge, or a response -/
def mkE (code id : Int) (n : Nat) (name : ByteArray) : Int := if (code ≠ 1 ∧ code ≠ 2) ∨ idB id = false then 90 else if n < 1 ∨ 255 < n then 4 else if nameB name = false then 60 else 0
/-- its bytes -/
def mkL (l : List UInt8) (name : ByteArray) : List UInt8 := [UInt8.ofNat l.length] ++ l ++ name.data.toList
theorem make_any (code id : Int) (A : Option Addr) (n c B : Nat) (l : List UInt8) (name : ByteArray) (w : World) (hr : Rd w B A n l) (hB : B ≤ w.heap.size) (hnil : A = none → c = 0) (hm : n ≤ 140737488355328) (hs : name.size ≤ maxLen) :
    Calls Tryd.prog 8 #[.int .i64 code, .int .i64 id, .slice A n c, .string name] w (PktZ w code id (mkL l name) (mkE code id n name)) := by
  have hl := hr.1
  obtain ⟨V, hV⟩ : ∃ V, w.alloc (.cells #[.int .i64 0, .int .i64 0, .slice none 0 0] 24) = V := ⟨_, rfl⟩
  have bV : Below w.heap.size w V := by rw [← hV]; exact (Below.refl _ _).alloc (Nat.le_refl _) _
  have zV : V.heap.size = w.heap.size + 1 := by rw [← hV]; simp
  have h0 : Blk V w.heap.size 24 [.int .i64 0, .int .i64 0, .slice none 0 0] := by rw [← hV]; exact heap_alloc_new w _
  have r0 := h0.cell 0
  have r1 := h0.cell 1
  have r2 := h0.cell 2
  have e0 := h0.frozen 0
  have e1 := h0.frozen 1
  have e2 := h0.frozen 2
  have lr := Blk.lt h0
  have hb4 := blk3 (x := .int .i64 0) (y := .int .i64 0) (z := .slice none 0 0) h0
  have p0 := hb4.cell 0
  have p1 := hb4.cell 1
  have p2 := hb4.cell 2
  have BE : Below w.heap.size w (((V.setCell ⟨w.heap.size, 0, none⟩ (.int .i64 0)).setCell ⟨w.heap.size, 1, none⟩ (.int .i64 0)).setCell ⟨w.heap.size, 2, none⟩ (.slice none 0 0)) := below_row bV (gset3 _ _ _ _ _) (Nat.le_refl _)
  have HV := Lib.hid hV
  have NM := Lib.hid (fun W => name_any name W hs)
  have IDR := Lib.hid (fun W => idRight_any id W)
  by_cases hc : (code ≠ 1 ∧ code ≠ 2) ∨ idB id = false
  · have he : mkE code id n name = 90 := if_pos hc
    have F := Lib.hid (pktZ_no (code := code) (id := id) (l := mkL l name) (err := 90) (by decide) BE)
    rw [he]
    clear he hV bV zV h0 hb4 BE hr hl
    by_cases hc1 : code ≠ 1 ∧ code ≠ 2
    · have c1 : (code != 1) = true := by simpa using hc1.1
      have c2 : (code != 2) = true := by simpa using hc1.2
      clear hc hc1
      go_enter Tryd.func8, Tryd.ntmps8
      go_wp2_with (first
        | (rw [HV.out])
        | (go_at_call 31; ((with_reducible refine (IDR.out _).mono ?_); rintro e w' ⟨rfl, rfl⟩)))
      exact bodyPost_ret (v := .tuple #[.agg #[.int .i64 0, .int .i64 0, .slice none 0 0], .int .i64 90]) (by simp [results, Tryd.results8, go_sem, p0, p1, p2]) rfl F.out
    · have hi := hc.resolve_left hc1
      have hcc : code = 1 ∨ code = 2 := by omega
      rw [hi] at IDR
      clear hc hc1 hi
      rcases hcc with rfl | rfl
      all_goals
        go_enter Tryd.func8, Tryd.ntmps8
        go_wp2_with (first
          | (rw [HV.out])
          | (go_at_call 31; ((with_reducible refine (IDR.out _).mono ?_); rintro e w' ⟨rfl, rfl⟩)))
        exact bodyPost_ret (v := .tuple #[.agg #[.int .i64 0, .int .i64 0, .slice none 0 0], .int .i64 90]) (by simp [results, Tryd.results8, go_sem, p0, p1, p2]) rfl F.out
  · have hcc : code = 1 ∨ code = 2 := by omega
    have hi : idB id = true := by
      cases h : idB id
      · exact absurd (.inr h) hc
      · rfl
    rw [hi] at IDR
    by_cases hn : n < 1 ∨ 255 < n
    · have he : mkE code id n name = 4 := by unfold mkE; rw [if_neg hc, if_pos hn]
      have F := Lib.hid (pktZ_no (code := code) (id := id) (l := mkL l name) (err := 4) (by decide) BE)
      rw [he]
      clear he hV bV zV h0 hb4 BE hr hl hc
      by_cases hn1 : n < 1
      · have n1 : (n : Int) < 1 := by omega
        clear hn hn1
        rcases hcc with rfl | rfl
        all_goals
          go_enter Tryd.func8, Tryd.ntmps8
          go_wp2_with (first
            | (rw [HV.out])
            | (go_at_call 31; ((with_reducible refine (IDR.out _).mono ?_); rintro e w' ⟨rfl, rfl⟩)))
          exact bodyPost_ret (v := .tuple #[.agg #[.int .i64 0, .int .i64 0, .slice none 0 0], .int .i64 4]) (by simp [results, Tryd.results8, go_sem, p0, p1, p2]) rfl F.out
      · have n1 : ¬ (n : Int) < 1 := by omega
        have n2 : (255 : Int) < (n : Int) := by omega
        clear hn hn1
        rcases hcc with rfl | rfl
        all_goals
          go_enter Tryd.func8, Tryd.ntmps8
          go_wp2_with (first
            | (rw [HV.out])
            | (go_at_call 31; ((with_reducible refine (IDR.out _).mono ?_); rintro e w' ⟨rfl, rfl⟩)))
          exact bodyPost_ret (v := .tuple #[.agg #[.int .i64 0, .int .i64 0, .slice none 0 0], .int .i64 4]) (by simp [results, Tryd.results8, go_sem, p0, p1, p2]) rfl F.out
    · have n1 : ¬ (n : Int) < 1 := by omega
      have n2 : ¬ (255 : Int) < (n : Int) := by omega
      cases hb : nameB name
      · have he : mkE code id n name = 60 := by unfold mkE; rw [if_neg hc, if_neg hn, if_pos hb]
        have F := Lib.hid (pktZ_no (code := code) (id := id) (l := mkL l name) (err := 60) (by decide) BE)
        rw [he]
        rw [hb] at NM
        clear he hV bV zV h0 hb4 BE hr hl hc hn hb
        rcases hcc with rfl | rfl
        all_goals
          go_enter Tryd.func8, Tryd.ntmps8
          go_wp2_with (first
            | (rw [HV.out])
            | (go_at_call 32; ((with_reducible refine (NM.out _).mono ?_); rintro e w' ⟨rfl, rfl⟩))
            | (go_at_call 31; ((with_reducible refine (IDR.out _).mono ?_); rintro e w' ⟨rfl, rfl⟩)))
          exact bodyPost_ret (v := .tuple #[.agg #[.int .i64 0, .int .i64 0, .slice none 0 0], .int .i64 60]) (by simp [results, Tryd.results8, go_sem, p0, p1, p2]) rfl F.out
      · have he : mkE code id n name = 0 := by unfold mkE; rw [if_neg hc, if_neg hn, if_neg (by rw [hb]; simp)]
        rw [he]
        rw [hb] at NM
        have hz : name.size ≤ 64 := by simp [nameB] at hb; exact hb.2.1
        have hsz : name.data.toList.length = name.size := Array.length_toList
        -- the bytes
        obtain ⟨V1, hV1⟩ : ∃ V1, V.alloc (.cells #[.int .u8 (n : Int)] 5) = V1 := ⟨_, rfl⟩
        have bV1 : Below V.heap.size V V1 := by rw [← hV1]; exact (Below.refl _ _).alloc (Nat.le_refl _) _
        have o1 : Own V1 V.heap.size (.slice (some ⟨V.heap.size, 0, none⟩) 1 1) [UInt8.ofNat n] := by rw [← hV1]; exact own_one V V.heap.size (UInt8.ofNat n) n (by simp; omega) (Nat.le_refl _)
        obtain ⟨v2, w2, R2, o2, g2, b2⟩ := append_run o1 c ((hr.below (bV.mono hB)).below (bV1.mono (by omega))) hnil (by simp; omega) bV1.size
        have B2 : Below V.heap.size V w2 := bV1.grown g2 bV1.size (fun q e => (o1.block q e).1)
        obtain ⟨v3, w3, R3, o3, g3⟩ := append_str o2 name (by simp [hl, hsz]; omega) B2.size
        have B3 : Below V.heap.size V w3 := B2.grown g3 B2.size (fun q e => (o2.block q e).1)
        have hmk : [UInt8.ofNat n] ++ l ++ name.data.toList = mkL l name := by unfold mkL; rw [hl]
        rw [hmk] at o3
        obtain ⟨g, cap, hv3, hg, hgl, hcap⟩ : ∃ g cap, v3 = .slice (some ⟨g, 0, none⟩) (mkL l name).length cap ∧ V.heap.size ≤ g ∧ g < w3.heap.size ∧ (mkL l name).length ≤ cap := by
          rcases o3.form with ⟨_, hh⟩ | h
          · simp [mkL] at hh
          · exact h
        subst hv3
        obtain ⟨N, hN⟩ : ∃ N, (mkL l name).length = N := ⟨_, rfl⟩
        rw [hN] at R3 o3
        have z3 : Blk w3 w.heap.size 24 [.int .i64 0, .int .i64 0, .slice none 0 0] := (B3.block _ (by omega)).trans h0
        have F : Hid (PktZ w code id (mkL l name) 0 (.returned (.tuple #[.agg #[.int .i64 code, .int .i64 id, .slice (some ⟨g, 0, none⟩) N cap], .int .i64 0])) (((w3.setCell ⟨w.heap.size, 0, none⟩ (.int .i64 code)).setCell ⟨w.heap.size, 1, none⟩ (.int .i64 id)).setCell ⟨w.heap.size, 2, none⟩ (.slice (some ⟨g, 0, none⟩) N cap))) := by
          have gg := gset3 w3 w.heap.size (.int .i64 code) (.int .i64 id) (.slice (some ⟨g, 0, none⟩) N cap)
          refine ⟨below_row (bV.trans (B3.mono (by omega))) gg (Nat.le_refl _), _, _, _, rfl, ?_⟩
          have h4 := o3.grown gg (.inr (by simp [Value.ownBlock]; omega))
          refine ⟨h4.1, ?_⟩
          rcases h4.2 with h | ⟨g', cap', cur, e1, e2, e3⟩
          · exact .inl h
          · exact .inr ⟨g', cap', cur, e1, by omega, e3⟩
        have f0 := z3.frozen 0
        have f1 := z3.frozen 1
        have f2 := z3.frozen 2
        have l3 := Blk.lt z3
        have q0 := z3.cell 0
        have q1 := z3.cell 1
        have q2 := z3.cell 2
        have Z3 := Lib.hid z3
        have HV1 := Lib.hid hV1
        have R2H := Lib.hid R2
        have R3H := Lib.hid R3
        have w8 : IntKind.u8.wrap (n : Int) = n := by rw [IntKind.wrap_u8']; omega
        clear he hV bV zV h0 hb4 BE hr hl hc hn hb p0 p1 p2 hV1 bV1 o1 R2 o2 g2 b2 B2 R3 o3 g3 B3 hmk hg hgl hcap hN z3 hz hsz
        rcases hcc with rfl | rfl
        all_goals
          go_enter Tryd.func8, Tryd.ntmps8
          go_wp2_with (first
            | (rw [HV.out])
            | (go_at_call 32; ((with_reducible refine (NM.out _).mono ?_); rintro e w' ⟨rfl, rfl⟩))
            | (go_at_call 31; ((with_reducible refine (IDR.out _).mono ?_); rintro e w' ⟨rfl, rfl⟩))
            | (rw [HV1.out])
            | (at_builtin; refine wpList_appT rfl (.tmp 42) (.tmp 43) #[22, 22] rfl _ _ rfl rfl _ _ R2H.out ?_)
            | (at_builtin; refine wpList_appT rfl (.tmp 47) (.tmp 48) #[22, 9] rfl _ _ rfl rfl _ _ R3H.out ?_))
          first
            | (have hb5 := blk3 (x := .int .i64 1) (y := .int .i64 id) (z := .slice (some ⟨g, 0, none⟩) N cap) Z3.out
               have p0 := hb5.cell 0
               have p1 := hb5.cell 1
               have p2 := hb5.cell 2
               exact bodyPost_ret (v := .tuple #[.agg #[.int .i64 1, .int .i64 id, .slice (some ⟨g, 0, none⟩) N cap], .int .i64 0]) (by simp [results, Tryd.results8, go_sem, p0, p1, p2]) rfl F.out)
            | (have hb5 := blk3 (x := .int .i64 2) (y := .int .i64 id) (z := .slice (some ⟨g, 0, none⟩) N cap) Z3.out
               have p0 := hb5.cell 0
               have p1 := hb5.cell 1
               have p2 := hb5.cell 2
               exact bodyPost_ret (v := .tuple #[.agg #[.int .i64 2, .int .i64 id, .slice (some ⟨g, 0, none⟩) N cap], .int .i64 0]) (by simp [results, Tryd.results8, go_sem, p0, p1, p2]) rfl F.out)
end Go.Proofs.YtdijgmijnoiliaaDoor
