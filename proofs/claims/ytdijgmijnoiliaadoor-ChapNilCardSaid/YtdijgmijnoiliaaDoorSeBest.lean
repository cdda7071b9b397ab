/-
  secret.best.
-/
import Derived.Test.YtdijgmijnoiliaaDoorSeClone
namespace Go.Proofs.YtdijgmijnoiliaaDoor
open Go.RowKit Go.Shelf
set_option maxRecDepth 100000
set_option maxHeartbeats 4000000
set_option linter.unusedSimpArgs false
set_option linter.unusedVariables false

def star : ByteArray := ⟨#[42]⟩
theorem star_size : star.size = 1 := rfl
theorem star_list (s : ByteArray) : (s.toList == [42]) = decide (s = star) := by
  have e : s.toList = s.data.toList := ByteArray.toList_eq s
  rw [e, Bool.eq_iff_iff, beq_iff_eq, decide_eq_true_iff]
  constructor
  · intro h
    exact WideShapes.bytes_inj (h.trans rfl)
  · intro h
    rw [h]
    rfl
/-- of the pairs that hold for a client and a server, the best one first -/
def pairsOf (c s : ByteArray) : List (ByteArray × ByteArray) := [(c, s), (c, star), (star, s), (star, star)]
/-- the best line's place -/
noncomputable def bst (ss : List Sec) (c s : ByteArray) : Option Nat :=
  if c = star ∨ s = star then none else (pairsOf c s).findSome? fun p => fst ss p.1 p.2
theorem fst_lt {ss : List Sec} {a c : ByteArray} {i : Nat} (h : fst ss a c = some i) : ∃ x, ss[i]? = some x ∧ x.cl = a ∧ x.sv = c ∧ rightE x = 0 := by
  unfold fst at h
  rw [List.findIdx?_eq_some_iff_getElem] at h
  obtain ⟨hi, h1, _⟩ := h
  exact ⟨ss[i], List.getElem?_eq_getElem hi, of_decide_eq_true h1⟩
/-- what best answers -/
def BestR (w : World) (ss : List Sec) (o : Option Nat) (e : Ending) (w' : World) : Prop :=
  Below w.heap.size w w' ∧ match o with
    | none => e = .returned (.tuple #[.agg #[.string ⟨#[]⟩, .string ⟨#[]⟩, .string ⟨#[]⟩, .slice none 0 0], .bool false])
    | some i => ∃ x E m k, ss[i]? = some x ∧ e = .returned (.tuple #[.agg #[.string x.cl, .string x.sv, .string x.wd, .slice E m k], .bool true]) ∧ AdRd w' w'.heap.size E m k x.ad ∧ (∀ b o s, E = some ⟨b, o, s⟩ → w.heap.size ≤ b ∧ b < w'.heap.size)
theorem best_star (A : Option Addr) (n c : Nat) (mb : Option Nat) (ss : List Sec) (cl sv : ByteArray) (w : World) (h : cl = star ∨ sv = star) :
    Calls Tryd.prog 63 #[.slice A n c, .map mb, .string cl, .string sv] w (BestR w ss (bst ss cl sv)) := by
  have hb : Hid (bst ss cl sv = none) := if_pos h
  rw [hb.out]
  have R : Hid (∀ W, Below w.heap.size w W → BestR w ss none (.returned (.tuple #[.agg #[.string ⟨#[]⟩, .string ⟨#[]⟩, .string ⟨#[]⟩, .slice none 0 0], .bool false])) W) := fun W hB => ⟨hB, rfl⟩
  by_cases h1 : cl = star
  · have e1 : (cl.toList == [42]) = true := by rw [star_list]; simpa using h1
    clear h h1
    go_enter Tryd.func63, Tryd.ntmps63
    go_wp2
    refine bodyPost_ret (v := .tuple #[.agg #[.string ⟨#[]⟩, .string ⟨#[]⟩, .string ⟨#[]⟩, .slice none 0 0], .bool false]) (by simp [results, Tryd.results63, go_sem]) rfl ?_
    exact R.out _ ((Below.refl _ _).alloc (Nat.le_refl _) _)
  · have h2 : sv = star := h.resolve_left h1
    have e1 : (cl.toList == [42]) = false := by rw [star_list]; simpa using h1
    have e2 : (sv.toList == [42]) = true := by rw [star_list]; simpa using h2
    clear h h1 h2
    go_enter Tryd.func63, Tryd.ntmps63
    go_wp2
    refine bodyPost_ret (v := .tuple #[.agg #[.string ⟨#[]⟩, .string ⟨#[]⟩, .string ⟨#[]⟩, .slice none 0 0], .bool false]) (by simp [results, Tryd.results63, go_sem]) rfl ?_
    exact R.out _ ((Below.refl _ _).alloc (Nat.le_refl _) _)
theorem best_any (A : Option Addr) (n c B mb mn : Nat) (ss : List Sec) (cl sv : ByteArray) (w : World) (h : SecRd w B A n ss) (hM : MapP w mb mn (fst ss)) (hB : B ≤ w.heap.size) (hcl : cl.size ≤ maxLen) (hsv : sv.size ≤ maxLen) :
    Calls Tryd.prog 63 #[.slice A n c, .map (some mb), .string cl, .string sv] w (BestR w ss (bst ss cl sv)) := by
  by_cases hst : cl = star ∨ sv = star
  · exact best_star A n c (some mb) ss cl sv w hst
  have hb : Hid (bst ss cl sv = (pairsOf cl sv).findSome? fun p => fst ss p.1 p.2) := if_neg hst
  have e1 : (cl.toList == [42]) = false := by rw [star_list]; simpa using fun e => hst (.inl e)
  have e2 : (sv.toList == [42]) = false := by rw [star_list]; simpa using fun e => hst (.inr e)
  have HS := Lib.hid h
  have HM := Lib.hid hM
  clear h hM hst
  obtain ⟨W1, hW1⟩ : ∃ W1, w.alloc (.cells #[.string ⟨#[]⟩, .string ⟨#[]⟩, .string ⟨#[]⟩, .slice none 0 0] 44) = W1 := ⟨_, rfl⟩
  have hz1 : W1.heap.size = w.heap.size + 1 := by rw [← hW1]; simp
  have hB1 : Below w.heap.size w W1 := by rw [← hW1]; exact (Below.refl _ _).alloc (Nat.le_refl _) _
  have hn1 : Blk W1 w.heap.size 44 [.string ⟨#[]⟩, .string ⟨#[]⟩, .string ⟨#[]⟩, .slice none 0 0] := by rw [← hW1]; exact heap_alloc_new w _
  obtain ⟨W2, hW2⟩ : ∃ W2, W1.alloc (.cells #[.string cl, .string sv, .string cl, .string ⟨#[42]⟩, .string ⟨#[42]⟩, .string sv, .string ⟨#[42]⟩, .string ⟨#[42]⟩] 116) = W2 := ⟨_, rfl⟩
  have hz2 : W2.heap.size = w.heap.size + 2 := by rw [← hW2]; simp; omega
  have hB2 : Below W1.heap.size W1 W2 := by rw [← hW2]; exact (Below.refl _ _).alloc (Nat.le_refl _) _
  have hn2 : Blk W2 (w.heap.size + 1) 116 [.string cl, .string sv, .string cl, .string ⟨#[42]⟩, .string ⟨#[42]⟩, .string sv, .string ⟨#[42]⟩, .string ⟨#[42]⟩] := by rw [← hW2, ← hz1]; exact heap_alloc_new W1 _
  have hn1' : Blk W2 w.heap.size 44 _ := (hB2.block _ (by omega)).trans hn1
  have hBW : Below w.heap.size w W2 := hB1.trans (hB2.mono (by omega))
  have PC : ∀ j p, (pairsOf cl sv)[j]? = some p → W2.cell? ⟨w.heap.size + 1, j * 2, none⟩ = some (.string p.1) ∧ W2.cell? ⟨w.heap.size + 1, j * 2 + 1, none⟩ = some (.string p.2) ∧ p.1.size ≤ maxLen ∧ p.2.size ≤ maxLen := by
    intro j p hp
    have hs : star.size ≤ maxLen := by rw [star_size]; unfold maxLen; omega
    match j, hp with
    | 0, hp => obtain rfl : (cl, sv) = p := by simpa [pairsOf] using hp
               exact ⟨hn2.cell 0, hn2.cell 1, hcl, hsv⟩
    | 1, hp => obtain rfl : (cl, star) = p := by simpa [pairsOf] using hp
               exact ⟨hn2.cell 2, hn2.cell 3, hcl, hs⟩
    | 2, hp => obtain rfl : (star, sv) = p := by simpa [pairsOf] using hp
               exact ⟨hn2.cell 4, hn2.cell 5, hs, hsv⟩
    | 3, hp => obtain rfl : (star, star) = p := by simpa [pairsOf] using hp
               exact ⟨hn2.cell 6, hn2.cell 7, hs, hs⟩
    | j + 4, hp => simp [pairsOf] at hp
  have hps : (pairsOf cl sv).length = 4 := rfl
  obtain ⟨ps, hpse⟩ : ∃ ps, pairsOf cl sv = ps := ⟨_, rfl⟩
  rw [hpse] at hb PC hps
  have HPC := Lib.hid PC
  have HPS := Lib.hid hps
  have HW1 := Lib.hid hW1
  have HW2 := Lib.hid hW2
  have HN1 := Lib.hid hn1'
  have HBW := Lib.hid hBW
  clear PC hps hW1 hW2 hn1 hn1' hn2 hBW hB1 hB2 hpse hcl hsv
  go_enter Tryd.func63, Tryd.ntmps63
  go_wp2
  rw [HW1.out, HW2.out]
  go_loopw [31] (fun i wr => ∃ j : Nat, j ≤ 4 ∧ i = .int .i64 j ∧ Below W2.heap.size W2 wr ∧ ∀ p ∈ ps.take j, fst ss p.1 p.2 = none) (fun i _ => 4 - (intOf i).toNat)
  case atStart => exact ⟨0, by omega, rfl, Below.refl _ _, fun p hp => by simp at hp⟩
  case round =>
    rename World => wr
    obtain ⟨j, hj, rfl, hBr, hno⟩ := hrel
    have HNO := Lib.hid hno
    have HBR := Lib.hid hBr
    have hzr := hBr.size
    clear hno hBr
    by_cases hlt : j < 4
    · obtain ⟨p, hp⟩ : ∃ p, ps[j]? = some p := ⟨ps[j]'(by have := HPS.out; omega), List.getElem?_eq_getElem _⟩
      obtain ⟨q0, q1, s0, s1⟩ := HPC.out j p hp
      replace q0 := (HBR.out.cell (p := ⟨w.heap.size + 1, j * 2, none⟩) (by show w.heap.size + 1 < W2.heap.size; omega)).trans q0
      replace q1 := (HBR.out.cell (p := ⟨w.heap.size + 1, j * 2 + 1, none⟩) (by show w.heap.size + 1 < W2.heap.size; omega)).trans q1
      obtain ⟨V, hV⟩ : ∃ V, wr.alloc (.cells #[.string p.1, .string p.2] 116) = V := ⟨_, rfl⟩
      have hBV : Below wr.heap.size wr V := by rw [← hV]; exact (Below.refl _ _).alloc (Nat.le_refl _) _
      have hnV : Blk V wr.heap.size 116 [.string p.1, .string p.2] := by rw [← hV]; exact heap_alloc_new wr _
      have hBV2 : Below W2.heap.size W2 V := HBR.out.trans (hBV.mono hzr)
      have hBwV : Below w.heap.size w V := HBW.out.trans (hBV2.mono (by omega))
      have LK := (HM.out.later hBwV).look p.1 p.2 s0 s1
      have p0 := hnV.cell 0
      have p1 := hnV.cell 1
      have hBV2' := Lib.hid hBV2
      have HV := Lib.hid hV
      have HP := Lib.hid hp
      have hwr : w.heap.size + 1 < wr.heap.size := by omega
      cases hf : fst ss p.1 p.2
      case' none =>
        rw [hf] at LK
        have NX : Hid (∀ q ∈ ps.take (j + 1), fst ss q.1 q.2 = none) := by
          intro q hq
          rw [take_one HP.out] at hq
          rcases List.mem_append.1 hq with h | h
          · exact HNO.out q h
          · rw [List.mem_singleton.1 h]; exact hf
        clear hV hBV hnV hBV2 hBwV hp hf
        go_wp2_with (rw [HV.out])
        go_roundw
        case rel => exact ⟨j + 1, by omega, by go_num, hBV2'.out, NX.out⟩
        case measure => simp [intOf]; omega
      case' some i =>
        rw [hf] at LK
        obtain ⟨x0, hx0, -, -, -⟩ := fst_lt hf
        have hi : i < n := by have := (List.getElem?_eq_some_iff.1 hx0).1; have := HS.out.1; omega
        have hsV := HS.out.below hBwV hB
        obtain ⟨x, b, off, E, m, k, hx, rfl, hbB, ho, ha, c0, c1, c2, c3⟩ := hsV.at_ i hi
        have hRES : bst ss cl sv = some i := by
          rw [hb.out]
          have hj2 := (List.getElem?_eq_some_iff.1 HP.out).1
          have e : ps = ps.take j ++ p :: ps.drop (j + 1) := by
            rw [← (List.getElem?_eq_some_iff.1 HP.out).2, ← List.drop_eq_getElem_cons hj2, List.take_append_drop]
          rw [e, List.findSome?_append, List.findSome?_cons, hf]
          have : (ps.take j).findSome? (fun p => fst ss p.1 p.2) = none := by
            rw [List.findSome?_eq_none_iff]
            exact HNO.out
          rw [this]
          rfl
        have hbV : b < V.heap.size := by have := hBwV.size; omega
        have hB4 : B ≤ V.heap.size := Nat.le_trans hB hBwV.size
        have CL : Hid (Calls Tryd.prog 58 #[.agg #[.string x.cl, .string x.sv, .string x.wd, .slice E m k]] V fun e w3 => ∃ E' m' k', e = .returned (.agg #[.string x.cl, .string x.sv, .string x.wd, .slice E' m' k']) ∧ w.heap.size < w3.heap.size ∧ Blk w3 w.heap.size 44 [.string ⟨#[]⟩, .string ⟨#[]⟩, .string ⟨#[]⟩, .slice none 0 0] ∧
            ∀ W', w3.grownBy W' (some w.heap.size) → BestR w ss (bst ss cl sv) (.returned (.tuple #[.agg #[.string x.cl, .string x.sv, .string x.wd, .slice E' m' k'], .bool true])) W') := by
          refine (sclone_any x E m k B V ha hB4).mono ?_
          rintro e w3 ⟨E', m', k', rfl, h1, h2, h3⟩
          have z3 := h3.size
          have zV := hBV2.size
          refine ⟨E', m', k', rfl, by omega, (h3.block _ (by omega)).trans ((hBV2.block _ (by omega)).trans HN1.out), fun W' g => ?_⟩
          have sg := g.size
          refine ⟨(hBwV.trans (h3.mono (by omega))).grown g (by omega) (fun q e => by cases e; exact Nat.le_refl _), ?_⟩
          rw [hRES]
          refine ⟨x, E', m', k', hx, rfl, ?_, fun b o s e => ⟨by have := (h2 b o s e).1; omega, by have := (h2 b o s e).2; omega⟩⟩
          exact (h1.keep (fun b o e => g.block b (h2 b o none e).2 (by have := (h2 b o none e).1; intro e2; injection e2 with e2; omega))).wide sg
        have hi0 : (0 : Int) ≤ (i : Int) := by omega
        have hin : (i : Int) < (n : Int) := by omega
        clear hV hBV hnV hBV2 hBwV hp hf hsV ha ho hx hx0 hRES
        go_wp2_with (first
          | (rw [HV.out])
          | (go_at_call 58; ((with_reducible refine CL.out.mono ?_); rintro e w3 ⟨E', m', k', rfl, z3, b2, c9⟩; have r0 := b2.cell 0; have r1 := b2.cell 1; have r2 := b2.cell 2; have r3 := b2.cell 3; have g0 := b2.frozen 0; have g1 := b2.frozen 1; have g2 := b2.frozen 2; have g3 := b2.frozen 3; have C9 := Lib.hid c9; have B2 := Lib.hid b2; clear c9 b2)))
        have hb4 := blk4 (x := .string x.cl) (y := .string x.sv) (z := .string x.wd) (v := .slice E' m' k') B2.out
        have y0 := hb4.cell 0
        have y1 := hb4.cell 1
        have y2 := hb4.cell 2
        have y3 := hb4.cell 3
        exact bodyPost_ret (v := .tuple #[.agg #[.string x.cl, .string x.sv, .string x.wd, .slice E' m' k'], .bool true]) (by simp [results, Tryd.results63, go_sem, y0, y1, y2, y3]) rfl (C9.out _ (gset4 _ _ _ _ _ _))
    · obtain rfl : j = 4 := by omega
      have hRES : Hid (bst ss cl sv = none) := by
        show _ = _
        rw [hb.out, List.findSome?_eq_none_iff]
        intro p hp
        exact HNO.out p (by rw [List.take_of_length_le (by have := HPS.out; omega)]; exact hp)
      have hl1 : w.heap.size < wr.heap.size := by omega
      have hbk : Blk wr w.heap.size 44 [.string ⟨#[]⟩, .string ⟨#[]⟩, .string ⟨#[]⟩, .slice none 0 0] := (HBR.out.block _ (by omega)).trans HN1.out
      have r0 := hbk.cell 0
      have r1 := hbk.cell 1
      have r2 := hbk.cell 2
      have r3 := hbk.cell 3
      have g0 := hbk.frozen 0
      have g1 := hbk.frozen 1
      have g2 := hbk.frozen 2
      have g3 := hbk.frozen 3
      have HBK := Lib.hid hbk
      clear hbk
      go_wp2
      have hb4 := blk4 (x := .string ⟨#[]⟩) (y := .string ⟨#[]⟩) (z := .string ⟨#[]⟩) (v := .slice none 0 0) HBK.out
      have y0 := hb4.cell 0
      have y1 := hb4.cell 1
      have y2 := hb4.cell 2
      have y3 := hb4.cell 3
      refine bodyPost_ret (v := .tuple #[.agg #[.string ⟨#[]⟩, .string ⟨#[]⟩, .string ⟨#[]⟩, .slice none 0 0], .bool false]) (by simp [results, Tryd.results63, go_sem, y0, y1, y2, y3]) rfl ?_
      rw [hRES.out]
      refine ⟨(HBW.out.trans (HBR.out.mono (by omega))).grown (gset4 _ _ _ _ _ _) (by omega) (fun q e => by cases e; exact Nat.le_refl _), rfl⟩
end Go.Proofs.YtdijgmijnoiliaaDoor
