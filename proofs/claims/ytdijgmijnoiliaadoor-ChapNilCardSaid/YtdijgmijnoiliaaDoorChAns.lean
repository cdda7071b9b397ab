/-
  chap: kindOf, (asked).answer, answer, Answer (written by gen_chans.py).
-/
import Derived.Test.YtdijgmijnoiliaaDoorChRead
import Derived.Test.YtdijgmijnoiliaaDoorChWord
import Derived.Test.YtdijgmijnoiliaaDoorMdResp
import Derived.Deep.RegionHeld3
namespace Go.Proofs.YtdijgmijnoiliaaDoor
open Go.RowKit Go.Shelf
set_option maxRecDepth 100000
set_option maxHeartbeats 1000000
set_option linter.unusedSimpArgs false
set_option linter.unusedVariables false

/-- a packet as its kind -/
def kindV (code id : Int) (s : Value) : Value := if code = 1 then .iface 83 (.agg #[.int .i64 code, .int .i64 id, s]) else if code = 2 then .iface 84 (.agg #[.int .i64 code, .int .i64 id, s]) else .iface 86 (.agg #[])
theorem kindOf_any (code id : Int) (A : Option Addr) (n c : Nat) (w : World) : Calls Tryd.prog 35 #[.agg #[.int .i64 code, .int .i64 id, .slice A n c]] w fun e w' => e = .returned (kindV code id (.slice A n c)) ∧ w' = w.alloc (.cells #[.int .i64 code, .int .i64 id, .slice A n c] 24) := by
  unfold kindV
  by_cases h1 : code = 1
  · subst h1
    rw [if_pos rfl]
    go_enter Tryd.func35, Tryd.ntmps35
    go_wp2
    go_ret
    exact ⟨rfl, rfl⟩
  · rw [if_neg h1]
    have e1 : (code == 1) = false := by simpa using h1
    by_cases h2 : code = 2
    · subst h2
      rw [if_pos rfl]
      clear h1
      go_enter Tryd.func35, Tryd.ntmps35
      go_wp2
      go_ret
      exact ⟨rfl, rfl⟩
    · rw [if_neg h2]
      have e2 : (code == 2) = false := by simpa using h2
      clear h1 h2
      go_enter Tryd.func35, Tryd.ntmps35
      go_wp2
      go_ret
      exact ⟨rfl, rfl⟩
/-- what is due -/
def digL (id : Int) (word : ByteArray) (v : List UInt8) : List UInt8 := mdBytes (mdOver (mdPad (respL id word v)) ((mdPad (respL id word v)).length / 64))
theorem digL_length (id : Int) (word : ByteArray) (v : List UInt8) : (digL id word v).length = 16 := by simp [digL, mdBytes]
theorem list16' (l : List UInt8) (h : l.length = 16) : ∃ d0 d1 d2 d3 d4 d5 d6 d7 d8 d9 d10 d11 d12 d13 d14 d15, l = [d0, d1, d2, d3, d4, d5, d6, d7, d8, d9, d10, d11, d12, d13, d14, d15] := by
  match l, h with
  | [d0, d1, d2, d3, d4, d5, d6, d7, d8, d9, d10, d11, d12, d13, d14, d15], _ => exact ⟨_, _, _, _, _, _, _, _, _, _, _, _, _, _, _, _, rfl⟩
theorem resp_dig (id : Int) (x : ByteArray) (A : Option Addr) (n c B : Nat) (l : List UInt8) (w : World) (h0 : 0 ≤ id) (h1 : id ≤ 255) (hr : Rd w B A n l) (hB : B ≤ w.heap.size) (hnil : A = none → c = 0) (hm : n ≤ 35184372088832) (hx : x.size ≤ 35184372088832) (hK : TabK w) (hS : TabS w) :
    Calls Tryd.prog 61 #[.int .i64 id, .string x, .slice A n c] w fun e w' => e = .returned (.tuple #[.agg ((digL id x l).map cellOf).toArray, .int .i64 0]) ∧ Below w.heap.size w w' := by
  have h := resp_ok id x A n c B l w h0 h1 hr hB hnil hm hx hK hS
  rw [partB_bytes] at h
  exact h
theorem wdS_size {ss : List Sec} {cl sv : ByteArray} : (wdS ss (bst ss cl sv)).size ≤ 64 := by
  unfold wdS
  cases ho : bst ss cl sv with
  | none => exact Nat.zero_le _
  | some i =>
    unfold bst at ho
    split at ho
    · cases ho
    · obtain ⟨p, _, hp⟩ := List.exists_of_findSome?_eq_some ho
      obtain ⟨x, hx, _, _, hr⟩ := fst_lt hp
      simp only [Option.bind_some, hx]
      unfold rightE at hr
      split at hr
      · cases hr
      · split at hr
        · cases hr
        · rename_i h1 h2
          rcases Nat.eq_zero_or_pos x.wd.size with h | h
          · omega
          · cases hn : nameB x.wd
            · exact absurd ⟨h, hn⟩ h2
            · simp [nameB] at hn
              exact hn.2.1
/-- whatever finds -/
def FindsC (fv : Value) (ss : List Sec) (W : World) : Prop := ∀ W', Below W.heap.size W W' → ∀ cl sv : ByteArray, cl.size ≤ maxLen → sv.size ≤ maxLen → Calls Tryd.prog 60 #[fv, .string cl, .string sv] W' (WordR W' ss (bst ss cl sv))
def srvOf (remote : ByteArray) (l : List UInt8) : ByteArray := if remote.size = 0 then rvS l else remote
noncomputable def asE (id : Int) (l : List UInt8) (name remote : ByteArray) (ss : List Sec) : Int := if rvE id l ≠ 0 then rvE id l else if nameB name = false then 60 else if wdB ss (bst ss name (srvOf remote l)) = false then 5 else 0
noncomputable def asL (id : Int) (l : List UInt8) (name remote : ByteArray) (ss : List Sec) : List UInt8 := mkL (digL id (wdS ss (bst ss name (srvOf remote l))) (rvV l)) name
theorem rvE_id {id : Int} {l : List UInt8} (h : rvE id l = 0) : 0 ≤ id ∧ id ≤ 255 := by
  unfold rvE at h
  cases hi : idB id
  · rw [hi] at h; simp at h
  · simpa [idB] using hi
theorem aanswer_any (code id : Int) (A : Option Addr) (n c B : Nat) (l : List UInt8) (name remote : ByteArray) (fv : Value) (ss : List Sec) (w : World) (hr : Rd w B A n l) (hB : B ≤ w.heap.size) (hn : n ≤ 140737488355328) (hnm : name.size ≤ maxLen) (hrm : remote.size ≤ maxLen) (hF : FindsC fv ss w) (hK : TabK w) (hS : TabS w) :
    Calls Tryd.prog 47 #[.agg #[.int .i64 code, .int .i64 id, .slice A n c], .string name, .string remote, fv] w (PktZ w 2 id (asL id l name remote ss) (asE id l name remote ss)) := by
  obtain ⟨V, hV⟩ : ∃ V, (w.alloc (.cells #[.int .i64 code, .int .i64 id, .slice A n c] 83)).alloc (.cells #[.int .i64 0, .int .i64 0, .slice none 0 0] 24) = V := ⟨_, rfl⟩
  have bV : Below w.heap.size w V := by rw [← hV]; exact ((Below.refl _ _).alloc (Nat.le_refl _) _).alloc (by simp) _
  have zV : V.heap.size = w.heap.size + 2 := by rw [← hV]; simp
  have h0 : Blk V w.heap.size 83 [.int .i64 code, .int .i64 id, .slice A n c] := by
    rw [← hV]
    exact (Below.heap_alloc _ _ _ (by simp)).trans (heap_alloc_new w _)
  have h1 : Blk V (w.heap.size + 1) 24 [.int .i64 0, .int .i64 0, .slice none 0 0] := by
    rw [← hV]
    have h := heap_alloc_new (w.alloc (.cells #[.int .i64 code, .int .i64 id, .slice A n c] 83)) (.cells #[.int .i64 0, .int .i64 0, .slice none 0 0] 24)
    rw [World.size_alloc] at h
    exact h
  have x0 := h0.cell 0
  have x1 := h0.cell 1
  have x2 := h0.cell 2
  have HV := Lib.hid hV
  have RD := read_any code id A n c B l V (hr.below (bV.mono hB)) (Nat.le_trans hB bV.size) hn
  have NM := Lib.hid (fun W => name_any name W hnm)
  -- a refusal
  have FB : ∀ W er, Below w.heap.size w W → Blk W (w.heap.size + 1) 24 [.int .i64 0, .int .i64 0, .slice none 0 0] → asE id l name remote ss = er → er ≠ 0 → PktZ w 2 id (asL id l name remote ss) (asE id l name remote ss) (.returned (.tuple #[.agg #[.int .i64 0, .int .i64 0, .slice none 0 0], .int .i64 er])) (((W.setCell ⟨w.heap.size + 1, 0, none⟩ (.int .i64 0)).setCell ⟨w.heap.size + 1, 1, none⟩ (.int .i64 0)).setCell ⟨w.heap.size + 1, 2, none⟩ (.slice none 0 0)) := fun W er hb hk he h0 => by
    rw [he]
    exact pktZ_no h0 (below_row hb (gset3 _ _ _ _ _) (by omega))
  have FBH := Lib.hid FB
  by_cases hre : rvE id l = 0
  case neg =>
    have he : asE id l name remote ss = rvE id l := if_pos hre
    have C : Hid (Calls Tryd.prog 59 #[.agg #[.int .i64 code, .int .i64 id, .slice A n c]] V fun e w1 => ∃ er : Int, e = .returned (.tuple #[.slice none 0 0, .string ⟨#[]⟩, .int .i64 er]) ∧ (er != 0) = true ∧ Blk w1 (w.heap.size + 1) 24 [.int .i64 0, .int .i64 0, .slice none 0 0] ∧
        PktZ w 2 id (asL id l name remote ss) (asE id l name remote ss) (.returned (.tuple #[.agg #[.int .i64 0, .int .i64 0, .slice none 0 0], .int .i64 er])) (((w1.setCell ⟨w.heap.size + 1, 0, none⟩ (.int .i64 0)).setCell ⟨w.heap.size + 1, 1, none⟩ (.int .i64 0)).setCell ⟨w.heap.size + 1, 2, none⟩ (.slice none 0 0))) := by
      refine RD.mono ?_
      rintro e w1 ⟨b1, hh⟩
      obtain ⟨-, rfl⟩ := hh.resolve_right (fun h => hre h.1)
      have k1 := past_same h1 b1
      exact ⟨_, rfl, by simpa using hre, k1, FB w1 _ (step_to bV b1) k1 he hre⟩
    clear FBH FB RD bV zV h0 h1 hV hr hB hn hF hre he hK hS
    go_enter Tryd.func47, Tryd.ntmps47
    go_wp2_with (first
      | (rw [HV.out])
      | (go_at_call 59; ((with_reducible refine C.out.mono ?_); rintro e w1 ⟨er, rfl, e1, k1, f1⟩; have r0 := k1.cell 0; have r1 := k1.cell 1; have r2 := k1.cell 2; have g0 := k1.frozen 0; have g1 := k1.frozen 1; have g2 := k1.frozen 2; have lr := Blk.lt k1; have K1 := Lib.hid k1; have F1 := Lib.hid f1; clear f1 k1)))
    have hb4 := blk3 (x := .int .i64 0) (y := .int .i64 0) (z := .slice none 0 0) K1.out
    have p0 := hb4.cell 0
    have p1 := hb4.cell 1
    have p2 := hb4.cell 2
    exact bodyPost_ret (v := .tuple #[.agg #[.int .i64 0, .int .i64 0, .slice none 0 0], .int .i64 er]) (by simp [results, Tryd.results47, go_sem, p0, p1, p2]) rfl F1.out
  obtain ⟨i0, i1⟩ := rvE_id hre
  have RDok : Calls Tryd.prog 59 #[.agg #[.int .i64 code, .int .i64 id, .slice A n c]] V fun e w1 => ∃ D k d, e = .returned (.tuple #[.slice D k d, .string (rvS l), .int .i64 0]) ∧ Below V.heap.size V w1 ∧ Own w1 V.heap.size (.slice D k d) (rvV l) := by
    refine RD.mono ?_
    rintro e w1 ⟨b1, hh⟩
    obtain ⟨-, D, k, d, rfl, o1⟩ := hh.resolve_left (fun h => h.1 hre)
    exact ⟨D, k, d, rfl, b1, o1⟩
  cases hb : nameB name
  case false =>
    have he : asE id l name remote ss = 60 := by unfold asE; rw [if_neg (by rw [hre]; simp), if_pos hb]
    have C : Hid (Calls Tryd.prog 59 #[.agg #[.int .i64 code, .int .i64 id, .slice A n c]] V fun e w1 => ∃ D k d, e = .returned (.tuple #[.slice D k d, .string (rvS l), .int .i64 0]) ∧ Blk w1 (w.heap.size + 1) 24 [.int .i64 0, .int .i64 0, .slice none 0 0] ∧
        PktZ w 2 id (asL id l name remote ss) (asE id l name remote ss) (.returned (.tuple #[.agg #[.int .i64 0, .int .i64 0, .slice none 0 0], .int .i64 60])) (((w1.setCell ⟨w.heap.size + 1, 0, none⟩ (.int .i64 0)).setCell ⟨w.heap.size + 1, 1, none⟩ (.int .i64 0)).setCell ⟨w.heap.size + 1, 2, none⟩ (.slice none 0 0))) := by
      refine RDok.mono ?_
      rintro e w1 ⟨D, k, d, rfl, b1, o1⟩
      have k1 := past_same h1 b1
      exact ⟨_, _, _, rfl, k1, FB w1 _ (step_to bV b1) k1 he (by decide)⟩
    rw [hb] at NM
    clear FBH FB RD RDok bV zV h0 h1 hV hr hB hn hF hre he hK hS hb
    go_enter Tryd.func47, Tryd.ntmps47
    go_wp2_with (first
      | (rw [HV.out])
      | (go_at_call 59; ((with_reducible refine C.out.mono ?_); rintro e w1 ⟨D, k, d, rfl, k1, f1⟩; have r0 := k1.cell 0; have r1 := k1.cell 1; have r2 := k1.cell 2; have g0 := k1.frozen 0; have g1 := k1.frozen 1; have g2 := k1.frozen 2; have lr := Blk.lt k1; have K1 := Lib.hid k1; have F1 := Lib.hid f1; clear f1 k1))
      | (go_at_call 32; ((with_reducible refine (NM.out _).mono ?_); rintro e w' ⟨rfl, rfl⟩)))
    have hb4 := blk3 (x := .int .i64 0) (y := .int .i64 0) (z := .slice none 0 0) K1.out
    have p0 := hb4.cell 0
    have p1 := hb4.cell 1
    have p2 := hb4.cell 2
    exact bodyPost_ret (v := .tuple #[.agg #[.int .i64 0, .int .i64 0, .slice none 0 0], .int .i64 60]) (by simp [results, Tryd.results47, go_sem, p0, p1, p2]) rfl F1.out
  rw [hb] at NM
  have hrs : (rvS l).size ≤ maxLen := by
    unfold rvS
    rw [strOf_size, List.length_drop]
    have := hr.1
    unfold maxLen
    omega
  obtain ⟨srv, hsrv⟩ : ∃ srv, srvOf remote l = srv := ⟨_, rfl⟩
  have hsz : srv.size ≤ maxLen := by
    rw [← hsrv]
    unfold srvOf
    split
    · exact hrs
    · exact hrm
  obtain ⟨s0, hs0⟩ : ∃ s0, rvS l = s0 := ⟨_, rfl⟩
  have hrt : (remote.toList.isEmpty = true ∧ srv = s0) ∨ (remote.toList.isEmpty = false ∧ srv = remote) := by
    rw [← hsrv, ← hs0]
    unfold srvOf
    rcases Nat.eq_zero_or_pos remote.size with h | h
    · exact .inl ⟨str_nil h, by rw [if_pos h]⟩
    · exact .inr ⟨str_ne h, by rw [if_neg (by omega)]⟩
  have hnm64 : name.size ≤ 64 := by simp [nameB] at hb; exact hb.2.1
  rw [hs0] at RDok
  -- behind what is read: the word
  have WC : Calls Tryd.prog 59 #[.agg #[.int .i64 code, .int .i64 id, .slice A n c]] V fun e w1 => ∃ D k d, e = .returned (.tuple #[.slice D k d, .string s0, .int .i64 0]) ∧
      Calls Tryd.prog 60 #[fv, .string name, .string srv] w1 fun e w2 => e = .returned (.tuple #[.string (wdS ss (bst ss name srv)), .bool (wdB ss (bst ss name srv))]) ∧ Below w.heap.size w w2 ∧ Below V.heap.size V w2 ∧ Own w2 V.heap.size (.slice D k d) (rvV l) := by
    refine RDok.mono ?_
    rintro e w1 ⟨D, k, d, rfl, b1, o1⟩
    refine ⟨D, k, d, rfl, (hF w1 (step_to bV b1) name srv hnm hsz).mono ?_⟩
    rintro e w2 ⟨rfl, b2⟩
    exact ⟨rfl, step_to (step_to bV b1) b2, step_to b1 b2, o1.later b2⟩
  cases hwb : wdB ss (bst ss name srv)
  case false =>
    have he : asE id l name remote ss = 5 := by unfold asE; rw [if_neg (by rw [hre]; simp), if_neg (by rw [hb]; simp), hsrv, if_pos hwb]
    have C : Hid (Calls Tryd.prog 59 #[.agg #[.int .i64 code, .int .i64 id, .slice A n c]] V fun e w1 => ∃ D k d, e = .returned (.tuple #[.slice D k d, .string s0, .int .i64 0]) ∧
        Calls Tryd.prog 60 #[fv, .string name, .string srv] w1 fun e w2 => ∃ wd, e = .returned (.tuple #[.string wd, .bool false]) ∧ Blk w2 (w.heap.size + 1) 24 [.int .i64 0, .int .i64 0, .slice none 0 0] ∧
        PktZ w 2 id (asL id l name remote ss) (asE id l name remote ss) (.returned (.tuple #[.agg #[.int .i64 0, .int .i64 0, .slice none 0 0], .int .i64 5])) (((w2.setCell ⟨w.heap.size + 1, 0, none⟩ (.int .i64 0)).setCell ⟨w.heap.size + 1, 1, none⟩ (.int .i64 0)).setCell ⟨w.heap.size + 1, 2, none⟩ (.slice none 0 0))) := by
      refine WC.mono ?_
      rintro e w1 ⟨D, k, d, rfl, hw⟩
      refine ⟨D, k, d, rfl, hw.mono ?_⟩
      rintro e w2 ⟨rfl, b2, b2', o2⟩
      have k1 := past_same h1 b2'
      exact ⟨_, by rw [hwb], k1, FB w2 _ b2 k1 he (by decide)⟩
    clear FBH FB RD RDok WC bV zV h0 h1 hV hr hB hn hF hre he hK hS hb hwb hsz hrs hs0 hsrv hnm64
    rcases hrt with ⟨hr1, rfl⟩ | ⟨hr1, rfl⟩
    all_goals
      go_enter Tryd.func47, Tryd.ntmps47
      go_wp2_with (first
        | (rw [HV.out])
        | (go_at_call 59; ((with_reducible refine C.out.mono ?_); rintro e w1 ⟨D, k, d, rfl, n1⟩; have C1 := Lib.hid n1; clear n1 C))
        | (go_at_call 32; ((with_reducible refine (NM.out _).mono ?_); rintro e w' ⟨rfl, rfl⟩))
        | (go_at_call 60; ((with_reducible refine C1.out.mono ?_); rintro e w2 ⟨wd, rfl, k1, f1⟩; have r0 := k1.cell 0; have r1 := k1.cell 1; have r2 := k1.cell 2; have g0 := k1.frozen 0; have g1 := k1.frozen 1; have g2 := k1.frozen 2; have lr := Blk.lt k1; have K1 := Lib.hid k1; have F1 := Lib.hid f1; clear f1 k1)))
      have hb4 := blk3 (x := .int .i64 0) (y := .int .i64 0) (z := .slice none 0 0) K1.out
      have p0 := hb4.cell 0
      have p1 := hb4.cell 1
      have p2 := hb4.cell 2
      exact bodyPost_ret (v := .tuple #[.agg #[.int .i64 0, .int .i64 0, .slice none 0 0], .int .i64 5]) (by simp [results, Tryd.results47, go_sem, p0, p1, p2]) rfl F1.out
  have he : asE id l name remote ss = 0 := by unfold asE; rw [if_neg (by rw [hre]; simp), if_neg (by rw [hb]; simp), hsrv, if_neg (by rw [hwb]; simp)]
  have hwz : (wdS ss (bst ss name srv)).size ≤ 64 := wdS_size
  have hL : asL id l name remote ss = mkL (digL id (wdS ss (bst ss name srv)) (rvV l)) name := by unfold asL; rw [hsrv]
  obtain ⟨wd, hwd⟩ : ∃ wd, wdS ss (bst ss name srv) = wd := ⟨_, rfl⟩
  rw [hwd] at WC hL hwz
  rw [hwb] at WC
  rw [he, hL]
  have hD := digL_length id wd (rvV l)
  have hvl : (rvV l).length ≤ 255 := by
    unfold rvV
    rw [List.length_take]
    have := rvN_lt l
    omega
  obtain ⟨dg, hdg⟩ : ∃ dg, digL id wd (rvV l) = dg := ⟨_, rfl⟩
  rw [hdg] at hD ⊢
  obtain ⟨d0, d1, d2, d3, d4, d5, d6, d7, d8, d9, d10, d11, d12, d13, d14, d15, rfl⟩ := list16' dg hD
  have mk0 : mkE 2 id 16 name = 0 := by
    unfold mkE
    have : idB id = true := by simp [idB]; omega
    rw [if_neg (by rw [this]; simp), if_neg (by omega), if_neg (by rw [hb]; simp)]
  have C : Hid (Calls Tryd.prog 59 #[.agg #[.int .i64 code, .int .i64 id, .slice A n c]] V fun e w1 => ∃ D k d, e = .returned (.tuple #[.slice D k d, .string s0, .int .i64 0]) ∧
      Calls Tryd.prog 60 #[fv, .string name, .string srv] w1 fun e w2 => e = .returned (.tuple #[.string wd, .bool true]) ∧ Blk w2 w.heap.size 83 [.int .i64 code, .int .i64 id, .slice A n c] ∧
        Calls Tryd.prog 62 #[.agg #[.int .i64 code, .int .i64 id, .slice A n c]] w2 fun e w3 => e = .returned (.int .i64 id) ∧
          Calls Tryd.prog 61 #[.int .i64 id, .string wd, .slice D k d] w3 fun e w4 => e = .returned (.tuple #[.agg #[.int .u8 (d0.toNat : Int), .int .u8 (d1.toNat : Int), .int .u8 (d2.toNat : Int), .int .u8 (d3.toNat : Int), .int .u8 (d4.toNat : Int), .int .u8 (d5.toNat : Int), .int .u8 (d6.toNat : Int), .int .u8 (d7.toNat : Int), .int .u8 (d8.toNat : Int), .int .u8 (d9.toNat : Int), .int .u8 (d10.toNat : Int), .int .u8 (d11.toNat : Int), .int .u8 (d12.toNat : Int), .int .u8 (d13.toNat : Int), .int .u8 (d14.toNat : Int), .int .u8 (d15.toNat : Int)], .int .i64 0]) ∧ ∃ V15, w4.alloc (.cells #[.int .u8 (d0.toNat : Int), .int .u8 (d1.toNat : Int), .int .u8 (d2.toNat : Int), .int .u8 (d3.toNat : Int), .int .u8 (d4.toNat : Int), .int .u8 (d5.toNat : Int), .int .u8 (d6.toNat : Int), .int .u8 (d7.toNat : Int), .int .u8 (d8.toNat : Int), .int .u8 (d9.toNat : Int), .int .u8 (d10.toNat : Int), .int .u8 (d11.toNat : Int), .int .u8 (d12.toNat : Int), .int .u8 (d13.toNat : Int), .int .u8 (d14.toNat : Int), .int .u8 (d15.toNat : Int)] 47) = V15 ∧ Blk V15 w.heap.size 83 [.int .i64 code, .int .i64 id, .slice A n c] ∧
            Calls Tryd.prog 62 #[.agg #[.int .i64 code, .int .i64 id, .slice A n c]] V15.drew fun e w5 => e = .returned (.int .i64 id) ∧ Blk w5 w.heap.size 83 [.int .i64 code, .int .i64 id, .slice A n c] ∧
              Calls Tryd.prog 8 #[.int .i64 2, .int .i64 id, .slice (some ⟨w4.heap.size, 0, none⟩) 16 16, .string name] w5 fun e w6 => ∃ D' k' d', e = .returned (.tuple #[.agg #[.int .i64 2, .int .i64 id, .slice D' k' d'], .int .i64 0]) ∧ Blk w6 w.heap.size 83 [.int .i64 code, .int .i64 id, .slice A n c] ∧ Blk w6 (w.heap.size + 1) 24 [.int .i64 0, .int .i64 0, .slice none 0 0] ∧
                PktZ w 2 id (mkL [d0, d1, d2, d3, d4, d5, d6, d7, d8, d9, d10, d11, d12, d13, d14, d15] name) 0 (.returned (.tuple #[.agg #[.int .i64 2, .int .i64 id, .slice D' k' d'], .int .i64 0])) (((w6.setCell ⟨w.heap.size + 1, 0, none⟩ (.int .i64 2)).setCell ⟨w.heap.size + 1, 1, none⟩ (.int .i64 id)).setCell ⟨w.heap.size + 1, 2, none⟩ (.slice D' k' d'))) := by
    refine WC.mono ?_
    rintro e w1 ⟨D, k, d, rfl, hw⟩
    refine ⟨D, k, d, rfl, hw.mono ?_⟩
    rintro e w2 ⟨rfl, b2, b2', o2⟩
    have k2 := past_same h0 b2'
    refine ⟨rfl, k2, (vid_any code id _ w2).mono ?_⟩
    rintro e w3 ⟨rfl, rfl⟩
    have b3 := (Below.refl w2.heap.size w2).alloc (Nat.le_refl _) (.cells #[.int .i64 code, .int .i64 id, .slice A n c] 81)
    obtain ⟨w3, hw3⟩ : ∃ w3, w2.alloc (.cells #[.int .i64 code, .int .i64 id, .slice A n c] 81) = w3 := ⟨_, rfl⟩
    rw [hw3] at b3 ⊢
    have o3 := o2.later b3
    have BW3 := step_to b2 b3
    have BV3 := step_to b2' b3
    have hrd : Rd w3 w3.heap.size D k (rvV l) ∧ (D = none → d = 0) ∧ k ≤ 255 := by
      have hk : ∃ A' c', Value.slice D k d = .slice A' (rvV l).length c' ∧ Rd w3 w3.heap.size A' (rvV l).length (rvV l) ∧ (A' = none → c' = 0) := by
        rcases o3.form with ⟨e, h⟩ | ⟨g', cap, e, _⟩
        · exact ⟨none, 0, by rw [e, h]; rfl, by rw [h]; exact Rd.nil, fun _ => rfl⟩
        · have o3' := o3
          rw [e] at o3'
          have := o3'.rd rfl _ (Nat.le_refl _)
          rw [List.take_length] at this
          exact ⟨_, _, e, this, fun e => by cases e⟩
      obtain ⟨A', c', e, h1, h2⟩ := hk
      injection e with e1 e2 e3
      subst e1 e2 e3
      exact ⟨h1, h2, hvl⟩
    have hRs := resp_dig id wd D k d w3.heap.size (rvV l) w3 i0 i1 hrd.1 (Nat.le_refl _) hrd.2.1 (by omega) (by omega) (hK.kept BW3) (hS.kept BW3)
    rw [hdg] at hRs
    refine ⟨rfl, hRs.mono ?_⟩
    rintro e w4 ⟨rfl, b4⟩
    refine ⟨rfl, ?_⟩
    obtain ⟨V15, h15⟩ : ∃ V15, w4.alloc (.cells #[.int .u8 (d0.toNat : Int), .int .u8 (d1.toNat : Int), .int .u8 (d2.toNat : Int), .int .u8 (d3.toNat : Int), .int .u8 (d4.toNat : Int), .int .u8 (d5.toNat : Int), .int .u8 (d6.toNat : Int), .int .u8 (d7.toNat : Int), .int .u8 (d8.toNat : Int), .int .u8 (d9.toNat : Int), .int .u8 (d10.toNat : Int), .int .u8 (d11.toNat : Int), .int .u8 (d12.toNat : Int), .int .u8 (d13.toNat : Int), .int .u8 (d14.toNat : Int), .int .u8 (d15.toNat : Int)] 47) = V15 := ⟨_, rfl⟩
    have b15 : Below w4.heap.size w4 V15 := by rw [← h15]; exact (Below.refl _ _).alloc (Nat.le_refl _) _
    have n15 : Blk V15 w4.heap.size 47 ([d0, d1, d2, d3, d4, d5, d6, d7, d8, d9, d10, d11, d12, d13, d14, d15].map cellOf) := by rw [← h15]; exact heap_alloc_new w4 _
    have k15 : Blk V15 w.heap.size 83 _ := past_same (past_same (past_same k2 b3) b4) b15
    have r15 : Rd V15 V15.heap.size (some ⟨w4.heap.size, 0, none⟩) 16 [d0, d1, d2, d3, d4, d5, d6, d7, d8, d9, d10, d11, d12, d13, d14, d15] := by
      refine ⟨rfl, fun _ => ⟨w4.heap.size, 0, rfl, Blk.lt n15, fun j hj => ?_⟩⟩
      rw [Nat.zero_add, n15.cell, cells_at _ j (by simpa using hj)]
    have BW15 := step_to (step_to BW3 b4) b15
    have BV15 := step_to (step_to BV3 b4) b15
    refine ⟨V15, h15, k15, (vid_any code id _ V15.drew).mono ?_⟩
    rintro e w5 ⟨rfl, hw5⟩
    have b5 : Below V15.heap.size V15 w5 := by rw [hw5]; exact (below_drewS (Below.refl V15.heap.size V15) 1).alloc (Nat.le_refl _) _
    refine ⟨rfl, past_same k15 b5, ?_⟩
    have MK := make_any 2 id (some ⟨w4.heap.size, 0, none⟩) 16 16 V15.heap.size [d0, d1, d2, d3, d4, d5, d6, d7, d8, d9, d10, d11, d12, d13, d14, d15] name w5 (r15.below b5) b5.size (fun e => by cases e) (by omega) hnm
    rw [mk0] at MK
    refine MK.mono ?_
    rintro e w6 ⟨b6, D', k', d', rfl, o6⟩
    have k6 := past_same (past_same h1 BV15) (step_to b5 b6)
    have gg := gset3 w6 (w.heap.size + 1) (.int .i64 2) (.int .i64 id) (.slice D' k' d')
    have BW6 := step_to (step_to BW15 b5) b6
    have z5 := (step_to BV15 b5).size
    refine ⟨D', k', d', rfl, past_same (past_same k15 b5) b6, k6, below_row BW6 gg (by omega), D', k', d', rfl, ?_⟩
    have hne : (Value.slice D' k' d').ownBlock = none ∨ (Value.slice D' k' d').ownBlock ≠ some (w.heap.size + 1) := .inr fun e => by
      have := (o6.block _ e).1
      omega
    have h6 := o6.grown gg hne
    refine ⟨h6.1, ?_⟩
    rcases h6.2 with h | ⟨g', cap', cur, e1, e2, e3⟩
    · exact .inl h
    · exact .inr ⟨g', cap', cur, e1, by omega, e3⟩
  clear FBH FB RD RDok WC bV zV h0 h1 hV hr hB hn hF hre he hK hS hb hwb hsz hrs hs0 hsrv hnm64 hwz hL hwd hD hvl hdg mk0 i0 i1
  rcases hrt with ⟨hr1, rfl⟩ | ⟨hr1, rfl⟩
  all_goals
    go_enter Tryd.func47, Tryd.ntmps47
    go_upto_region 14 with (first
      | (rw [HV.out])
      | (go_at_call 59; ((with_reducible refine C.out.mono ?_); rintro e w1 ⟨D, k, d, rfl, n1⟩; have C1 := Lib.hid n1; clear n1 C))
      | (go_at_call 32; ((with_reducible refine (NM.out _).mono ?_); rintro e w' ⟨rfl, rfl⟩))
      | (go_at_call 60; ((with_reducible refine C1.out.mono ?_); rintro e w2 ⟨rfl, k1, n1⟩; have u0 := k1.cell 0; have u1 := k1.cell 1; have u2 := k1.cell 2; have C2 := Lib.hid n1; clear n1 k1 C1))
      | (go_at_call 62; ((with_reducible refine C2.out.mono ?_); rintro e w3 ⟨rfl, n1⟩; have C3 := Lib.hid n1; clear n1 C2))
      | (go_at_call 61; ((with_reducible refine C3.out.mono ?_); rintro e w4 ⟨rfl, V15, h15, k1, n1⟩; have H15 := Lib.hid h15; have v0 := k1.cell 0; have v1 := k1.cell 1; have v2 := k1.cell 2; have C4 := Lib.hid n1; clear n1 k1 C3 h15))
      | (rw [H15.out]))
    go_region_held3 (fun w' => w'.cell? ⟨w.heap.size, 0, none⟩ = some (.int .i64 code) ∧ w'.cell? ⟨w.heap.size, 1, none⟩ = some (.int .i64 id) ∧ w'.cell? ⟨w.heap.size, 2, none⟩ = some (.slice A n c)) (go_keep) (first
      | (go_at_call 62; ((with_reducible refine C4.out.mono ?_); rintro e w5 ⟨rfl, k1, n1⟩; have y0 := k1.cell 0; have y1 := k1.cell 1; have y2 := k1.cell 2; have C5 := Lib.hid n1; clear n1 k1))
      | (go_at_call 8; ((with_reducible refine C5.out.mono ?_); rintro e w6 ⟨D', k', d', rfl, k0, k1, f1⟩; have c0 := k0.cell 0; have c1 := k0.cell 1; have c2 := k0.cell 2; clear k0; have r0 := k1.cell 0; have r1 := k1.cell 1; have r2 := k1.cell 2; have g0 := k1.frozen 0; have g1 := k1.frozen 1; have g2 := k1.frozen 2; have lr := Blk.lt k1; have K1 := Lib.hid k1; have F1 := Lib.hid f1; clear f1 k1)))
    all_goals
      go_wp2
      have hb4 := blk3 (x := .int .i64 2) (y := .int .i64 id) (z := .slice D' k' d') K1.out
      have p0 := hb4.cell 0
      have p1 := hb4.cell 1
      have p2 := hb4.cell 2
      exact bodyPost_ret (v := .tuple #[.agg #[.int .i64 2, .int .i64 id, .slice D' k' d'], .int .i64 0]) (by simp [results, Tryd.results47, go_sem, p0, p1, p2]) rfl F1.out
end Go.Proofs.YtdijgmijnoiliaaDoor
