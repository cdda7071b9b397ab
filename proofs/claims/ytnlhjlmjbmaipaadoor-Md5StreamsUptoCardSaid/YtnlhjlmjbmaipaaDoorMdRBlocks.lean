/-
  tetherref04.Blocks: the words behind each whole 64 bytes; tetherlaw04.alike of what is the same.
-/
import Derived.Test.YtnlhjlmjbmaipaaDoorMdDig
import Derived.Test.YtnlhjlmjbmaipaaDoorMdRefSum
import Derived.Deep.QuietTactic
import Derived.BigQuiet
namespace Go.Proofs.YtnlhjlmjbmaipaaDoor
open Go.RowKit
set_option maxRecDepth 100000
set_option maxHeartbeats 4000000
set_option linter.unusedSimpArgs false
set_option linter.unusedVariables false

def upW (l : List UInt8) (i : Nat) : List W4 := (List.range i).map fun j => mdOver l (j + 1)
theorem upW_length (l : List UInt8) (i : Nat) : (upW l i).length = i := by simp [upW]
theorem upW_succ (l : List UInt8) (i : Nat) : upW l (i + 1) = upW l i ++ [mdOver l (i + 1)] := by
  unfold upW
  rw [List.range_succ, List.map_append]
  rfl
theorem upW_all (l : List UInt8) : upW l (l.length / 64) = wordsAll l := rfl
theorem rblocks_any (A : Option Addr) (N c B : Nat) (l : List UInt8) (w : World) (hr : Rd w B A N l) (hB : B ≤ w.heap.size) (hc : N ≤ c) (hnil : A = none → c = 0) (hm : N ≤ 140737488351000) :
    Calls Tryd.prog 13 #[.slice A N c] w fun e w' => ∃ d, e = .returned d ∧ OwnD w' w.heap.size d (wordsAll l) ∧ Below w.heap.size w w' := by
  have hl := hr.1
  have HR := Lib.hid hr
  have HL := Lib.hid hl
  clear hr hl
  go_enter Tryd.func13, Tryd.ntmps13
  go_wp2_with (go_at_call 24; refine (rbegin_any _).mono ?_; rintro e w1 ⟨rfl, hb1⟩; obtain ⟨W3, hst, hbk, hgw⟩ := store_allR (blk_new w1 56 [.int .u32 0, .int .u32 0, .int .u32 0, .int .u32 0]) (show (cells4 mdBegin).length = _ by simp [cells4]) (cells4_one mdBegin))
  have hs1 := hb1.size
  have hs3 := hgw.size
  rw [World.size_alloc] at hs3
  have hB3 : Below w.heap.size w W3 := (hb1.alloc hs1 _).grown hgw (by simp; omega) (fun k e => by cases e; omega)
  obtain ⟨b6, hb6⟩ : ∃ b6, b6 = w1.heap.size := ⟨_, rfl⟩
  rw [← hb6] at hbk hs1 hs3
  rw [← hb6]
  have HB3 := Lib.hid hB3
  have HKs := Lib.hid hbk
  clear hst hgw hb1 hB3 hb6 hbk
  go_loopw [3, 5] (fun vo vi ws => ∃ i p : Nat, vi = .int .i64 p ∧ Hid (p = 64 * i) ∧ p ≤ N ∧ OwnD ws (b6 + 1) vo (upW l i) ∧ Blk ws b6 56 (cells4 (mdOver l i)) ∧ Below w.heap.size w ws ∧ b6 < ws.heap.size) (fun _ vi _ => N - (intOf vi).toNat)
  case atStart => exact ⟨0, 0, rfl, rfl, by omega, World.ownsRow_nil _ _ _ _, HKs.out, HB3.out, by omega⟩
  case round =>
    rename World => wr
    obtain ⟨i, p, rfl, hpi, hp, ho, hk, hB4, hb6⟩ := hrel
    by_cases hlt : p + 64 ≤ N
    · obtain ⟨V, hV⟩ : ∃ V, V = mdOver l i := ⟨_, rfl⟩
      have hVok : V.ok := by rw [hV]; exact mdOver_ok _ _
      rw [← hV] at hk
      obtain ⟨U, hU⟩ : ∃ U, U = mdOver l (i + 1) := ⟨_, rfl⟩
      have hUok : U.ok := by rw [hU]; exact mdOver_ok _ _
      have c0 : wr.cell? ⟨b6, 0, none⟩ = some (.int .u32 V.a) := hk.cell 0
      have c1 : wr.cell? ⟨b6, 1, none⟩ = some (.int .u32 V.b) := hk.cell 1
      have c2 : wr.cell? ⟨b6, 2, none⟩ = some (.int .u32 V.c) := hk.cell 2
      have c3 : wr.cell? ⟨b6, 3, none⟩ = some (.int .u32 V.d) := hk.cell 3
      have hrd := HR.out.later hB hB4
      obtain ⟨ab, ao, rfl, hab, _⟩ := hrd.2 (by omega)
      have hrs := hrd.sub hlt
      have i64 : ((p : Int) + 64) ≤ (N : Int) := by omega
      have hcp : p + 64 ≤ c := by omega
      have icp : ((p : Int) + 64) ≤ (c : Int) := by omega
      have ip0 : (0 : Int) ≤ (p : Int) := by omega
      have ipn : ¬ (c = p) := by omega
      have ipp : (p : Int) ≤ (p : Int) + 64 := by omega
      have itn : ((p : Int) + 64).toNat = p + 64 := by omega
      have iwr : IntKind.i64.wrap ((p : Int) + 64) = (p : Int) + 64 := by simp [IntKind.wrap, IntKind.bits, IntKind.signed]; omega
      have ipn2 : ¬ ((c : Int) = (p : Int)) := by omega
      have nxt : mdBlock (mdWord ((l.drop p).take 64)) V = U := by
        rw [hU]
        show _ = mdBlock (mdWord (l.drop (64 * i))) (mdOver l i)
        rw [← hV, ← hpi.out]
        refine mdBlock_congr (mdWord_congr fun j hj => ?_) _
        unfold byteAt
        rw [List.getD_eq_getElem?_getD, List.getD_eq_getElem?_getD, List.getElem?_take_of_lt hj]
      have NXT := Lib.hid nxt
      have VV := Lib.hid hV
      have HU := Lib.hid hU
      have HUok := Lib.hid hUok
      have HVok := Lib.hid hVok
      have HO2 := Lib.hid ho
      have HK2 := Lib.hid hk
      have HB2' := Lib.hid hB4
      have HRS := Lib.hid hrs
      clear nxt hV hU hUok hVok ho hk hB4 hrs hrd
      go_wp2
      have BC := Lib.hid (rblock_any V ab (ao + p) (c - p) B ((l.drop p).take 64) wr.drew HVok.out HRS.out (by show B ≤ wr.heap.size; have := HB2'.out.size; omega) (by omega))
      rw [NXT.out] at BC
      go_region_with
        (first | (go_at_call 25; refine BC.out.mono ?_; rintro e w5 ⟨rfl, hb5⟩; obtain ⟨W6, hst, hbk, hgw⟩ := store_allR (show Blk w5 b6 56 (cells4 V) from (hb5.block b6 hb6).trans HK2.out) (show (cells4 U).length = _ by simp [cells4]) (cells4_one _)))
      have hsd : wr.heap.size ≤ w5.heap.size := hb5.size
      have hs6 := hgw.size
      have hB6 : Below wr.heap.size wr w5 := ⟨hb5.os, hb5.tape, hb5.output, hb5.size, hb5.block⟩
      have hwr := HB2'.out.size
      have ho6 := (HO2.out.later hB6).grown hgw (by
        cases hv : Value.ownBlock _ with
        | none => exact .inl rfl
        | some j =>
          refine .inr fun e => ?_
          injection e with e
          have := (HO2.out.block j hv).1
          omega)
      have hB7 : Below w.heap.size w W6 := (HB2'.out.trans (hB6.mono hwr)).grown hgw (by omega) (fun k e => by cases e; omega)
      have d0 : W6.cell? ⟨b6, 0, none⟩ = some (.int .u32 U.a) := hbk.cell 0
      have d1 : W6.cell? ⟨b6, 1, none⟩ = some (.int .u32 U.b) := hbk.cell 1
      have d2 : W6.cell? ⟨b6, 2, none⟩ = some (.int .u32 U.c) := hbk.cell 2
      have d3 : W6.cell? ⟨b6, 3, none⟩ = some (.int .u32 U.d) := hbk.cell 3
      have TA := told_any U W6 HUok.out
      rw [cellsB_eq] at TA
      unfold cellsB at TA
      have HTA := Lib.hid TA
      have HO5 := Lib.hid ho6
      have HB7 := Lib.hid hB7
      have HBK := Lib.hid hbk
      clear TA ho6 hB7 hbk hgw hB6 hb5 hst
      go_wp2_with fail
      refine HTA.out.mono ?_
      rintro e w7 ⟨rfl, hb7⟩
      have hs7 := hb7.size
      have ho7 := HO5.out.later hb7
      obtain ⟨v2, W8, hrun, ho8, hg8, hv8, A2, c2, hv2e⟩ := digs_run (w := w7) ho7 U (by rw [upW_length]; have := hpi.out; omega) (by omega)
      have hs8 := hg8.size
      rw [World.size_alloc] at hs8
      have POST : Hid (OwnD W8 (b6 + 1) v2 (upW l (i + 1)) ∧ Blk W8 b6 56 (cells4 (mdOver l (i + 1))) ∧ Below w.heap.size w W8 ∧ b6 < W8.heap.size) := by
        refine ⟨?_, ?_, ?_, by omega⟩
        · rw [upW_succ, ← HU.out]
          exact ho8
        · rw [← HU.out]
          exact (hg8.block b6 (by rw [World.size_alloc]; omega) (fun e => by have := (ho7.block _ e.symm).1; omega)).trans ((Below.heap_alloc _ _ _ (by omega)).trans ((hb7.block b6 (by omega)).trans HBK.out))
        · exact ((HB7.out.trans (hb7.mono (by omega))).alloc (by omega) _).grown hg8 (by rw [World.size_alloc]; omega) (fun k e => by have := (ho7.block _ e).1; omega)
      have HRUN := Lib.hid hrun
      subst hv2e
      rw [upW_length] at HRUN POST
      clear hb7 ho7 hrun ho8 hg8 hv8 d0 d1 d2 d3
      go_wp2_with (at_builtin; refine wpList_appT 34 rfl (.tmp 21) (.tmp 24) rfl _ _ rfl rfl _ _ HRUN.out ?_)
      go_roundw
      case rel => exact ⟨i + 1, p + 64, by go_num, by have := hpi.out; show _ = _; omega, by omega, POST.out⟩
      case measure => simp [intOf]; omega
    · have e : i = l.length / 64 := by have := hpi.out; rw [HL.out]; omega
      rw [e, upW_all] at ho
      have hlt2 : ¬ ((p : Int) + 64 ≤ (N : Int)) := by omega
      have HO := Lib.hid (ownD_wide ho (show w.heap.size ≤ b6 + 1 by omega))
      have HB := Lib.hid hB4
      clear ho hB4 hk e
      go_wp2
      go_ret
      exact ⟨_, rfl, HO.out, HB.out⟩
/-- two lists of digests that are the same -/
theorem alike_yes (A D : Option Addr) (n c d : Nat) (vs : List W4) (w : World) (hr : RdD w A n vs) (hq : RdD w D n vs) (hm : n ≤ 140737488355000) :
    Calls Tryd.prog 14 #[.slice A n c, .slice D n d] w fun e w' => e = .returned (.bool true) ∧ ∃ q, w' = w.drewN q := by
  have HR := Lib.hid hr
  have HQ := Lib.hid hq
  have HL : Hid (vs.length = n) := hr.1
  clear hr hq
  go_enter Tryd.func14, Tryd.ntmps14
  go_wp2
  go_loopw [13] (fun vi ws => ∃ i q : Nat, vi = .int .i64 i ∧ i ≤ n ∧ ws = w.drewN q) (fun vi _ => n - (intOf vi).toNat)
  case atStart => exact ⟨0, 0, rfl, by omega, rfl⟩
  case round =>
    obtain ⟨i, q, rfl, hi, rfl⟩ := hrel
    by_cases hlt : i < n
    · obtain ⟨g, rfl, hg, hc⟩ := HR.out.2 (by omega)
      obtain ⟨h, rfl, hh, hk⟩ := HQ.out.2 (by omega)
      obtain ⟨x, hx⟩ : ∃ x, vs[i]? = some x := ⟨vs[i]'(by have := HL.out; omega), List.getElem?_eq_getElem _⟩
      have a := fun r (hr : r < 16) => hc i r x hx hr
      have b := fun r (hr : r < 16) => hk i r x hx hr
      have a0 := a 0 (by omega)
      have b0 := b 0 (by omega)
      have a1 := a 1 (by omega)
      have b1 := b 1 (by omega)
      have a2 := a 2 (by omega)
      have b2 := b 2 (by omega)
      have a3 := a 3 (by omega)
      have b3 := b 3 (by omega)
      have a4 := a 4 (by omega)
      have b4 := b 4 (by omega)
      have a5 := a 5 (by omega)
      have b5 := b 5 (by omega)
      have a6 := a 6 (by omega)
      have b6 := b 6 (by omega)
      have a7 := a 7 (by omega)
      have b7 := b 7 (by omega)
      have a8 := a 8 (by omega)
      have b8 := b 8 (by omega)
      have a9 := a 9 (by omega)
      have b9 := b 9 (by omega)
      have a10 := a 10 (by omega)
      have b10 := b 10 (by omega)
      have a11 := a 11 (by omega)
      have b11 := b 11 (by omega)
      have a12 := a 12 (by omega)
      have b12 := b 12 (by omega)
      have a13 := a 13 (by omega)
      have b13 := b 13 (by omega)
      have a14 := a 14 (by omega)
      have b14 := b 14 (by omega)
      have a15 := a 15 (by omega)
      have b15 := b 15 (by omega)
      rw [Nat.add_zero] at a0 b0
      have EQ := fun W => eq16_same x W
      rw [cellsB_eq] at EQ
      unfold cellsB at EQ
      have i0 : (0 : Int) ≤ (i : Int) := by omega
      have i1 : (i : Int) < (n : Int) := by omega
      clear a b hc hk hx
      generalize mdByte x 0 = z0 at *
      generalize mdByte x 1 = z1 at *
      generalize mdByte x 2 = z2 at *
      generalize mdByte x 3 = z3 at *
      generalize mdByte x 4 = z4 at *
      generalize mdByte x 5 = z5 at *
      generalize mdByte x 6 = z6 at *
      generalize mdByte x 7 = z7 at *
      generalize mdByte x 8 = z8 at *
      generalize mdByte x 9 = z9 at *
      generalize mdByte x 10 = z10 at *
      generalize mdByte x 11 = z11 at *
      generalize mdByte x 12 = z12 at *
      generalize mdByte x 13 = z13 at *
      generalize mdByte x 14 = z14 at *
      generalize mdByte x 15 = z15 at *
      go_wp2
      go_quiet (fail)
      go_wp2
      go_roundw
      case rel => exact ⟨i + 1, _, by go_num, by omega, rfl⟩
      case measure => simp [intOf]; omega
    · go_wp2
      go_ret
      exact ⟨rfl, _, rfl⟩
end Go.Proofs.YtnlhjlmjbmaipaaDoor
