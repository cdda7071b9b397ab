/-
  tetherlaw01.OctetReads is true: whatever is asked of a reader.
-/
import Derived.Test.YtamcoppfjmggcaaRefTakes
import Derived.Test.YtamcoppfjmggcaaKept
import Derived.Test.YtamcoppfjmggcaaKnown
import Derived.Test.YtamcoppfjmggcaaOps
import Derived.Test.YtamcoppfjmggcaaSpec
import Derived.Deep.QuietTactic
import Derived.BigQuiet
import Derived.LoopTactic
namespace Go.Proofs.Ytamcoppfjmggcaa
open Go.RowKit
set_option maxRecDepth 100000
set_option maxHeartbeats 2000000
set_option linter.unusedSimpArgs false
set_option linter.unusedVariables false

theorem Own.front {w : World} {base g n cap : Nat} {l : List UInt8} (h : Own w base (.slice (some ⟨g, 0, none⟩) n cap) l) (hn : n = l.length) (k : Nat) (hk : k ≤ n) :
    Own w base (.slice (some ⟨g, 0, none⟩) k cap) (l.take k) := by
  subst hn
  rcases h.2 with ⟨e, _⟩ | ⟨g', cap', cur, e, hb, hh, hc, hm, hs, ht⟩
  · cases e
  · injection e with e1 e2 e3
    injection e1 with e1
    injection e1 with e1
    subst e1 e3
    have hlen : (l.take k).length = k := by rw [List.length_take]; omega
    refine ⟨by simp, .inr ⟨g, cap, cur, by rw [hlen], hb, hh, by omega, hm, hs, ?_⟩⟩
    rw [hlen, Nat.mul_one, List.map_take, ← ht, List.take_take]
    congr 1
    omega

theorem newreader_any (A : Option Addr) (n c B : Nat) (l : List UInt8) (w : World) (hr : Rd w B A n l) (hB : B ≤ w.heap.size) (hn : n ≤ 140737488355328) :
    Calls Try.prog 17 #[.slice A n c] w fun e w' =>
      ∃ g, e = .returned (.pointer (some ⟨g, 0, none⟩)) ∧ w.heap.size ≤ g ∧ g < w'.heap.size ∧ Below w.heap.size w w' ∧
        ∀ w'' row, w'.grownBy w'' row → (∀ q, row = some q → q < w.heap.size) → OctAt w'' w'.heap.size g l 0 := by
  have C := Lib.hid (clone_big A n c B l w hr hB hn)
  have L := Lib.hid hr.1
  clear hr
  go_enter Try.func17, Try.ntmps17
  go_wp2_with fail
  refine (C.out).mono ?_
  rintro e w1 ⟨rfl, ho, hb⟩
  have hs := hb.size
  have hF : ∀ w'' row, (w1.alloc (.cells #[.slice (some ⟨w.heap.size, 0, none⟩) n n, .int .i64 0] 62)).grownBy w'' row → (∀ q, row = some q → q < w.heap.size) → OctAt w'' (w1.heap.size + 1) w1.heap.size l 0 := by
    intro w'' row hG hq
    have hrd := ho.rd L.out.symm n (Nat.le_refl _)
    rw [List.take_of_length_le (by have := L.out; omega)] at hrd
    have hblk := blk_new w1 62 [.slice (some ⟨w.heap.size, 0, none⟩) n n, .int .i64 0]
    have hz := (ho.block w.heap.size rfl).2
    refine ⟨⟨some ⟨w.heap.size, 0, none⟩, n, n, (hG.block w1.heap.size (by simp) ?_).trans hblk, ?_, Nat.le_refl _, ⟨hn, by omega⟩, .inr ⟨_, _, rfl⟩, by omega, ?_⟩, fun h => absurd rfl h⟩
    · intro e
      have := hq _ e.symm
      omega
    · refine ⟨L.out, fun h0 => ⟨w.heap.size, 0, rfl, by omega, fun j hj => ?_⟩⟩
      obtain ⟨b, off, e, _, hc⟩ := hrd.2 h0
      injection e with e
      injection e with e1 e2
      subst e1 e2
      rw [World.cell?_of_block (hG.block w.heap.size (by simp; omega) (by
        intro e
        have := hq _ e.symm
        omega)), World.cell?_alloc_lt _ _ _ (by exact hz)]
      exact hc j hj
    · have := hG.size
      simpa using this
  have F := Lib.hid hF
  have BB := Lib.hid hb
  clear ho hb hF
  go_wp2
  go_ret
  exact ⟨_, rfl, hs, by simp, BB.out.alloc hs _, by simpa using F.out⟩

theorem reads_walk (A D : Option Addr) (n c m d : Nat) (l : List UInt8) (K N : Nat → Int) (S : Nat → List UInt8) (w : World) (hr : Rd w w.heap.size A n l) (hnil : A = none → c = 0) (hc : n ≤ c) (hn : c ≤ 140737488351232)
    (hops : OpsAt w D m K N S) (hm : m ≤ 140737488351232) :
    Calls Try.prog 5 #[.slice A n c, .slice D m d] w fun e w' => e = .returned (.bool true) ∧ Below w.heap.size w w' := by
  have hl := hr.1
  have L := Lib.hid (lent_any A n c l w hr hnil (by omega))
  have HR := Lib.hid hr
  have HL := Lib.hid hl
  have HO := Lib.hid hops
  clear hr hl hops
  go_enter Try.func5, Try.ntmps5
  go_wp2_with fail
  refine (L.out).mono ?_
  rintro e w1 ⟨g, cap, rfl, ho, hB⟩
  have hlen : n + 1 = (l ++ [77]).length := by rw [List.length_append, HL.out]; rfl
  have hown := ho.front hlen n (by omega)
  rw [List.take_append_of_le_length (by have := HL.out; omega), List.take_of_length_le (by have := HL.out; omega)] at hown
  have hrd := hown.rd HL.out.symm n (Nat.le_refl _)
  rw [List.take_of_length_le (by have := HL.out; omega)] at hrd
  have hgb := hown.block g rfl
  have hs1 := hB.size
  have P := Lib.hid (newreader_any (some ⟨g, 0, none⟩) n cap w1.heap.size l w1 hrd (Nat.le_refl _) (by omega))
  have O1 := Lib.hid hown
  have B1 := Lib.hid hB
  clear ho hB hlen hown hrd
  go_wp2_with fail
  refine (P.out).mono ?_
  rintro e w2 ⟨gR, rfl, hgR1, hgR2, hB, hF⟩
  have hs2 := hB.size
  have B2 := Lib.hid (B1.out.trans (hB.mono hs1))
  have hO2 : Own w2 w.heap.size (.slice (some ⟨g, 0, none⟩) n cap) l := O1.out.later hB
  have Q := Lib.hid (spoil_own (.slice (some ⟨g, 0, none⟩) n cap) w.heap.size l w2 hO2 (by omega) (by have := HL.out; omega))
  have F := Lib.hid hF
  clear hB hF hO2
  go_wp2_with fail
  refine (Q.out).mono ?_
  rintro e w3 ⟨rfl, hG⟩
  have hs3 := hG.size
  have hO3 : OctAt w3 w2.heap.size gR l 0 := F.out w3 _ hG (by
    intro q hq
    simp [Value.ownBlock] at hq
    omega)
  have B3 := Lib.hid (B2.out.grown hG (by omega) (by
    intro q hq
    simp [Value.ownBlock] at hq
    omega))
  clear hG
  have hBx : Below w.heap.size w (w3.alloc (.cells #[.slice none 0 0, .int .i64 0] 39)) := B3.out.alloc B3.out.size _
  obtain ⟨v1, w4, r1, o1, g1, b1⟩ := append_run (Own.nil (w3.alloc (.cells #[.slice none 0 0, .int .i64 0] 39)) (w3.heap.size + 1)) c ((HR.out.below hBx)) hnil (by simp; omega) (by simp)
  rw [List.nil_append] at o1
  obtain ⟨V, vc, rfl, hvr, hvc⟩ := o1.any
  have hVf : (V = none ∧ vc = 0) ∨ ∃ b off, V = some ⟨b, off, none⟩ := by
    rcases o1.form with ⟨e, _⟩ | ⟨g', cap', e, _⟩
    · injection e with e1 e2 e3
      exact .inl ⟨e1, e3⟩
    · injection e with e1 e2 e3
      exact .inr ⟨_, _, e1⟩
  have hvm : vc ≤ 9223372036854775807 := by
    rcases o1.2 with ⟨e, _⟩ | ⟨g', cap', cur, e, _, _, _, hm, _⟩
    · injection e with e1 e2 e3
      omega
    · injection e with e1 e2 e3
      unfold maxLen at hm
      omega
  have hg1 : Below (w3.heap.size + 1) (w3.alloc (.cells #[.slice none 0 0, .int .i64 0] 39)) w4 := (Below.refl _ _).grown g1 (by simp) (by simp [Value.ownBlock])
  have hs4 : w3.heap.size + 1 ≤ w4.heap.size := by simpa using hg1.size
  have hb4 : Blk w4 w3.heap.size 39 [.slice none 0 0, .int .i64 0] := (hg1.block _ (by omega)).trans (blk_new w3 _ _)
  have c0 : w4.cell? ⟨w3.heap.size, 0, none⟩ = some (.slice none 0 0) := hb4.cell 0
  have f0 := hb4.frozen 0
  have c00 : (w3.alloc (.cells #[.slice none 0 0, .int .i64 0] 39)).cell? ⟨w3.heap.size, 0, none⟩ = some (.slice none 0 0) := (blk_new w3 39 [.slice none 0 0, .int .i64 0]).cell 0
  have hll := HL.out
  have RS : RefAt (w4.setCell ⟨w3.heap.size, 0, none⟩ (.slice V l.length vc)) w4.heap.size w3.heap.size l 0 :=
    ⟨l, Rdr.stored hb4 (by omega) (Nat.le_refl _) hvr hvc (by omega) hVf, fun _ => rfl⟩
  have hg4 : (w3.alloc (.cells #[.slice none 0 0, .int .i64 0] 39)).grownBy w4 none := g1
  have hO4 : OctAt w4 w2.heap.size gR l 0 := ⟨(hO3.1.later ((Below.refl _ _).alloc (Nat.le_refl _) _)).newer hg4 (by simp), hO3.2⟩
  have gs := only_set (w := w4) (p := ⟨w3.heap.size, 0, none⟩) (.slice V l.length vc)
  have hO5 : OctAt (w4.setCell ⟨w3.heap.size, 0, none⟩ (.slice V l.length vc)) w2.heap.size gR l 0 := ⟨hO4.1.newer gs (by intro q hq; injection hq with hq; simp at hq; omega), hO4.2⟩
  have hsz5 : (w4.setCell ⟨w3.heap.size, 0, none⟩ (.slice V l.length vc)).heap.size = w4.heap.size := World.size_setCell _ _ _
  have hB5 : Below w.heap.size w (w4.setCell ⟨w3.heap.size, 0, none⟩ (.slice V l.length vc)) := (hBx.grown hg4 (by have := B3.out.size; simp; omega) (by simp)).setCell (by have := B3.out.size; simpa using this) _
  have R1 := Lib.hid r1
  have RS1 := Lib.hid RS
  have O5 := Lib.hid hO5
  have B5 := Lib.hid hB5
  have hS3 := B3.out.size
  obtain ⟨gS, hgS⟩ : ∃ gS, gS = w3.heap.size := ⟨_, rfl⟩
  have HgS := Lib.hid hgS
  clear hgS hVf hvm hg1 hb4 hll RS hg4 hO4 gs hO5 hsz5 hB5 hO3 hBx r1 o1 b1 g1 hvr hvc
  go_wp2_with (at_builtin; refine wpList_app rfl (.tmp 26) (.tmp 27) rfl _ _ rfl rfl _ _ R1.out ?_)
  go_loopw [8] (fun i wr => ∃ (k : Nat) (r : List UInt8) (e : Int), k ≤ m ∧ i = .int .i64 k ∧ r.length ≤ 140737488351232 ∧ OctAt wr w2.heap.size gR r e ∧ RefAt wr w4.heap.size w3.heap.size r e ∧ Below w.heap.size w wr) (fun i _ => m - (intOf i).toNat)
  case atStart => exact ⟨0, l, 0, Nat.zero_le _, rfl, (by have := HL.out; omega), O5.out, RS1.out, B5.out⟩
  case round =>
    rename_i wr
    obtain ⟨k, r, e, hk, rfl, hrl, hO, hR, hBl⟩ := hrel
    have hRi := hR.inside
    have hOi := hO.inside
    have hne : gR ≠ w3.heap.size := by omega
    have OO := Lib.hid hO
    have RR := Lib.hid hR
    have BB := Lib.hid hBl
    have NE := Lib.hid hne
    clear hO hR hBl hne
    by_cases hlt : k < m
    · obtain ⟨b, off, rfl, hbw, hcell⟩ := HO.out (by omega)
      obtain ⟨ck, cn, nlo, nhi, _⟩ := hcell k hlt
      have ck' : wr.cell? ⟨b, off + k * 3, none⟩ = some (.int .i64 (K k)) := (BB.out.cell hbw).trans ck
      have cn' : wr.cell? ⟨b, off + k * 3 + 1, none⟩ = some (.int .i64 (N k)) := (BB.out.cell hbw).trans cn
      clear ck cn hcell
      generalize K k = kd at *
      generalize N k = nn at *
      by_cases k0 : kd = 0
      · subst k0
        have hl2 := nm_le r e nn
        have P1 := Lib.hid (onum_any w2.heap.size gR nn r e wr OO.out)
        go_wp2_with fail
        refine (P1.out).mono ?_
        rintro e1 w5 ⟨rfl, hO, hG⟩
        have hR := RR.out.other OO.out NE.out hG
        have hB5 := BB.out.grown hG BB.out.size (by intro q hq; injection hq with hq; omega)
        have O5' := Lib.hid hO
        have R5 := Lib.hid hR
        have B5' := Lib.hid hB5
        have P2 := Lib.hid (refnum_any w4.heap.size w3.heap.size nn r e w5 hR)
        clear hO hR hG hB5
        go_wp2_with fail
        refine (P2.out).mono ?_
        rintro e1 w6 ⟨rfl, hR, hG⟩
        have O6 := Lib.hid (O5'.out.other R5.out NE.out hG)
        have R6 := Lib.hid hR
        have B6 := Lib.hid (B5'.out.grown hG B5'.out.size (by intro q hq; injection hq with hq; omega))
        clear hR hG
        generalize nmVal r e nn = vv at *
        generalize nmRest r e nn = r' at *
        generalize nmErr r e nn = e' at *
        have hE : w6.cell? ⟨w3.heap.size, 1, none⟩ = some (.int .i64 e') := R6.out.cell1
        go_wp2
        go_quiet (first
          | (go_at_call 24; exact ((left_any w2.heap.size gR r' e' _ (O6.out.drewN _)).mono fun _ _ ⟨he, hw⟩ => ⟨he, _, hw.symm⟩))
          | (go_at_call 23; exact ((refleft_any w4.heap.size w3.heap.size r' e' _ (R6.out.drewN _) O6.out.2).mono fun _ _ ⟨he, hw⟩ => ⟨he, _, hw.symm⟩))
          | (go_at_call 25; exact ((err_any w2.heap.size gR r' e' _ (O6.out.drewN _)).mono fun _ _ ⟨he, hw⟩ => ⟨he, _, hw.symm⟩)))
        go_wp2
        go_roundw
        case rel => exact ⟨k + 1, r', e', by omega, by go_num, (by omega), O6.out.drewN _, R6.out.drewN _, below_drewN B6.out _⟩
        case measure => simp [intOf]; omega
      · by_cases k1 : kd = 1
        · subst k1
          clear k0
          have hl2 := tk_le r e nn
          have P1 := Lib.hid (take_any w2.heap.size gR nn r e wr OO.out)
          go_wp2_with fail
          refine (P1.out).mono ?_
          rintro e1 w5 ⟨v, rfl, ho, hO, hG⟩
          have hs5 := hG.size
          have hvb := ho.block
          have hR := RR.out.other OO.out NE.out hG
          have hB5 := BB.out.grown hG BB.out.size (by intro q hq; injection hq with hq; omega)
          have V5 := Lib.hid ho
          have O5' := Lib.hid hO
          have R5 := Lib.hid hR
          have B5' := Lib.hid hB5
          have P2 := Lib.hid (reftake_any w4.heap.size w3.heap.size nn r e w5 hR)
          clear ho hO hR hG hB5
          go_wp2_with fail
          refine (P2.out).mono ?_
          rintro e1 w6 ⟨u, rfl, hu, hR, hG⟩
          have hs6 := hG.size
          have O6 := Lib.hid (O5'.out.other R5.out NE.out hG)
          have R6 := Lib.hid hR
          have B6 := Lib.hid (B5'.out.grown hG B5'.out.size (by intro q hq; injection hq with hq; omega))
          have V6 := Lib.hid (V5.out.grown hG (by
            rcases hv : v.ownBlock with _ | q
            · exact .inl rfl
            · have := hvb q hv
              refine .inr ?_
              intro e
              injection e with e
              omega))
          have P3 := Lib.hid (same_own v u wr.heap.size w5.heap.size _ w6 V6.out hu (by omega))
          have P4 := Lib.hid fun q => spoil_own v wr.heap.size (tkOut r e nn) (w6.drewN q) (V6.out.drewN q) (show wr.heap.size ≤ w6.heap.size by omega) (by omega)
          clear hu hR hG
          go_wp2_with fail
          refine (P3.out).mono ?_
          rintro e1 w7 ⟨rfl, q, rfl⟩
          go_wp2_with fail
          refine (P4.out q).mono ?_
          rintro e1 w8 ⟨rfl, hG⟩
          have hG' : w6.grownBy w8 v.ownBlock := ⟨hG.os, hG.tape, hG.output, hG.size, hG.block⟩
          have O8 := Lib.hid (O6.out.newer hG' (by intro q hq; have := hvb q hq; omega))
          have R8 := Lib.hid (R6.out.newer hG' (by intro q hq; have := hvb q hq; omega))
          have B8 := Lib.hid (B6.out.grown hG' (show w.heap.size ≤ w6.heap.size from B6.out.size) (by intro q hq; have := hvb q hq; have := BB.out.size; omega))
          clear hG hG' hvb
          generalize tkOut r e nn = oo at *
          generalize tkRest r e nn = r' at *
          generalize tkErr r e nn = e' at *
          have hE : w8.cell? ⟨w3.heap.size, 1, none⟩ = some (.int .i64 e') := R8.out.cell1
          go_wp2
          go_quiet (first
            | (go_at_call 24; exact ((left_any w2.heap.size gR r' e' _ (O8.out.drewN _)).mono fun _ _ ⟨he, hw⟩ => ⟨he, _, hw.symm⟩))
            | (go_at_call 23; exact ((refleft_any w4.heap.size w3.heap.size r' e' _ (R8.out.drewN _) O8.out.2).mono fun _ _ ⟨he, hw⟩ => ⟨he, _, hw.symm⟩))
            | (go_at_call 25; exact ((err_any w2.heap.size gR r' e' _ (O8.out.drewN _)).mono fun _ _ ⟨he, hw⟩ => ⟨he, _, hw.symm⟩)))
          go_wp2
          go_roundw
          case rel => exact ⟨k + 1, r', e', by omega, by go_num, (by omega), O8.out.drewN _, R8.out.drewN _, below_drewN B8.out _⟩
          case measure => simp [intOf]; omega
        · by_cases k2 : kd = 2
          · subst k2
            clear k0 k1
            have hl2 := tk_le r e (r.length : Int)
            have P1 := Lib.hid (rest_any w2.heap.size gR r e wr OO.out)
            go_wp2_with fail
            refine (P1.out).mono ?_
            rintro e1 w5 ⟨v, rfl, ho, hO, hG⟩
            have hs5 := hG.size
            have hvb := ho.block
            have hR := RR.out.other OO.out NE.out hG
            have hB5 := BB.out.grown hG BB.out.size (by intro q hq; injection hq with hq; omega)
            have V5 := Lib.hid ho
            have O5' := Lib.hid hO
            have R5 := Lib.hid hR
            have B5' := Lib.hid hB5
            have P0 := Lib.hid (refleft_any w4.heap.size w3.heap.size r e w5 hR OO.out.2)
            have P2 := Lib.hid (reftake_any w4.heap.size w3.heap.size (r.length : Int) r e w5 hR)
            clear ho hO hR hG hB5
            go_wp2_with fail
            refine (P0.out).mono ?_
            rintro e1 w5' ⟨rfl, rfl⟩
            go_wp2_with fail
            refine (P2.out).mono ?_
            rintro e1 w6 ⟨u, rfl, hu, hR, hG⟩
            have hs6 := hG.size
            have O6 := Lib.hid (O5'.out.other R5.out NE.out hG)
            have R6 := Lib.hid hR
            have B6 := Lib.hid (B5'.out.grown hG B5'.out.size (by intro q hq; injection hq with hq; omega))
            have V6 := Lib.hid (V5.out.grown hG (by
              rcases hv : v.ownBlock with _ | q
              · exact .inl rfl
              · have := hvb q hv
                refine .inr ?_
                intro e
                injection e with e
                omega))
            have P3 := Lib.hid (same_own v u wr.heap.size w5.heap.size _ w6 V6.out hu (by omega))
            have P4 := Lib.hid fun q => spoil_own v wr.heap.size (tkOut r e (r.length : Int)) (w6.drewN q) (V6.out.drewN q) (show wr.heap.size ≤ w6.heap.size by omega) (by omega)
            clear hu hR hG
            go_wp2_with fail
            refine (P3.out).mono ?_
            rintro e1 w7 ⟨rfl, q, rfl⟩
            go_wp2_with fail
            refine (P4.out q).mono ?_
            rintro e1 w8 ⟨rfl, hG⟩
            have hG' : w6.grownBy w8 v.ownBlock := ⟨hG.os, hG.tape, hG.output, hG.size, hG.block⟩
            have O8 := Lib.hid (O6.out.newer hG' (by intro q hq; have := hvb q hq; omega))
            have R8 := Lib.hid (R6.out.newer hG' (by intro q hq; have := hvb q hq; omega))
            have B8 := Lib.hid (B6.out.grown hG' (show w.heap.size ≤ w6.heap.size from B6.out.size) (by intro q hq; have := hvb q hq; have := BB.out.size; omega))
            clear hG hG' hvb
            generalize tkOut r e (r.length : Int) = oo at *
            generalize tkRest r e (r.length : Int) = r' at *
            generalize tkErr r e (r.length : Int) = e' at *
            have hE : w8.cell? ⟨w3.heap.size, 1, none⟩ = some (.int .i64 e') := R8.out.cell1
            go_wp2
            go_quiet (first
              | (go_at_call 24; exact ((left_any w2.heap.size gR r' e' _ (O8.out.drewN _)).mono fun _ _ ⟨he, hw⟩ => ⟨he, _, hw.symm⟩))
              | (go_at_call 23; exact ((refleft_any w4.heap.size w3.heap.size r' e' _ (R8.out.drewN _) O8.out.2).mono fun _ _ ⟨he, hw⟩ => ⟨he, _, hw.symm⟩))
              | (go_at_call 25; exact ((err_any w2.heap.size gR r' e' _ (O8.out.drewN _)).mono fun _ _ ⟨he, hw⟩ => ⟨he, _, hw.symm⟩)))
            go_wp2
            go_roundw
            case rel => exact ⟨k + 1, r', e', by omega, by go_num, (by omega), O8.out.drewN _, R8.out.drewN _, below_drewN B8.out _⟩
            case measure => simp [intOf]; omega
          · have z0 : (kd == 0) = false := by simpa using k0
            have z1 : (kd == 1) = false := by simpa using k1
            have z2 : (kd == 2) = false := by simpa using k2
            have hE : wr.cell? ⟨w3.heap.size, 1, none⟩ = some (.int .i64 e) := RR.out.cell1
            clear k0 k1 k2
            go_wp2
            go_quiet (first
              | (go_at_call 24; exact ((left_any w2.heap.size gR r e _ (OO.out.drewN _)).mono fun _ _ ⟨he, hw⟩ => ⟨he, _, hw.symm⟩))
              | (go_at_call 23; exact ((refleft_any w4.heap.size w3.heap.size r e _ (RR.out.drewN _) OO.out.2).mono fun _ _ ⟨he, hw⟩ => ⟨he, _, hw.symm⟩))
              | (go_at_call 25; exact ((err_any w2.heap.size gR r e _ (OO.out.drewN _)).mono fun _ _ ⟨he, hw⟩ => ⟨he, _, hw.symm⟩)))
            go_wp2
            go_roundw
            case rel => exact ⟨k + 1, r, e, by omega, by go_num, hrl, OO.out.drewN _, RR.out.drewN _, below_drewN BB.out _⟩
            case measure => simp [intOf]; omega
    · have : k = m := by omega
      subst this
      go_wp2_with fail
      refine (known_yes _).mono ?_
      rintro e' w9 ⟨rfl, hB9⟩
      have B9 := Lib.hid (BB.out.trans (hB9.mono BB.out.size))
      clear hB9
      go_wp2
      go_ret
      exact ⟨rfl, B9.out⟩
end Go.Proofs.Ytamcoppfjmggcaa
