/-
  tetherlaw04.Md5Streams: the walk.
-/
import Derived.Test.YtnlhjlmjbmaipaaDoorMdStm
import Derived.Test.YtnlhjlmjbmaipaaDoorMdLent
import Derived.Test.YtnlhjlmjbmaipaaDoorRowsAt
import Derived.Test.YtnlhjlmjbmaipaaDoorMdCopiesWalk
import Derived.Outline
import Derived.Deep.RegionWith
namespace Go.Proofs.YtnlhjlmjbmaipaaDoor
open Go.RowKit Go.Shelf
set_option maxRecDepth 100000
set_option maxHeartbeats 8000000
set_option linter.unusedSimpArgs false
set_option linter.unusedVariables false

/-- the stream of some bytes and the same bytes beside it -/
structure SB (w W : World) (g : Nat) (cur ca : List UInt8) (v va : Value) : Prop where
  s : Stm W w.heap.size g cur v
  o : Own W w.heap.size va ca
  bel : Below w.heap.size w W
  ag : va.ownBlock ≠ some g
  av : ∀ k, va.ownBlock = some k → v.ownBlock ≠ some k
theorem SB.later {w W W' : World} {g : Nat} {cur ca : List UInt8} {v va : Value} (h : SB w W g cur ca v va) (hB : Below W.heap.size W W') : SB w W' g cur ca v va :=
  ⟨h.s.later hB, h.o.later hB, h.bel.trans (hB.mono h.bel.size), h.ag, h.av⟩
theorem SB.grown {w W W' : World} {g k : Nat} {cur ca : List UInt8} {v va : Value} (h : SB w W g cur ca v va) (hG : W.grownBy W' (some k)) (hk : w.heap.size ≤ k) (h1 : k ≠ g) (h2 : v.ownBlock ≠ some k) (h3 : va.ownBlock ≠ some k) : SB w W' g cur ca v va := by
  obtain ⟨rest, a1, a2⟩ := h.s
  exact ⟨⟨rest, a1.grown hG (fun e => h1 e.symm) h2, a2⟩, h.o.grown hG (.inr h3), h.bel.grown hG h.bel.size (fun j e => by cases e; exact hk), h.ag, h.av⟩
theorem own_keep {w w' : World} {base : Nat} {v : Value} {l : List UInt8} (h : Own w base v l) (hs : w.heap.size ≤ w'.heap.size) (hk : ∀ j, v.ownBlock = some j → w'.heap[j]? = w.heap[j]?) : Own w' base v l := by
  refine ⟨h.1, ?_⟩
  rcases h.2 with h0 | ⟨g, cap, cur, e, hb, hg, hr⟩
  · exact .inl h0
  · exact .inr ⟨g, cap, cur, e, hb, (hk g (by rw [e]; rfl)).trans hg, hr⟩
theorem SB.appended {w W W' : World} {g : Nat} {cur ca l : List UInt8} {v va va' : Value} (h : SB w W g cur ca v va) (hG : W.grownBy W' va.ownBlock) (ho : Own W' w.heap.size va' (ca ++ l)) (hb : va'.ownBlock = va.ownBlock ∨ va'.ownBlock = some W.heap.size) : SB w W' g cur (ca ++ l) v va' := by
  have hgl := h.s.lt
  have hvl := h.s.ownB
  obtain ⟨rest, a1, a2⟩ := h.s
  refine ⟨⟨rest, ⟨(hG.block g hgl (fun e => h.ag e.symm)).trans a1.blk, a1.len, a1.own.grown hG ?_, a1.ne, a1.ok⟩, a2⟩, ho, below_own h.bel h.o hG (Nat.le_refl _) h.bel.size, ?_, ?_⟩
  · cases hv : v.ownBlock with
    | none => exact .inl rfl
    | some k => exact .inr fun e => h.av k e.symm hv
  · rcases hb with e | e
    · rw [e]
      exact h.ag
    · rw [e]
      intro e'
      injection e' with e'
      omega
  · intro k hk
    rcases hb with e | e
    · exact h.av k (e.symm.trans hk)
    · rw [e] at hk
      injection hk with hk
      intro e'
      have := (hvl k e').2
      omega
theorem md5streams_walk (A : Option Addr) (m c : Nat) (S : Nat → List UInt8) (x : Int) (w : World) (hr : RowsAt w A m S) (hc : m ≤ c) (hx : -9223372036854775808 ≤ x ∧ x ≤ 9223372036854775807) (hK : TabK w) (hS : TabS w) :
    Calls Tryd.prog 3 #[.slice A m c, .int .i64 x] w fun e w' => e = .returned (.bool true) ∧ Below w.heap.size w w' := by
  have hk0 : 0 < w.heap.size := World.block_lt_of_cell? _ _ (hK 0 (by omega))
  have hs0 : 1 < w.heap.size := World.block_lt_of_cell? _ _ (hS 0 (by omega))
  have HR := Lib.hid hr.2.2
  have hm := hr.1
  have HT := Lib.hid hr.2.1
  have HK := Lib.hid hK
  have HS := Lib.hid hS
  clear hr hK hS
  go_enter Tryd.func3, Tryd.ntmps3
  go_wp2_with fail
  refine (new_stm _).mono ?_
  rintro e w1 ⟨rfl, st1, b1⟩
  obtain ⟨g, hg⟩ : ∃ g, g = w.heap.size := ⟨_, rfl⟩
  have hgG := Lib.hid hg
  have SB0 : Hid (SB w w1 g [] [] (.slice none 0 0) (.slice none 0 0)) := ⟨by rw [hg]; exact st1, Own.nil _ _, b1, by simp [Value.ownBlock], by simp [Value.ownBlock]⟩
  rw [← hg]
  clear st1 b1 hg
  go_wp2
  go_loopw [6, 17] (fun va i wr => ∃ (k : Nat) (cur : List UInt8) (v : Value), i = .int .i64 k ∧ k ≤ m ∧ k ≤ 100 ∧ SB w wr g cur cur v va ∧ cur.length ≤ total S k) (fun _ i _ => m - (intOf i).toNat)
  case atStart => exact ⟨0, [], _, rfl, Nat.zero_le _, by omega, SB0.out, Nat.zero_le _⟩
  case round =>
    rename World => wr
    obtain ⟨k, cur, v, rfl, hkm, hk100, hsb, hcl⟩ := hrel
    by_cases hlt : k < m ∧ k < 100
    · obtain ⟨hlt1, hlt2⟩ := hlt
      obtain ⟨b, o, rfl, hb, hrow⟩ := HR.out (by omega)
      obtain ⟨D, n, c', hcell0, hrd0, hnc, hc', hnil⟩ := hrow k hlt1
      have hcell : wr.cell? ⟨b, o + k, none⟩ = some (.slice D n c') := (hsb.bel.cell (p := ⟨b, o + k, none⟩) hb).trans hcell0
      obtain ⟨l, hl⟩ : ∃ l, l = S k := ⟨_, rfl⟩
      rw [← hl] at hrd0
      have hln := hrd0.1
      have e1 : total S (k + 1) = total S k + (S k).length := rfl
      have e2 := total_mono S (k + 1) m (by omega)
      have e3 := HT.out
      rw [← hl, hln] at e1
      have LN := Lib.hid hln
      have TN : Hid (cur.length + n ≤ 1048576 ∧ cur.length + n ≤ total S (k + 1)) := by show _ ∧ _; omega
      have RD0 := Lib.hid hrd0
      have NIL := Lib.hid hnil
      have AT := Lib.hid (rd_at hrd0 (Nat.le_refl _))
      have hk1 : (k : Int) < (m : Int) := by omega
      have hk2 : ¬ (100 ≤ (k : Int)) := by omega
      have hk0' : (0 : Int) ≤ (k : Int) := by omega
      clear hrow hcell0 hrd0 hl hln e1 e2 e3 hnil
      -- in each way a stream of some bytes, and these beside it
      by_cases hres : (k : Int) = x
      case' pos =>
        obtain rfl : x = (k : Int) := hres.symm
        have RS := Lib.hid (reset_any w.heap.size g cur v wr hsb.s)
        have HSB := Lib.hid hsb
        clear hsb hres
        go_wp2_with fail
        refine RS.out.mono ?_
        rintro e wq ⟨rfl, stz, gz⟩
        have SBX : Hid (SB w wq g [] [] (.slice none 0 0) (.slice none 0 0)) := ⟨stz, Own.nil _ _, HSB.out.bel.grown gz HSB.out.bel.size (fun j e => by cases e; have := hgG.out; omega), by simp [Value.ownBlock], by simp [Value.ownBlock]⟩
        have LEN : Hid ((([] : List UInt8).length + n ≤ 1048576) ∧ ([] : List UInt8).length + n ≤ total S (k + 1)) := by have := TN.out; show _ ∧ _; simp only [List.length_nil]; omega
        obtain ⟨cq, hcq⟩ : ∃ cq : List UInt8, cq = [] := ⟨_, rfl⟩
        rw [← hcq] at SBX LEN
        clear stz gz HSB RS hcq hcell
        go_wp2_with fail
      case' neg =>
        obtain ⟨wq, hwq⟩ : ∃ wq, wq = wr := ⟨_, rfl⟩
        obtain ⟨cq, hcq⟩ : ∃ cq, cq = cur := ⟨_, rfl⟩
        subst hwq hcq
        have SBX := Lib.hid hsb
        have LEN := TN
        clear hsb
        go_wp2_with fail
        clear hres hcell
      all_goals (
        have hq := SBX.out.bel.size
        have hrdq := RD0.out.later (Nat.le_refl _) SBX.out.bel
        have LT := Lib.hid (lent2_any D n c' _ l wq hrdq NIL.out (by have := LEN.out; omega))
        refine LT.out.mono ?_
        rintro e w2 ⟨gc, cap, rfl, hcap, hoD, hb2⟩
        obtain ⟨hgc1, hgc2⟩ := hoD.block gc rfl
        have SB2 := Lib.hid (SBX.out.later hb2)
        have hgl := SBX.out.s.lt
        have vlt := Lib.hid (fun j e => (SBX.out.s.ownB j e).2)
        have olt := Lib.hid (fun j e => (SBX.out.o.block j e).2)
        have h2 := hb2.size
        have hrd2 := hoD.rd (by simp [LN.out]) n (by omega)
        rw [List.take_append_of_le_length (by rw [LN.out]; exact Nat.le_refl _), List.take_of_length_le (by rw [LN.out]; exact Nat.le_refl _)] at hrd2
        have WR := Lib.hid (write_stm w.heap.size g n cap w2.heap.size cq l _ (some ⟨gc, 0, none⟩) w2 SB2.out.s hrd2 (Nat.le_refl _) (by omega) (fun h => nomatch h) (fun y o' e h0 => by cases e; exact ⟨by omega, fun e' => by have := vlt.out _ e'; omega⟩) (by have := LEN.out; omega) (by omega) (by have := hgG.out; omega) (HK.out.keptB SB2.out.bel hk0) (HS.out.keptB SB2.out.bel hs0) hk0 hs0)
        have HOD := Lib.hid hoD
        clear hoD hb2 hrd2 hrdq LT
        go_wp2_with fail
        refine WR.out.mono ?_
        rintro e w3 ⟨rfl, v3, st3, f3⟩
        have h3 := f3.size
        have b3 : Below w.heap.size w w3 := SB2.out.bel.trans (frm_base (w := w) SB2.out.s f3 (by omega) (by have := hgG.out; omega))
        have v3lt : Hid (∀ j, v3.ownBlock = some j → j < wq.heap.size ∨ w2.heap.size ≤ j) := by
          show ∀ j, _
          intro j e
          rcases f3.own with e' | ⟨i, e', hi⟩
          · exact .inl (vlt.out j (e'.symm.trans e))
          · rw [e'] at e
            cases e
            exact .inr hi
        -- what is no part of the stream stays
        have keep3 : ∀ j, wq.heap.size ≤ j → j < w2.heap.size → w3.heap[j]? = w2.heap[j]? := fun j h0 h1 => f3.block j h1 (by omega) (fun e => by have := vlt.out j e; omega)
        have hod3 : Own w3 wq.heap.size (.slice (some ⟨gc, 0, none⟩) (n + 1) cap) (l ++ [77]) := own_keep HOD.out h3 (fun j e => by cases e; exact keep3 _ hgc1 hgc2)
        have hoa3 := own_keep SB2.out.o h3 (fun j e => f3.block j (SB2.out.o.block j e).2 (fun e' => SB2.out.ag (by rw [e, e'])) (SB2.out.av j e))
        have SB3 : Hid (SB w w3 g (cq ++ l) cq v3 _) := ⟨st3, hoa3, b3, SB2.out.ag, fun j e => frm_apart f3 (SB2.out.o.block j e).2 (SB2.out.av j e)⟩
        have KP := Lib.hid (kept2_any D gc n c' cap wq.heap.size w.heap.size l w3 hod3 (RD0.out.later (Nat.le_refl _) b3) (by have := LEN.out; omega))
        have HOD3 := Lib.hid hod3
        have ln77 : Hid ((l ++ [77]).length = n + 1) := by show _ = _; rw [List.length_append, LN.out]; rfl
        have AVL := Lib.hid (fun j e => (SBX.out.o.block j e).2)
        clear st3 f3 b3 keep3 hod3 hoa3
        go_wp2_with fail
        refine KP.out.mono ?_
        rintro e w4 ⟨rfl, rfl⟩
        go_wp2
        go_loopw [43] (fun vi ws => ∃ (j : Nat) (l' : List UInt8), vi = .int .i64 j ∧ j ≤ n ∧ Hid (l'.length = n + 1) ∧ Own ws wq.heap.size (.slice (some ⟨gc, 0, none⟩) (n + 1) cap) l' ∧ w3.grownBy ws (some gc)) (fun vi _ => n - (intOf vi).toNat)
        case atStart => exact ⟨0, l ++ [77], rfl, Nat.zero_le _, ln77.out, HOD3.out, World.grownBy.refl _ _⟩
        case round =>
          rename World => ws
          obtain ⟨j, l', rfl, hj, hl', ho', hgr⟩ := hrel
          by_cases hjn : j < n
          · obtain ⟨cc, hcc⟩ : ∃ cc, cc = l'.getD j 0 := ⟨_, rfl⟩
            have hcj := ho'.cell hl'.out.symm j (by omega)
            have hfj := ho'.unfrozen hl'.out.symm j
            have ec : byteAt l' j = (cc.toNat : Int) := by rw [hcc]; rfl
            rw [ec] at hcj
            have o2 := Lib.hid (ho'.set_ hl'.out.symm j 99 99 rfl)
            have g2 := Lib.hid (only_then hgr (only_set (w := ws) (p := ⟨gc, j, none⟩) (.int .u8 99)) (fun i hi => .inl hi))
            have L9 := Lib.hid (show (l'.set j 99).length = n + 1 by rw [List.length_set]; exact hl'.out)
            clear ho' hgr hl' ec hcc
            go_wp2
            go_roundw
            case rel => exact ⟨j + 1, _, by go_num, by omega, L9, o2.out, g2.out⟩
            case measure => simp [intOf]; omega
          · obtain rfl : j = n := by omega
            have SB4 := Lib.hid (SB3.out.grown hgr (by have := SBX.out.bel.size; omega) (by omega) (fun e => by have := v3lt.out _ e; omega) (fun e => by have := AVL.out _ e; omega))
            clear ho' hgr hl'
            obtain ⟨va2, w6, r6, o6, g6, b6⟩ := append_run SB4.out.o c' (RD0.out.later (Nat.le_refl _) SB4.out.bel) NIL.out (by have := LEN.out; omega) SB4.out.bel.size
            have SB6 := Lib.hid (SB4.out.appended g6 o6 b6)
            obtain ⟨A6, c6, e6, hrd6, hc6, hz6⟩ := own_slice o6
            obtain ⟨nx, hnx⟩ : ∃ nx, nx = cq ++ l := ⟨_, rfl⟩
            have hlx : nx.length ≤ 1048576 ∧ nx.length ≤ total S (k + 1) := by rw [hnx, List.length_append, LN.out]; exact LEN.out
            rw [← hnx] at e6 hrd6 hc6 SB6
            subst e6
            have R6 := Lib.hid r6
            obtain ⟨N6, hN6⟩ : ∃ N6, N6 = nx.length := ⟨_, rfl⟩
            obtain ⟨V6, hV6⟩ : ∃ V6, V6 = digW nx := ⟨_, rfl⟩
            have hlen6 : N6 ≤ 1048576 := by omega
            have SL := Lib.hid (slen_stm w.heap.size g nx v3 w6 SB6.out.s)
            have SS := Lib.hid (ssum_stm w.heap.size g nx v3 w6 SB6.out.s (by omega) (HK.out.keptB SB6.out.bel hk0) (HS.out.keptB SB6.out.bel hs0))
            have hRD6 := Lib.hid hrd6
            rw [← hN6] at R6 SL hrd6 hc6
            rw [← hV6] at SS
            have RS := Lib.hid (fun W (hB : Below w6.heap.size w6 W) => rsum_any A6 N6 c6 w6.heap.size nx W (hrd6.later (Nat.le_refl _) hB) hB.size hz6 (by omega))
            rw [show mdOver (mdPad nx) ((mdPad nx).length / 64) = V6 from hV6.symm] at RS
            have EQ := fun W => eq16_same V6 W
            have LX : Hid (nx.length ≤ total S (k + 1)) := hlx.2
            have HN6 := Lib.hid hN6
            clear r6 o6 g6 b6 hrd6 hnx hlx hN6 hV6
            go_wp2_with (at_builtin; refine wpList_app rfl (.tmp 50) (.tmp 51) rfl _ _ rfl rfl _ _ R6.out ?_)
            refine SL.out.mono ?_
            rintro e w7 ⟨rfl, rfl⟩
            go_wp2_with fail
            refine SS.out.mono ?_
            rintro e w8 ⟨rfl, b8⟩
            have RS8 := Lib.hid (RS.out w8 b8)
            have B8 := Lib.hid b8
            clear b8
            go_wp2_with fail
            refine RS8.out.mono ?_
            rintro e w9 ⟨rfl, b9⟩
            have SB9 := Lib.hid ((SB6.out.later B8.out).later b9)
            clear b9
            go_wp2
            go_roundw
            case rel => exact ⟨k + 1, nx, v3, by go_num, by omega, by omega, by rw [HN6.out]; exact SB9.out, LX.out⟩
            case measure => simp [intOf]; omega)
    · obtain ⟨A6, c6, e6, hrd6, hc6, hz6⟩ := own_slice hsb.o
      subst e6
      have hle := total_mono S k m hkm
      have hTm := HT.out
      have SBE := Lib.hid hsb
      have hsz := hsb.bel.size
      obtain ⟨N6, hN6⟩ : ∃ N6, N6 = cur.length := ⟨_, rfl⟩
      have hlen6 : N6 ≤ 1048576 := by omega
      have QA := Lib.hid (rblocks_sl A6 cur.length c6 wr.heap.size cur wr hrd6 (Nat.le_refl _) hc6 hz6 (by omega))
      have RSA := Lib.hid (fun W (hB : Below wr.heap.size wr W) => rsum_any A6 cur.length c6 wr.heap.size cur W (hrd6.later (Nat.le_refl _) hB) hB.size hz6 (by omega))
      have SSA := Lib.hid (fun W (hB : Below wr.heap.size wr W) => ssum_stm w.heap.size g cur v W ((SBE.out.later hB).s) (by omega) (HK.out.keptB (SBE.out.later hB).bel hk0) (HS.out.keptB (SBE.out.later hB).bel hs0))
      have PBA := Lib.hid (fun (j : Nat) (h1 : 1 ≤ j) (h2 : j ≤ 140737488355000) W (hB : Below wr.heap.size wr W) => blocks_stm w.heap.size g j cur v W ((SBE.out.later hB).s) h1 h2 (by omega))
      obtain ⟨V6, hV6⟩ : ∃ V6, V6 = digW cur := ⟨_, rfl⟩
      have EQ := fun W => eq16_same V6 W
      rw [← hV6] at SSA
      rw [show mdOver (mdPad cur) ((mdPad cur).length / 64) = V6 from hV6.symm] at RSA
      rw [← hN6] at QA RSA
      rw [← hN6]
      have WL : Hid ((wordsAll cur).length ≤ N6) := by show _ ≤ _; rw [wordsAll_length]; omega
      have HREST := Lib.hid hlt
      clear hrd6 hc6 hz6 hle hTm hV6 hN6 hcl hlt
      by_cases hkm2 : k < m
      case' pos =>
        obtain ⟨b, o, rfl, hb, hrow⟩ := HR.out (by omega)
        obtain ⟨D, n, c', hcell0, _⟩ := hrow k hkm2
        have hcell : wr.cell? ⟨b, o + k, none⟩ = some (.slice D n c') := (hsb.bel.cell (p := ⟨b, o + k, none⟩) hb).trans hcell0
        have hk1 : (k : Int) < (m : Int) := by omega
        have hk2 : 100 ≤ (k : Int) := by have := HREST.out; omega
        have hk0' : (0 : Int) ≤ (k : Int) := by omega
        clear hrow hcell0 hsb
        go_wp2_with fail
        clear hcell hk1 hk2 hk0'
      case' neg =>
        clear hsb
        have hk1 : ¬ ((k : Int) < (m : Int)) := by omega
        go_wp2_with fail
        clear hk1
      all_goals (
        refine QA.out.mono ?_
        rintro e w2 ⟨P2, n2, c2, rfl, ho2, hn2, hnc2, b2⟩
        have D2 := Lib.hid b2
        have E2 := Lib.hid (Below.refl w2.heap.size w2)
        have RD2 := Lib.hid ho2.rd
        have hn2b : n2 ≤ 1048576 := by have := WL.out; omega
        have PA := Lib.hid (PBA.out (n2 + 5) (by omega) (by omega) w2 b2)
        rw [show (wordsAll cur).take (n2 + 5) = wordsAll cur from List.take_of_length_le (by omega)] at PA
        have HN2 := Lib.hid hn2
        clear b2 ho2 hn2
        go_wp2_with fail
        refine PA.out.mono ?_
        rintro e w3 ⟨P1, n1, c1, rfl, ho3, hn3, b3⟩
        have D3 := Lib.hid (D2.out.trans (b3.mono D2.out.size))
        have E3 := Lib.hid b3
        obtain rfl : n1 = n2 := hn3.trans HN2.out.symm
        have AA := Lib.hid (alike_yes P1 P2 n1 c1 c2 (wordsAll cur) w3 ho3.rd (RD2.out.later b3) (by omega))
        clear b3 ho3 hn3
        go_wp2_with fail
        refine AA.out.mono ?_
        rintro e w4 ⟨rfl, qq, hw4⟩
        have b4 : Below w3.heap.size w3 w4 := by rw [hw4]; exact below_drewN (Below.refl _ _) qq
        clear hw4
        have D4 := Lib.hid (D3.out.trans (b4.mono D3.out.size))
        have E4 := Lib.hid (E3.out.trans (b4.mono E3.out.size))
        have SS4 := Lib.hid (SSA.out w4 D4.out)
        clear b4
        go_wp2_with fail
        refine SS4.out.mono ?_
        rintro e w5 ⟨rfl, b5⟩
        have D5 := Lib.hid (D4.out.trans (b5.mono D4.out.size))
        have E5 := Lib.hid (E4.out.trans (b5.mono E4.out.size))
        have RS5 := Lib.hid (RSA.out w5 D5.out)
        clear b5
        go_wp2_with fail
        refine RS5.out.mono ?_
        rintro e w6 ⟨rfl, b6⟩
        have D6 := Lib.hid (D5.out.trans (b6.mono D5.out.size))
        have E6 := Lib.hid (E5.out.trans (b6.mono E5.out.size))
        clear b6
        have RD6 : Hid (RdD w6 P2 n1 (wordsAll cur)) := RD2.out.later E6.out
        have AW : Hid (∀ W, Below w6.heap.size w6 W → Calls Tryd.prog 16 #[] W fun e w' => e = .returned (.bool true) ∧ Below w.heap.size w w') := by
          show ∀ W, _ → Calls _ _ _ W _
          intro W hB
          have h1 := SBE.out.bel.trans ((D6.out.trans (hB.mono D6.out.size)).mono hsz)
          refine (awake_yes W (HK.out.keptB h1 hk0) (HS.out.keptB h1 hs0)).mono ?_
          rintro e w' ⟨rfl, hb'⟩
          exact ⟨rfl, h1.trans (hb'.mono h1.size)⟩
        have BD : Hid (Below w6.heap.size w6 w6.drew) := below_drewN (Below.refl _ _) 1
        by_cases h1n : 1 < n1
        · have hd1 : decide (1 < (n1 : Int)) = true := by simp; omega
          have hi1 : (1 : Int) < (n1 : Int) := by omega
          obtain ⟨gw, hgw, _, _⟩ := RD6.out.2 (by omega)
          subst hgw
          have hc2 : 1 ≤ c2 := by omega
          have hc2i : (1 : Int) ≤ (c2 : Int) := by omega
          have BK : Hid (∀ W, Below w6.heap.size w6 W → Calls Tryd.prog 15 #[.pointer (some ⟨g, 0, none⟩), .int .i64 1] W fun e w' => ∃ A c, e = .returned (.slice A 1 c) ∧ RdD w' A 1 ((wordsAll cur).take 1) ∧ Below W.heap.size W w') := by
            show ∀ W, _ → Calls _ _ _ W _
            intro W hB
            refine (PBA.out 1 (by omega) (by omega) W (D6.out.trans (hB.mono D6.out.size))).mono ?_
            rintro e w' ⟨A', n', c', rfl, ho', hn', hb'⟩
            obtain rfl : n' = 1 := by rw [hn', List.length_take, ← HN2.out]; omega
            exact ⟨A', c', rfl, ho'.rd, hb'⟩
          go_wp2_with fail
          go_region_with (first
            | (go_at_call 15; refine (BK.out _ ?_).mono ?_; exact BD.out; rintro e w7 ⟨A7, c7, rfl, hrd7, hb7⟩; have D7 := Lib.hid (BD.out.trans hb7); have AK := Lib.hid (alike_yes A7 (some ⟨gw, 0, none⟩) 1 c7 c2 _ w7 hrd7 ((RD6.out.take 1 (by omega)).later D7.out) (by omega)); clear hrd7 hb7)
            | (go_at_call 14; refine AK.out.mono ?_; rintro e w8 ⟨rfl, q8, hw8⟩; have D8 : Hid (Below w6.heap.size w6 w8) := D7.out.trans (by rw [hw8]; exact below_drewN ((Below.refl _ _).mono D7.out.size) q8); clear hw8))
          all_goals (
            go_wp2_with fail
            refine (AW.out _ D8.out).mono ?_
            rintro e w9 ⟨rfl, b9⟩
            have B9 := Lib.hid b9
            clear b9
            go_wp2
            go_ret
            exact ⟨rfl, B9.out⟩)
        · have hd1 : decide (1 < (n1 : Int)) = false := by simp; omega
          go_wp2_with fail
          go_quiet (fail)
          go_wp2_with fail
          refine (AW.out _ ?_).mono ?_
          · exact below_drewN (Below.refl _ _) _
          rintro e w7 ⟨rfl, b7⟩
          have B7 := Lib.hid b7
          clear b7
          go_wp2
          go_ret
          exact ⟨rfl, B7.out⟩)
end Go.Proofs.YtnlhjlmjbmaipaaDoor
