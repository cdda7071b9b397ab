/-
  tetherlaw02.FcsChecks is true for what is of small bulk, and writes nothing that was there.
-/
import Derived.Test.YtdnheiefbecaeaaDoorRowsAt
import Derived.Test.YtdnheiefbecaeaaDoorCheck2
import Derived.Test.YtdnheiefbecaeaaDoorLent2
import Derived.Test.YtdnheiefbecaeaaDoorRefGood
import Derived.Test.YtdnheiefbecaeaaDoorAwake
namespace Go.Proofs.YtdnheiefbecaeaaDoor
open Go.RowKit
set_option maxRecDepth 100000
set_option maxHeartbeats 2000000
set_option linter.unusedSimpArgs false
set_option linter.unusedVariables false

theorem own_form_rd_c {w : World} {base : Nat} {v : Value} {l : List UInt8} (h : Own w base v l) :
    ∃ A c, v = .slice A l.length c ∧ Rd w w.heap.size A l.length l ∧ (A = none → c = 0) := by
  rcases h.form with ⟨rfl, rfl⟩ | ⟨g, cap, rfl, _, _, hc⟩
  · exact ⟨none, 0, rfl, Rd.nil, fun _ => rfl⟩
  · have h2 := h.rd rfl l.length (Nat.le_refl _)
    rw [List.take_of_length_le (Nat.le_refl _)] at h2
    exact ⟨some ⟨g, 0, none⟩, cap, rfl, h2, fun e => by cases e⟩
/-- what the register of a check is behind bytes -/
def Reg16 (l : List UInt8) (r : Int) : Prop := 0 ≤ r ∧ r ≤ 4294967295 ∧ r % 65536 = ((crc P16 65535 l : Nat) : Int) ∧ (r = ((crc P16 65535 l : Nat) : Int) ∨ l = [])
def Reg32 (l : List UInt8) (r : Int) : Prop := r = ((crc P32 4294967295 l : Nat) : Int)
theorem Reg16.start : Reg16 [] 4294967295 := ⟨by omega, by omega, rfl, .inr rfl⟩
theorem Reg32.start : Reg32 [] 4294967295 := rfl
theorem Reg16.next (l m : List UInt8) : Reg16 (l ++ m) ((crc P16 (crc P16 65535 l) m : Nat) : Int) := by
  have h := crc16_lt (l ++ m) 65535 (by omega)
  rw [crc_append] at h
  refine ⟨by omega, by omega, ?_, .inl ?_⟩
  · rw [crc_append]
    omega
  · rw [crc_append]
theorem Reg32.next (l m : List UInt8) : Reg32 (l ++ m) ((crc P32 (crc P32 4294967295 l) m : Nat) : Int) := by
  show _ = _
  rw [crc_append]
theorem chk_add16 (g : Nat) (r : Int) (A : Option Addr) (k c B : Nat) (all l : List UInt8) (w : World) (h : Chk w g 16 r (all.length : Nat)) (hg : Reg16 all r) (hr : Rd w B A k l) (hc : k ≤ c) (hk : all.length + k ≤ 1048576) (hT : Tab16 w) :
    Calls Tryd.prog 22 #[.pointer (some ⟨g, 0, none⟩), .slice A k c] w fun e w' => e = .returned (.int .i64 0) ∧ (∃ r', Chk w' g 16 r' ((all ++ l).length : Nat) ∧ Reg16 (all ++ l) r') ∧ w.grownBy w' (some g) := by
  refine (add16_any g r _ (crc P16 65535 all) A k c B l w h hg.1 hg.2.1 hg.2.2.1 (by omega) (by omega) hr hc (by omega) hT).mono ?_
  rintro e w' ⟨rfl, hC, hG⟩
  refine ⟨rfl, ⟨_, ?_, Reg16.next all l⟩, hG⟩
  rw [List.length_append, hr.1, Int.natCast_add]
  exact hC
theorem chk_add32 (g : Nat) (r : Int) (A : Option Addr) (k c B : Nat) (all l : List UInt8) (w : World) (h : Chk w g 32 r (all.length : Nat)) (hg : Reg32 all r) (hr : Rd w B A k l) (hc : k ≤ c) (hk : all.length + k ≤ 1048576) (hT : Tab32 w) :
    Calls Tryd.prog 22 #[.pointer (some ⟨g, 0, none⟩), .slice A k c] w fun e w' => e = .returned (.int .i64 0) ∧ (∃ r', Chk w' g 32 r' ((all ++ l).length : Nat) ∧ Reg32 (all ++ l) r') ∧ w.grownBy w' (some g) := by
  refine (add32_any g r _ (crc P32 4294967295 all) A k c B l w h hg (crc32_lt _ _ (by omega)) (by omega) (by omega) hr hc (by omega) hT).mono ?_
  rintro e w' ⟨rfl, hC, hG⟩
  refine ⟨rfl, ⟨_, ?_, Reg32.next all l⟩, hG⟩
  rw [List.length_append, hr.1, Int.natCast_add]
  exact hC
theorem chk_sum16 (g : Nat) (r : Int) (m : Int) (l : List UInt8) (w : World) (h : Chk w g 16 r m) (hg : Reg16 l r) :
    Calls Tryd.prog 27 #[.pointer (some ⟨g, 0, none⟩)] w fun e w' => e = .returned (.int .u32 ((sum16 l : Nat) : Int)) ∧ w = w' :=
  csum16_any g r m (crc P16 65535 l) w h hg.1 hg.2.1 hg.2.2.1
theorem chk_sum32 (g : Nat) (r : Int) (m : Int) (l : List UInt8) (w : World) (h : Chk w g 32 r m) (hg : Reg32 l r) :
    Calls Tryd.prog 27 #[.pointer (some ⟨g, 0, none⟩)] w fun e w' => e = .returned (.int .u32 ((sum32 l : Nat) : Int)) ∧ w = w' :=
  csum32_any g r m (crc P32 4294967295 l) w h hg (crc32_lt _ _ (by omega))
theorem chk_good16 (g : Nat) (r : Int) (l : List UInt8) (w : World) (h : Chk w g 16 r (l.length : Nat)) (hg : Reg16 l r) :
    Calls Tryd.prog 28 #[.pointer (some ⟨g, 0, none⟩)] w fun e w' => e = .returned (.bool (fine16 l)) ∧ w = w' := by
  refine cgood16_any g r _ _ w h ?_
  unfold fine16
  rw [decide_eq_decide]
  rcases hg.2.2.2 with e | e
  · rw [e]
    omega
  · subst e
    simp
theorem chk_good32 (g : Nat) (r : Int) (l : List UInt8) (w : World) (h : Chk w g 32 r (l.length : Nat)) (hg : Reg32 l r) :
    Calls Tryd.prog 28 #[.pointer (some ⟨g, 0, none⟩)] w fun e w' => e = .returned (.bool (fine32 l)) ∧ w = w' := by
  refine cgood32_any g r _ _ w h ?_
  unfold fine32
  rw [decide_eq_decide, hg]
  omega
theorem u16_u32 (l : List UInt8) : ((sum16 l : Nat) : Int) % 4294967296 = ((sum16 l : Nat) : Int) := by
  have := sum16_lt l
  omega

theorem fcschecks16 (A : Option Addr) (m c : Nat) (S : Nat → List UInt8) (w : World) (hr : RowsAt w A m S) (hc : m ≤ c) (h16 : Tab16 w) (h32 : Tab32 w) :
    Calls Tryd.prog 4 #[.slice A m c, .bool false] w fun e w' => e = .returned (.bool true) ∧ Below w.heap.size w w' := by
  have NW := Lib.hid (new_yes 16 w (by omega))
  have HR := Lib.hid hr.2.2
  have hm := hr.1
  have HT := Lib.hid hr.2.1
  have T16 := Lib.hid h16
  have T32 := Lib.hid h32
  have AW : Hid (∀ W, Below w.heap.size w W → Calls Tryd.prog 32 #[] W fun e w' => e = .returned (.bool true) ∧ Below W.heap.size W w') := by
    show ∀ W, _ → Calls _ _ _ W _
    intro W hB
    exact awake_yes W (h16.kept hB) (h32.kept hB)
  clear hr h16 h32
  go_enter Tryd.func4, Tryd.ntmps4
  go_wp2_with fail
  refine (NW.out).mono ?_
  rintro e w0 ⟨rfl, hC0, hB0⟩
  have C0 := Lib.hid hC0
  have B0 := Lib.hid hB0
  obtain ⟨g, hg⟩ : ∃ g, g = w.heap.size := ⟨_, rfl⟩
  have hgG := Lib.hid hg
  rw [← hg] at C0
  simp only [← hg]
  clear hC0 hB0 NW hg
  go_wp2
  go_loopw [7, 19] (fun v i wr => ∃ (k : Nat) (reg : Int), i = .int .i64 k ∧ k ≤ m ∧ Own wr w.heap.size v (upTo S k) ∧ Hid (v.ownBlock ≠ some g) ∧ Chk wr g 16 reg ((upTo S k).length : Nat) ∧ Reg16 (upTo S k) reg ∧ Below w.heap.size w wr) (fun _ i _ => m - (intOf i).toNat)
  case atStart => exact ⟨0, 4294967295, rfl, Nat.zero_le _, Own.nil _ _, (by show _ ≠ _; simp [Value.ownBlock]), C0.out, Reg16.start, B0.out⟩
  case round =>
    rename_i wr
    obtain ⟨k, reg, rfl, hk, ho, V, hC, hG, hB⟩ := hrel
    by_cases hkm : k < m
    · obtain ⟨b, o, rfl, hb, hrow⟩ := HR.out (by omega)
      obtain ⟨D, n, c', hcell0, hrd0, hnc, hc', hnil⟩ := hrow k hkm
      have hcell : wr.cell? ⟨b, o + k, none⟩ = some (.slice D n c') := (hB.cell (p := ⟨b, o + k, none⟩) hb).trans hcell0
      obtain ⟨l, hl⟩ : ∃ l, l = S k := ⟨_, rfl⟩
      rw [← hl] at hrd0
      have hln := hrd0.1
      have e1 : total S (k + 1) = total S k + (S k).length := rfl
      have e2 := total_mono S (k + 1) m (by omega)
      have e3 := HT.out
      rw [← hl, hln] at e1
      obtain ⟨all, hall⟩ : ∃ all, all = upTo S k := ⟨_, rfl⟩
      have hnext : upTo S (k + 1) = all ++ l := by rw [hall, hl]; rfl
      have hlen : all.length = total S k := by rw [hall, upTo_length]
      rw [← hall] at ho hC hG
      have NX := Lib.hid hnext
      have LN := Lib.hid hln
      have TN : Hid (all.length + n ≤ 1048576) := by show _ ≤ _; omega
      have RD0 := Lib.hid hrd0
      have OO := Lib.hid ho
      have C0' := Lib.hid hC
      have G0 := Lib.hid hG
      have BB := Lib.hid hB
      have LT := Lib.hid (lent2_any D n c' wr.heap.size l wr ((hrd0.below hB).wide hB.size) hnil (by omega))
      have NIL := Lib.hid hnil
      clear hrow hcell0 hrd0 hl hln ho hC hB hG e1 e2 e3 hall hnext hlen hnil
      go_wp2_with fail
      refine (LT.out).mono ?_
      rintro e w1 ⟨gd, cap, rfl, hcap, hoD, hB1⟩
      have hgd := (hoD.block gd rfl)
      have hgw := Blk.lt C0'.out
      have NE : Hid (gd ≠ g) := by show _ ≠ _; omega
      have GL := Lib.hid hgd
      have CAP : Hid (n ≤ cap) := by show _ ≤ _; omega
      have OD := Lib.hid hoD
      have C1 := Lib.hid (C0'.out.on hB1)
      have B1 := Lib.hid (BB.out.trans (hB1.mono BB.out.size))
      have O1 := Lib.hid (OO.out.later hB1)
      have hrd1 := hoD.rd (by simp [LN.out]) n (by omega)
      rw [List.take_append_of_le_length (by rw [LN.out]; exact Nat.le_refl _), List.take_of_length_le (by rw [LN.out]; exact Nat.le_refl _)] at hrd1
      have AD := Lib.hid (chk_add16 g reg (some ⟨gd, 0, none⟩) n cap _ all l w1 C1.out G0.out hrd1 CAP.out TN.out (T16.out.kept B1.out))
      have OB := Lib.hid (fun j hj => (OO.out.block j hj).2)
      clear hoD hB1 hrd1 hgd hgw hcap LT OO C0' G0
      go_wp2_with fail
      refine (AD.out).mono ?_
      rintro e w2 ⟨rfl, ⟨reg2, hC2, hR2⟩, hG2⟩
      have C2 := Lib.hid hC2
      have R2 := Lib.hid hR2
      have OD2 := Lib.hid (OD.out.grown hG2 (.inr (by simpa [Value.ownBlock] using NE.out)))
      have O2 := Lib.hid (O1.out.grown hG2 (.inr V.out))
      have B2 := Lib.hid (B1.out.grown hG2 B1.out.size (by intro j hj; injection hj with hj; have := hgG.out; omega))
      have KP := Lib.hid (kept2_any D gd n c' cap wr.heap.size w.heap.size l w2 OD2.out (RD0.out.below B2.out) (by have := TN.out; omega))
      clear hC2 hR2 hG2 AD OD O1 C1 B1
      go_wp2_with fail
      refine (KP.out).mono ?_
      rintro e w2' ⟨rfl, rfl⟩
      have SP := Lib.hid (spoil2_row gd n (n + 1) cap wr.heap.size (l ++ [77]) w2 (by simp [LN.out]) OD2.out (by omega) (by have := TN.out; omega))
      clear KP
      go_wp2_with fail
      refine (SP.out).mono ?_
      rintro e w3 ⟨rfl, hG3⟩
      have hne : some g ≠ some gd := fun e => NE.out (Option.some.inj e).symm
      have C3 := Lib.hid (C2.out.kept hG3 hne)
      have O3 := Lib.hid (O2.out.grown hG3 (.inr (by intro e; have h1 := OB.out _ e; have h2 := GL.out.1; omega)))
      have B3 := Lib.hid (B2.out.grown hG3 B2.out.size (by intro j hj; injection hj with hj; have h1 := GL.out.1; have h2 := BB.out.size; omega))
      obtain ⟨v', w4, r4, o4, g4, b4⟩ := append_run O3.out c' ((RD0.out.below B3.out).wide B3.out.size) NIL.out (by have := TN.out; omega) B3.out.size
      have C4 := Lib.hid (C3.out.kept g4 (fun e => V.out e.symm))
      have B4 := Lib.hid (B3.out.grown g4 B3.out.size (fun j hj => (O3.out.block j hj).1))
      have V4 : Hid (v'.ownBlock ≠ some g) := by
        show _ ≠ _
        have h1 := Blk.lt C3.out
        rcases b4 with e | e
        · rw [e]
          exact V.out
        · rw [e]
          intro e2
          injection e2 with e2
          omega
      have O4 := Lib.hid o4
      obtain ⟨E, ce, rfl, hE, _⟩ := own_form_rd_c o4
      have RR4 := Lib.hid r4
      obtain ⟨nx, hnx⟩ : ∃ nx, nx = all ++ l := ⟨_, rfl⟩
      have hlx : nx.length ≤ 1048576 := by rw [hnx, List.length_append, LN.out]; exact TN.out
      rw [← hnx] at O4 hE RR4 R2 C4 NX V4
      have Q16 := Lib.hid (refsum16_any E _ ce _ _ w4 hE (by unfold maxLen; omega))
      have Q32 := Lib.hid (refsum32_any E _ ce _ _ w4 hE (by unfold maxLen; omega))
      have QG := Lib.hid (refgood16_any E _ ce _ _ w4 hE (by unfold maxLen; omega))
      have SC := Lib.hid (chk_sum16 g reg2 _ _ w4 C4.out R2.out)
      have GC := Lib.hid (chk_good16 g reg2 _ w4 C4.out R2.out)
      have LC := Lib.hid (len_any g _ _ _ w4 C4.out)
      have X1 := u16_u32 nx
      generalize ((sum16 nx : Nat) : Int) = y16 at *
      generalize ((sum32 nx : Nat) : Int) = y32 at *
      generalize fine16 nx = fb at *
      have hNX := NX
      clear r4 o4 g4 b4 hE hG3 SP C3 O3 B3 C2 O2 B2 OD2 hnx hne
      have e16 : (y16 != y16) = false := by simp
      have e32 : (y32 != y32) = false := by simp
      have efb : (fb != fb) = false := by simp
      have eln : (((nx.length : Nat) : Int) != ((nx.length : Nat) : Int)) = false := by simp
      go_wp2_with (at_builtin; refine wpList_app rfl (.tmp 37) (.tmp 38) rfl _ _ rfl rfl _ _ RR4.out ?_)
      go_wp2_with fail
      refine (Q16.out).mono ?_
      rintro e w5 ⟨rfl, rfl⟩
      go_wp2_with fail
      refine (SC.out).mono ?_
      rintro e w5 ⟨rfl, rfl⟩
      go_wp2_with fail
      refine (GC.out).mono ?_
      rintro e w5 ⟨rfl, rfl⟩
      go_wp2_with fail
      refine (QG.out).mono ?_
      rintro e w5 ⟨rfl, rfl⟩
      go_wp2_with fail
      refine (LC.out).mono ?_
      rintro e w5 ⟨rfl, rfl⟩
      go_wp2
      go_roundw
      case rel => exact ⟨k + 1, reg2, by go_num, by omega, by rw [NX.out]; exact O4.out, V4, by rw [NX.out]; exact C4.out, by rw [NX.out]; exact R2.out, B4.out⟩
      case measure => simp [intOf]; omega
    · have RS := Lib.hid (reset_any g 16 reg _ wr hC)
      have BB := Lib.hid hB
      have e0 : ((0 : Int) == 0) = true := rfl
      clear hC hB ho hG
      go_wp2_with fail
      refine (RS.out).mono ?_
      rintro e w1 ⟨rfl, hC1, hG1⟩
      have LC := Lib.hid (len_any g _ _ _ w1 hC1)
      have GC := Lib.hid (chk_good16 g 4294967295 [] w1 hC1 Reg16.start)
      have SC := Lib.hid (chk_sum16 g 4294967295 _ [] w1 hC1 Reg16.start)
      have hB1 := BB.out.grown hG1 BB.out.size (by intro j hj; injection hj with hj; have := hgG.out; omega)
      have AW2 := Lib.hid (AW.out _ hB1)
      have B1 := Lib.hid hB1
      clear hC1 hG1 hB1
      go_wp2_with fail
      refine (LC.out).mono ?_
      rintro e w5 ⟨rfl, rfl⟩
      go_wp2_with fail
      refine (GC.out).mono ?_
      rintro e w5 ⟨rfl, rfl⟩
      have ef : fine16 [] = false := by decide
      go_wp2_with fail
      refine (SC.out).mono ?_
      rintro e w5 ⟨rfl, rfl⟩
      have es : ((sum16 [] : Nat) : Int) = 0 := by decide
      go_wp2_with fail
      refine (AW2.out).mono ?_
      rintro e w6 ⟨rfl, hB6⟩
      have B6 := Lib.hid hB6
      clear hB6
      go_wp2
      go_ret
      exact ⟨rfl, B1.out.trans (B6.out.mono B1.out.size)⟩

theorem fcschecks32 (A : Option Addr) (m c : Nat) (S : Nat → List UInt8) (w : World) (hr : RowsAt w A m S) (hc : m ≤ c) (h16 : Tab16 w) (h32 : Tab32 w) :
    Calls Tryd.prog 4 #[.slice A m c, .bool true] w fun e w' => e = .returned (.bool true) ∧ Below w.heap.size w w' := by
  have NW := Lib.hid (new_yes 32 w (by omega))
  have HR := Lib.hid hr.2.2
  have hm := hr.1
  have HT := Lib.hid hr.2.1
  have T16 := Lib.hid h16
  have T32 := Lib.hid h32
  have AW : Hid (∀ W, Below w.heap.size w W → Calls Tryd.prog 32 #[] W fun e w' => e = .returned (.bool true) ∧ Below W.heap.size W w') := by
    show ∀ W, _ → Calls _ _ _ W _
    intro W hB
    exact awake_yes W (h16.kept hB) (h32.kept hB)
  clear hr h16 h32
  go_enter Tryd.func4, Tryd.ntmps4
  go_wp2_with fail
  refine (NW.out).mono ?_
  rintro e w0 ⟨rfl, hC0, hB0⟩
  have C0 := Lib.hid hC0
  have B0 := Lib.hid hB0
  obtain ⟨g, hg⟩ : ∃ g, g = w.heap.size := ⟨_, rfl⟩
  have hgG := Lib.hid hg
  rw [← hg] at C0
  simp only [← hg]
  clear hC0 hB0 NW hg
  go_wp2
  go_loopw [7, 19] (fun v i wr => ∃ (k : Nat) (reg : Int), i = .int .i64 k ∧ k ≤ m ∧ Own wr w.heap.size v (upTo S k) ∧ Hid (v.ownBlock ≠ some g) ∧ Chk wr g 32 reg ((upTo S k).length : Nat) ∧ Reg32 (upTo S k) reg ∧ Below w.heap.size w wr) (fun _ i _ => m - (intOf i).toNat)
  case atStart => exact ⟨0, 4294967295, rfl, Nat.zero_le _, Own.nil _ _, (by show _ ≠ _; simp [Value.ownBlock]), C0.out, Reg32.start, B0.out⟩
  case round =>
    rename_i wr
    obtain ⟨k, reg, rfl, hk, ho, V, hC, hG, hB⟩ := hrel
    by_cases hkm : k < m
    · obtain ⟨b, o, rfl, hb, hrow⟩ := HR.out (by omega)
      obtain ⟨D, n, c', hcell0, hrd0, hnc, hc', hnil⟩ := hrow k hkm
      have hcell : wr.cell? ⟨b, o + k, none⟩ = some (.slice D n c') := (hB.cell (p := ⟨b, o + k, none⟩) hb).trans hcell0
      obtain ⟨l, hl⟩ : ∃ l, l = S k := ⟨_, rfl⟩
      rw [← hl] at hrd0
      have hln := hrd0.1
      have e1 : total S (k + 1) = total S k + (S k).length := rfl
      have e2 := total_mono S (k + 1) m (by omega)
      have e3 := HT.out
      rw [← hl, hln] at e1
      obtain ⟨all, hall⟩ : ∃ all, all = upTo S k := ⟨_, rfl⟩
      have hnext : upTo S (k + 1) = all ++ l := by rw [hall, hl]; rfl
      have hlen : all.length = total S k := by rw [hall, upTo_length]
      rw [← hall] at ho hC hG
      have NX := Lib.hid hnext
      have LN := Lib.hid hln
      have TN : Hid (all.length + n ≤ 1048576) := by show _ ≤ _; omega
      have RD0 := Lib.hid hrd0
      have OO := Lib.hid ho
      have C0' := Lib.hid hC
      have G0 := Lib.hid hG
      have BB := Lib.hid hB
      have LT := Lib.hid (lent2_any D n c' wr.heap.size l wr ((hrd0.below hB).wide hB.size) hnil (by omega))
      have NIL := Lib.hid hnil
      clear hrow hcell0 hrd0 hl hln ho hC hB hG e1 e2 e3 hall hnext hlen hnil
      go_wp2_with fail
      refine (LT.out).mono ?_
      rintro e w1 ⟨gd, cap, rfl, hcap, hoD, hB1⟩
      have hgd := (hoD.block gd rfl)
      have hgw := Blk.lt C0'.out
      have NE : Hid (gd ≠ g) := by show _ ≠ _; omega
      have GL := Lib.hid hgd
      have CAP : Hid (n ≤ cap) := by show _ ≤ _; omega
      have OD := Lib.hid hoD
      have C1 := Lib.hid (C0'.out.on hB1)
      have B1 := Lib.hid (BB.out.trans (hB1.mono BB.out.size))
      have O1 := Lib.hid (OO.out.later hB1)
      have hrd1 := hoD.rd (by simp [LN.out]) n (by omega)
      rw [List.take_append_of_le_length (by rw [LN.out]; exact Nat.le_refl _), List.take_of_length_le (by rw [LN.out]; exact Nat.le_refl _)] at hrd1
      have AD := Lib.hid (chk_add32 g reg (some ⟨gd, 0, none⟩) n cap _ all l w1 C1.out G0.out hrd1 CAP.out TN.out (T32.out.kept B1.out))
      have OB := Lib.hid (fun j hj => (OO.out.block j hj).2)
      clear hoD hB1 hrd1 hgd hgw hcap LT OO C0' G0
      go_wp2_with fail
      refine (AD.out).mono ?_
      rintro e w2 ⟨rfl, ⟨reg2, hC2, hR2⟩, hG2⟩
      have C2 := Lib.hid hC2
      have R2 := Lib.hid hR2
      have OD2 := Lib.hid (OD.out.grown hG2 (.inr (by simpa [Value.ownBlock] using NE.out)))
      have O2 := Lib.hid (O1.out.grown hG2 (.inr V.out))
      have B2 := Lib.hid (B1.out.grown hG2 B1.out.size (by intro j hj; injection hj with hj; have := hgG.out; omega))
      have KP := Lib.hid (kept2_any D gd n c' cap wr.heap.size w.heap.size l w2 OD2.out (RD0.out.below B2.out) (by have := TN.out; omega))
      clear hC2 hR2 hG2 AD OD O1 C1 B1
      go_wp2_with fail
      refine (KP.out).mono ?_
      rintro e w2' ⟨rfl, rfl⟩
      have SP := Lib.hid (spoil2_row gd n (n + 1) cap wr.heap.size (l ++ [77]) w2 (by simp [LN.out]) OD2.out (by omega) (by have := TN.out; omega))
      clear KP
      go_wp2_with fail
      refine (SP.out).mono ?_
      rintro e w3 ⟨rfl, hG3⟩
      have hne : some g ≠ some gd := fun e => NE.out (Option.some.inj e).symm
      have C3 := Lib.hid (C2.out.kept hG3 hne)
      have O3 := Lib.hid (O2.out.grown hG3 (.inr (by intro e; have h1 := OB.out _ e; have h2 := GL.out.1; omega)))
      have B3 := Lib.hid (B2.out.grown hG3 B2.out.size (by intro j hj; injection hj with hj; have h1 := GL.out.1; have h2 := BB.out.size; omega))
      obtain ⟨v', w4, r4, o4, g4, b4⟩ := append_run O3.out c' ((RD0.out.below B3.out).wide B3.out.size) NIL.out (by have := TN.out; omega) B3.out.size
      have C4 := Lib.hid (C3.out.kept g4 (fun e => V.out e.symm))
      have B4 := Lib.hid (B3.out.grown g4 B3.out.size (fun j hj => (O3.out.block j hj).1))
      have V4 : Hid (v'.ownBlock ≠ some g) := by
        show _ ≠ _
        have h1 := Blk.lt C3.out
        rcases b4 with e | e
        · rw [e]
          exact V.out
        · rw [e]
          intro e2
          injection e2 with e2
          omega
      have O4 := Lib.hid o4
      obtain ⟨E, ce, rfl, hE, _⟩ := own_form_rd_c o4
      have RR4 := Lib.hid r4
      obtain ⟨nx, hnx⟩ : ∃ nx, nx = all ++ l := ⟨_, rfl⟩
      have hlx : nx.length ≤ 1048576 := by rw [hnx, List.length_append, LN.out]; exact TN.out
      rw [← hnx] at O4 hE RR4 R2 C4 NX V4
      have Q16 := Lib.hid (refsum16_any E _ ce _ _ w4 hE (by unfold maxLen; omega))
      have Q32 := Lib.hid (refsum32_any E _ ce _ _ w4 hE (by unfold maxLen; omega))
      have QG := Lib.hid (refgood32_any E _ ce _ _ w4 hE (by unfold maxLen; omega))
      have SC := Lib.hid (chk_sum32 g reg2 _ _ w4 C4.out R2.out)
      have GC := Lib.hid (chk_good32 g reg2 _ w4 C4.out R2.out)
      have LC := Lib.hid (len_any g _ _ _ w4 C4.out)
      have X1 := u16_u32 nx
      generalize ((sum16 nx : Nat) : Int) = y16 at *
      generalize ((sum32 nx : Nat) : Int) = y32 at *
      generalize fine32 nx = fb at *
      have hNX := NX
      clear r4 o4 g4 b4 hE hG3 SP C3 O3 B3 C2 O2 B2 OD2 hnx hne
      have e16 : (y16 != y16) = false := by simp
      have e32 : (y32 != y32) = false := by simp
      have efb : (fb != fb) = false := by simp
      have eln : (((nx.length : Nat) : Int) != ((nx.length : Nat) : Int)) = false := by simp
      go_wp2_with (at_builtin; refine wpList_app rfl (.tmp 37) (.tmp 38) rfl _ _ rfl rfl _ _ RR4.out ?_)
      go_wp2_with fail
      refine (Q16.out).mono ?_
      rintro e w5 ⟨rfl, rfl⟩
      go_wp2_with fail
      refine (Q32.out).mono ?_
      rintro e w5 ⟨rfl, rfl⟩
      go_wp2_with fail
      refine (SC.out).mono ?_
      rintro e w5 ⟨rfl, rfl⟩
      go_wp2_with fail
      refine (GC.out).mono ?_
      rintro e w5 ⟨rfl, rfl⟩
      go_wp2_with fail
      refine (QG.out).mono ?_
      rintro e w5 ⟨rfl, rfl⟩
      go_wp2_with fail
      refine (LC.out).mono ?_
      rintro e w5 ⟨rfl, rfl⟩
      go_wp2
      go_roundw
      case rel => exact ⟨k + 1, reg2, by go_num, by omega, by rw [NX.out]; exact O4.out, V4, by rw [NX.out]; exact C4.out, by rw [NX.out]; exact R2.out, B4.out⟩
      case measure => simp [intOf]; omega
    · have RS := Lib.hid (reset_any g 32 reg _ wr hC)
      have BB := Lib.hid hB
      have e0 : ((0 : Int) == 0) = true := rfl
      clear hC hB ho hG
      go_wp2_with fail
      refine (RS.out).mono ?_
      rintro e w1 ⟨rfl, hC1, hG1⟩
      have LC := Lib.hid (len_any g _ _ _ w1 hC1)
      have GC := Lib.hid (chk_good32 g 4294967295 [] w1 hC1 Reg32.start)
      have SC := Lib.hid (chk_sum32 g 4294967295 _ [] w1 hC1 Reg32.start)
      have hB1 := BB.out.grown hG1 BB.out.size (by intro j hj; injection hj with hj; have := hgG.out; omega)
      have AW2 := Lib.hid (AW.out _ hB1)
      have B1 := Lib.hid hB1
      clear hC1 hG1 hB1
      go_wp2_with fail
      refine (LC.out).mono ?_
      rintro e w5 ⟨rfl, rfl⟩
      go_wp2_with fail
      refine (GC.out).mono ?_
      rintro e w5 ⟨rfl, rfl⟩
      have ef : fine32 [] = false := by decide
      go_wp2_with fail
      refine (SC.out).mono ?_
      rintro e w5 ⟨rfl, rfl⟩
      have es : ((sum32 [] : Nat) : Int) = 0 := by decide
      go_wp2_with fail
      refine (AW2.out).mono ?_
      rintro e w6 ⟨rfl, hB6⟩
      have B6 := Lib.hid hB6
      clear hB6
      go_wp2
      go_ret
      exact ⟨rfl, B1.out.trans (B6.out.mono B1.out.size)⟩

theorem fcschecks_walk (A : Option Addr) (m c : Nat) (x : Bool) (S : Nat → List UInt8) (w : World) (hr : RowsAt w A m S) (hc : m ≤ c) (h16 : Tab16 w) (h32 : Tab32 w) :
    Calls Tryd.prog 4 #[.slice A m c, .bool x] w fun e w' => e = .returned (.bool true) ∧ Below w.heap.size w w' := by
  cases x
  · exact fcschecks16 A m c S w hr hc h16 h32
  · exact fcschecks32 A m c S w hr hc h16 h32
end Go.Proofs.YtdnheiefbecaeaaDoor
