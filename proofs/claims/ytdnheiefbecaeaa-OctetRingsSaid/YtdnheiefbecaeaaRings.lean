/-
  tetherlaw01.OctetRings is true: whatever is written into a ring and read out of it.
-/
import Derived.Test.YtdnheiefbecaeaaRingsAt
import Derived.Test.YtdnheiefbecaeaaKnown
import Derived.Test.YtdnheiefbecaeaaOps
import Derived.Test.YtdnheiefbecaeaaLent
import Derived.LoopTactic
import Derived.Deep.RegionHeld3
namespace Go.Proofs.Ytdnheiefbecaeaa
open Go.RowKit
set_option maxRecDepth 100000
set_option maxHeartbeats 4000000
set_option linter.unusedSimpArgs false
set_option linter.unusedVariables false

def nowhere : Nat → Prop := fun _ => False
theorem same_own2 (v u : Value) (b1 b2 : Nat) (l : List UInt8) (w : World) (h1 : Own w b1 v l) (h2 : Own w b2 u l) (hl : l.length ≤ 65536) :
    Calls Try.prog 12 #[v, u] w fun e w' => e = .returned (.bool true) ∧ ∃ k, w' = w.drewN k := by
  have form : ∀ {b : Nat} {v : Value}, Own w b v l → ∃ A c, v = .slice A l.length c ∧ Rd w w.heap.size A l.length l := by
    intro b v h
    rcases h.form with ⟨rfl, rfl⟩ | ⟨g, cap, rfl, _, _, hc⟩
    · exact ⟨none, 0, rfl, Rd.nil⟩
    · have h2 := h.rd rfl l.length (Nat.le_refl _)
      rw [List.take_of_length_le (Nat.le_refl _)] at h2
      exact ⟨some ⟨g, 0, none⟩, cap, rfl, h2⟩
  obtain ⟨A, c, rfl, r1⟩ := form h1
  obtain ⟨E, d, rfl, r2⟩ := form h2
  exact same_yes A E l.length c d l w w.heap.size r1 r2 (by unfold maxLen; omega)

theorem rings_walk (D : Option Addr) (m d room : Nat) (K N : Nat → Int) (S : Nat → List UInt8) (w : World) (h1 : 1 ≤ room) (h2 : room ≤ 65536) (hops : OpsAt w D m K N S) (hm : m ≤ 140737488351232) :
    Calls Try.prog 3 #[.int .i64 (room : Int), .slice D m d] w fun e w' => e = .returned (.bool true) ∧ Below w.heap.size w w' := by
  have NR := Lib.hid (newring_yes room w h1 h2)
  have HO := Lib.hid hops
  have i1 : (1 : Int) ≤ (room : Int) := by omega
  have i2 : (room : Int) ≤ 65536 := by omega
  clear hops
  go_enter Try.func3, Try.ntmps3
  go_wp2_with fail
  refine (NR.out).mono ?_
  rintro e w1 ⟨g, c, rfl, hg, hc, ⟨cs, hR⟩, hB⟩
  have hgl := hR.ring.lt
  have hcl := hR.cells.lt
  have SP : Spots w g c w1.heap.size room := ⟨hg, hc, hB.size, by omega, by omega, h2⟩
  have hblk := blk_new w1 29 [.int .i64 (room : Int), .slice none 0 0]
  have T0 : Two w (w1.alloc (.cells #[.int .i64 (room : Int), .slice none 0 0] 29)) g c w1.heap.size room nowhere [] [] := by
    refine ⟨⟨0, 0, cs, hR.kept (only_alloc (World.grownBy.refl w1 none) _) (by simp) (by simp), rfl⟩, ⟨w1.heap.size, ⟨⟨none, 0, hblk, ⟨rfl, fun h => absurd h (Nat.lt_irrefl 0)⟩, fun _ => rfl, Nat.le_refl _, by omega⟩, by simp, h2⟩, by omega, by omega, by simp, fun h => h⟩, hB.alloc hB.size _⟩
  obtain ⟨gs, hgs⟩ : ∃ gs, gs = w1.heap.size := ⟨_, rfl⟩
  rw [← hgs] at SP T0
  have TT := Lib.hid T0
  have SPP := Lib.hid SP
  clear T0 SP hblk hR hB NR hgl hcl hg hc
  go_wp2
  rw [← hgs]
  clear hgs
  go_loopw [7] (fun i wr => ∃ (k : Nat) (q : List UInt8), i = .int .i64 k ∧ k ≤ m ∧ Two w wr g c gs room nowhere q q) (fun i _ => m - (intOf i).toNat)
  case atStart => exact ⟨0, [], rfl, Nat.zero_le _, TT.out⟩
  case round =>
    rename_i wr
    obtain ⟨k, q, rfl, hk, hT⟩ := hrel
    have TW := Lib.hid hT
    clear hT
    by_cases hkm : k < m
    · obtain ⟨b, off, rfl, hb, hrow⟩ := HO.out (by omega)
      obtain ⟨ck0, cn0, hN1, hN2, E, n, cap, cs0, hrd0, hnc, hcap, hnil⟩ := hrow k hkm
      have hB := TW.out.below
      have k0 : wr.cell? ⟨b, off + k * 3, none⟩ = some (.int .i64 (K k)) := (hB.cell (p := ⟨b, off + k * 3, none⟩) hb).trans ck0
      have k1 : wr.cell? ⟨b, off + k * 3 + 1, none⟩ = some (.int .i64 (N k)) := (hB.cell (p := ⟨b, off + k * 3 + 1, none⟩) hb).trans cn0
      have k2 : wr.cell? ⟨b, off + k * 3 + 2, none⟩ = some (.slice E n cap) := (hB.cell (p := ⟨b, off + k * 3 + 2, none⟩) hb).trans cs0
      have RD := Lib.hid hrd0
      have NIL := Lib.hid hnil
      clear hrow ck0 cn0 cs0 hrd0 hnil hB
      obtain ⟨x, hx⟩ : ∃ x, x = N k := ⟨_, rfl⟩
      obtain ⟨kd, hkd⟩ : ∃ kd, kd = K k := ⟨_, rfl⟩
      rw [← hx] at k1 hN1 hN2
      rw [← hkd] at k0
      clear hx hkd
      generalize S k = l at *
      have hlen := RD.out.1
      have LN := Lib.hid hlen
      clear hlen
      have hqr := TW.out.ring.len
      have SZ := Lib.hid TW.out.below.size
      have GL := Lib.hid TW.out.ring.lt
      have SL := Lib.hid TW.out.ref.lt
      by_cases e0 : kd = 0
      · subst e0
        obtain ⟨j, hj⟩ : ∃ j, (j = n ∧ n ≤ room - q.length) ∨ (j = room - q.length ∧ room - q.length < n) := by
          by_cases h : n ≤ room - q.length
          · exact ⟨n, .inl ⟨rfl, h⟩⟩
          · exact ⟨room - q.length, .inr ⟨rfl, by omega⟩⟩
        have B0 : Below wr.heap.size wr (wr.alloc (.cells #[.int .i64 0, .int .i64 x, .slice E n cap] 31)) := (Below.refl _ _).alloc (Nat.le_refl _) _
        have hop : (wr.alloc (.cells #[.int .i64 0, .int .i64 x, .slice E n cap] 31)).cell? ⟨wr.heap.size, 2, none⟩ = some (.slice E n cap) := (blk_new wr 31 [.int .i64 0, .int .i64 x, .slice E n cap]).cell 2
        have LT := Lib.hid (lent_any E n cap l (wr.alloc (.cells #[.int .i64 0, .int .i64 x, .slice E n cap] 31)) ((RD.out.below (TW.out.below.trans (B0.mono SZ.out))).wide (by have := SZ.out; simp; omega)) NIL.out (by omega))
        have BB0 := Lib.hid B0
        have HOP := Lib.hid hop
        clear B0 hop
        go_wp2_with fail
        refine (LT.out).mono ?_
        rintro e w5 ⟨gd, capd, rfl, ho5, hB5⟩
        have hgd := ho5.block gd rfl
        have hsz0 : (wr.alloc (.cells #[.int .i64 0, .int .i64 x, .slice E n cap] 31)).heap.size = wr.heap.size + 1 := by simp
        rw [hsz0] at hgd
        have FX : Fix w g c gs room gd wr.heap.size E n cap l := by
          have g1 := GL.out
          have g2 := SL.out
          have g3 := SZ.out
          exact ⟨SPP.out, by omega, by omega, by omega, by omega, by omega, by omega, by omega, by omega, RD.out, LN.out, hnc, hcap, NIL.out⟩
        have FF := Lib.hid FX
        have A5 : At0 w w5 g c gs room gd capd wr.heap.size (wr.heap.size + 1) E n cap l q q := by
          refine ⟨((TW.out.fresh (av' := fun j => j = gd) (fun j hj => .inl (by have : j = gd := hj; omega))).on BB0.out).on hB5, ?_, ?_⟩
          · rw [← hsz0]
            exact ho5
          · exact (hB5.cell (p := ⟨wr.heap.size, 2, none⟩) (by rw [hsz0]; simp)).trans HOP.out
        have A5d := A5.drew 1
        have op5 : w5.cell? ⟨wr.heap.size, 2, none⟩ = some (.slice E n cap) := A5.op
        have K1 := Lib.hid (fun W (hA : At0 w W g c gs room gd capd wr.heap.size (wr.heap.size + 1) E n cap l q q) => at0_write FF.out hA j hj)
        have K2 := Lib.hid (fun W q1 (hA : At0 w W g c gs room gd capd wr.heap.size (wr.heap.size + 1) E n cap l q1 q) => at0_refwrite FF.out hA j hj)
        have K3 := Lib.hid (fun W q1 q2 (hA : At0 w W g c gs room gd capd wr.heap.size (wr.heap.size + 1) E n cap l q1 q2) => at0_kept FF.out hA)
        have K4 := Lib.hid (fun W q1 q2 (hA : At0 w W g c gs room gd capd wr.heap.size (wr.heap.size + 1) E n cap l q1 q2) (hz : wr.heap.size + 1 ≤ W.heap.size) => at0_spoil FF.out hA hz)
        have Q5 := Lib.hid A5d
        have hjj : ((j : Int) != (j : Int)) = false := by simp
        clear LT hgd ho5 hB5 hsz0 FX A5 A5d hj
        go_wp2
        go_region_held3 (fun W => W.cell? ⟨wr.heap.size, 2, none⟩ = some (.slice E n cap)) (first | exact op5 | exact At0.op (by assumption)) (first
          | (go_at_call 7; refine (K1.out _ Q5.out).mono ?_; rintro e W1 ⟨rfl, hA1⟩)
          | (go_at_call 8; refine (K2.out _ _ (by assumption)).mono ?_; rintro e W2 ⟨rfl, hA2⟩)
          | (go_at_call 9; refine (K3.out _ _ _ (by assumption)).mono ?_; rintro e W3 ⟨rfl, hA3⟩))
        have HA := Lib.hid hA3
        have hz3 := World.block_lt_of_cell? _ _ hA3.op
        have SP4 := Lib.hid (K4.out _ _ _ hA3 hz3)
        clear hA1 hA2 hA3 hz3 K1 K2 K3 K4 Q5 op5
        go_wp2_with fail
        refine (SP4.out).mono ?_
        rintro e W4 ⟨rfl, hT4⟩
        have T4 := Lib.hid hT4
        clear hT4 SP4 HA

        have TZ := T4
        obtain ⟨DZ, dz, hz⟩ := two_cell TZ.out
        have hqz := TZ.out.ring.len
        generalize hQ : q ++ l.take j = qz at *
        clear hQ
        have hsum : IntKind.i64.wrap ((qz.length : Int) + ((room - qz.length : Nat) : Int)) = (room : Int) := by rw [IntKind.wrap_i64]; omega
        have hs1 : ((qz.length : Int) != (qz.length : Int)) = false := by simp
        have hs2 : ((room : Int) != (room : Int)) = false := by simp
        go_wp2
        go_quiet (first
          | (go_at_call 17; exact two_len_q TZ.out _)
          | (go_at_call 18; exact two_room_q TZ.out _))
        go_wp2
        go_roundw
        case rel => exact ⟨k + 1, qz, by go_num, by omega, TZ.out.drewN _⟩
        case measure => simp [intOf]; omega
      · by_cases e1 : kd = 1
        · subst e1
          clear e0
          have B0 : Below wr.heap.size wr (wr.alloc (.cells #[.int .i64 1, .int .i64 x, .slice E n cap] 31)) := (Below.refl _ _).alloc (Nat.le_refl _) _
          have hop : (wr.alloc (.cells #[.int .i64 1, .int .i64 x, .slice E n cap] 31)).cell? ⟨wr.heap.size, 1, none⟩ = some (.int .i64 x) := (blk_new wr 31 [.int .i64 1, .int .i64 x, .slice E n cap]).cell 1
          have T0 := Lib.hid ((TW.out.fresh (av' := fun j => wr.heap.size ≤ j) (fun j hj => .inl hj)).on B0)
          have HOP := Lib.hid hop
          have S0 : Hid ((wr.alloc (.cells #[.int .i64 1, .int .i64 x, .slice E n cap] 31)).heap.size = wr.heap.size + 1) := by show _ = _; simp
          obtain ⟨W0, hW0⟩ : ∃ W0, W0 = wr.alloc (.cells #[.int .i64 1, .int .i64 x, .slice E n cap] 31) := ⟨_, rfl⟩
          rw [← hW0] at T0 HOP S0
          have HW0 := Lib.hid hW0
          clear B0 hop hW0
          have hre : reach q.length x ≤ q.length := by unfold reach; omega
          have HR := Lib.hid hre
          clear hre
          have RD1 := Lib.hid (two_read SPP.out T0.out x)
          generalize hr : reach q.length x = r at *
          go_wp2_with fail
          rw [← HW0.out]
          refine (RD1.out).mono ?_
          rintro e w5 ⟨v, rfl, ho, hT5, hG5⟩
          have hop5 := cell_kept HOP.out hG5 (by have := GL.out; simp; omega)
          have T5 := Lib.hid hT5
          have OV := Lib.hid ho
          have RP := Lib.hid (two_refpeek hT5 x)
          rw [hr] at RP
          have GS5 := Lib.hid hG5.size
          clear ho hT5 hG5 RD1
          go_wp2_with fail
          refine (RP.out).mono ?_
          rintro e w6 ⟨u, rfl, hu, hT6, hB6⟩
          have hop6 := cell_kept hop5 (only_of_below hB6 none) (by simp)
          have OV6 := Lib.hid (OV.out.later hB6)
          have SM := Lib.hid (same_own2 v u _ _ _ w6 OV6.out hu (by rw [List.length_take]; omega))
          have DR := Lib.hid (fun p => two_refdrop SPP.out (hT6.drewN p) x)
          rw [hr] at DR
          have GS6 := Lib.hid (Nat.le_trans GS5.out hB6.size)
          clear hu hT6 hB6 RP OV
          go_wp2_with fail
          refine (SM.out).mono ?_
          rintro e w7 ⟨rfl, p, rfl⟩
          go_wp2_with fail
          refine (DR.out p).mono ?_
          rintro e w8 ⟨rfl, hT8, hG8⟩
          have hov := (OV6.out.drewN p).grown hG8 (by
            rcases hv : v.ownBlock with _ | j
            · exact .inl rfl
            · refine .inr ?_
              intro e
              injection e with e
              have h1 := (OV6.out.block j hv).1
              have h2 := S0.out
              have h3 := SL.out
              omega)
          have hbz : ∀ j, v.ownBlock = some j → wr.heap.size + 1 ≤ j := fun j hj => by
            have h1 := (OV6.out.block j hj).1
            rw [S0.out] at h1
            exact h1
          have T8 := Lib.hid hT8
          have SPO := Lib.hid (spoil_own v _ _ w8 hov (by have h1 := GS6.out; have h2 : w6.heap.size ≤ w8.heap.size := hG8.size; omega) (by rw [List.length_take]; omega))
          have BZ := Lib.hid hbz
          clear hov hbz hT8 hG8 DR SM OV6
          go_wp2_with fail
          refine (SPO.out).mono ?_
          rintro e w9 ⟨rfl, hG9⟩
          have T9 := Lib.hid ((T8.out.kept hG9 (fun j hj => by
            have h1 := BZ.out j hj
            have h2 := GL.out
            have h3 := SL.out
            have h4 := SZ.out
            exact .inl ⟨show wr.heap.size ≤ j by omega, by omega, by omega, by omega, by omega⟩)).fresh (av' := nowhere) (fun j hj => hj.elim))
          clear hG9 SPO T8 hop5 hop6

          have TZ := T9
          obtain ⟨DZ, dz, hz⟩ := two_cell TZ.out
          have hqz := TZ.out.ring.len
          generalize hQ : q.drop r = qz at *
          clear hQ
          have hsum : IntKind.i64.wrap ((qz.length : Int) + ((room - qz.length : Nat) : Int)) = (room : Int) := by rw [IntKind.wrap_i64]; omega
          have hs1 : ((qz.length : Int) != (qz.length : Int)) = false := by simp
          have hs2 : ((room : Int) != (room : Int)) = false := by simp
          go_wp2
          go_quiet (first
            | (go_at_call 17; exact two_len_q TZ.out _)
            | (go_at_call 18; exact two_room_q TZ.out _))
          go_wp2
          go_roundw
          case rel => exact ⟨k + 1, qz, by go_num, by omega, TZ.out.drewN _⟩
          case measure => simp [intOf]; omega
        · by_cases e2 : kd = 2
          · subst e2
            clear e0 e1
            have B0 : Below wr.heap.size wr (wr.alloc (.cells #[.int .i64 2, .int .i64 x, .slice E n cap] 31)) := (Below.refl _ _).alloc (Nat.le_refl _) _
            have hop : (wr.alloc (.cells #[.int .i64 2, .int .i64 x, .slice E n cap] 31)).cell? ⟨wr.heap.size, 1, none⟩ = some (.int .i64 x) := (blk_new wr 31 [.int .i64 2, .int .i64 x, .slice E n cap]).cell 1
            have T0 := Lib.hid ((TW.out.fresh (av' := fun j => wr.heap.size ≤ j) (fun j hj => .inl hj)).on B0)
            have HOP := Lib.hid hop
            have S0 : Hid ((wr.alloc (.cells #[.int .i64 2, .int .i64 x, .slice E n cap] 31)).heap.size = wr.heap.size + 1) := by show _ = _; simp
            obtain ⟨W0, hW0⟩ : ∃ W0, W0 = wr.alloc (.cells #[.int .i64 2, .int .i64 x, .slice E n cap] 31) := ⟨_, rfl⟩
            rw [← hW0] at T0 HOP S0
            have HW0 := Lib.hid hW0
            clear B0 hop hW0
            have hre : reach q.length x ≤ q.length := by unfold reach; omega
            have HR := Lib.hid hre
            clear hre
            have RD1 := Lib.hid (two_peek T0.out x)
            generalize hr : reach q.length x = r at *
            go_wp2_with fail
            rw [← HW0.out]
            refine (RD1.out).mono ?_
            rintro e w5 ⟨v, rfl, ho, hT5, hB5⟩
            have hop5 := cell_kept HOP.out (only_of_below hB5 none) (by simp)
            have OV := Lib.hid ho
            have RP := Lib.hid (two_refpeek hT5 x)
            rw [hr] at RP
            have GS5 := Lib.hid hB5.size
            clear ho hT5 hB5 RD1
            go_wp2_with fail
            refine (RP.out).mono ?_
            rintro e w6 ⟨u, rfl, hu, hT6, hB6⟩
            have OV6 := Lib.hid (OV.out.later hB6)
            have SM := Lib.hid (same_own2 v u _ _ _ w6 OV6.out hu (by rw [List.length_take]; omega))
            have T6 := Lib.hid hT6
            have GS6 := Lib.hid (Nat.le_trans GS5.out hB6.size)
            clear hu hT6 hB6 RP OV
            go_wp2_with fail
            refine (SM.out).mono ?_
            rintro e w7 ⟨rfl, p, rfl⟩
            have SPO := Lib.hid (spoil_own v _ _ (w6.drewN p) (OV6.out.drewN p) GS6.out (by rw [List.length_take]; omega))
            have hbz : ∀ j, v.ownBlock = some j → wr.heap.size + 1 ≤ j := fun j hj => by
              have h1 := (OV6.out.block j hj).1
              rw [S0.out] at h1
              exact h1
            have BZ := Lib.hid hbz
            clear hbz SM
            go_wp2_with fail
            refine (SPO.out).mono ?_
            rintro e w9 ⟨rfl, hG9⟩
            have T9 := Lib.hid (((T6.out.drewN p).kept hG9 (fun j hj => by
              have h1 := BZ.out j hj
              have h2 := GL.out
              have h3 := SL.out
              have h4 := SZ.out
              exact .inl ⟨show wr.heap.size ≤ j by omega, by omega, by omega, by omega, by omega⟩)).fresh (av' := nowhere) (fun j hj => hj.elim))
            clear hG9 SPO T6 hop5

            have TZ := T9
            obtain ⟨DZ, dz, hz⟩ := two_cell TZ.out
            have hqz := TZ.out.ring.len
            generalize hQ : q = qz at *
            clear hQ
            have hsum : IntKind.i64.wrap ((qz.length : Int) + ((room - qz.length : Nat) : Int)) = (room : Int) := by rw [IntKind.wrap_i64]; omega
            have hs1 : ((qz.length : Int) != (qz.length : Int)) = false := by simp
            have hs2 : ((room : Int) != (room : Int)) = false := by simp
            go_wp2
            go_quiet (first
              | (go_at_call 17; exact two_len_q TZ.out _)
              | (go_at_call 18; exact two_room_q TZ.out _))
            go_wp2
            go_roundw
            case rel => exact ⟨k + 1, qz, by go_num, by omega, TZ.out.drewN _⟩
            case measure => simp [intOf]; omega
          · have z0 : (kd == 0) = false := by simpa using e0
            have z1 : (kd == 1) = false := by simpa using e1
            have z2 : (kd == 2) = false := by simpa using e2
            clear e0 e1 e2
            have B0 : Below wr.heap.size wr (wr.alloc (.cells #[.int .i64 kd, .int .i64 x, .slice E n cap] 31)) := (Below.refl _ _).alloc (Nat.le_refl _) _
            have hop : (wr.alloc (.cells #[.int .i64 kd, .int .i64 x, .slice E n cap] 31)).cell? ⟨wr.heap.size, 1, none⟩ = some (.int .i64 x) := (blk_new wr 31 [.int .i64 kd, .int .i64 x, .slice E n cap]).cell 1
            have T0 := Lib.hid ((TW.out.fresh (av' := fun j => wr.heap.size ≤ j) (fun j hj => .inl hj)).on B0)
            have HOP := Lib.hid hop
            have S0 : Hid ((wr.alloc (.cells #[.int .i64 kd, .int .i64 x, .slice E n cap] 31)).heap.size = wr.heap.size + 1) := by show _ = _; simp
            obtain ⟨W0, hW0⟩ : ∃ W0, W0 = wr.alloc (.cells #[.int .i64 kd, .int .i64 x, .slice E n cap] 31) := ⟨_, rfl⟩
            rw [← hW0] at T0 HOP S0
            have HW0 := Lib.hid hW0
            clear B0 hop hW0
            have hre : reach q.length x ≤ q.length := by unfold reach; omega
            have HR := Lib.hid hre
            clear hre
            have D1 := Lib.hid (two_drop SPP.out (T0.out.drewN 1) x)
            have D2 := Lib.hid (fun W q1 (hA : Two w W g c gs room (fun j => wr.heap.size ≤ j) q1 q) => two_refdrop SPP.out hA x)
            have op5 := HOP.out
            rw [HW0.out] at D1 op5
            generalize hr : reach q.length x = r at *
            have hjj : ((r : Int) != (r : Int)) = false := by simp
            have hgo : wr.heap.size ≠ g := by have := GL.out; omega
            have hgs' : wr.heap.size ≠ gs := by have := SL.out; omega
            have HGO := Lib.hid hgo
            have HGS2 := Lib.hid hgs'
            clear hgo hgs' hr
            go_wp2
            go_region_held3 (fun W => W.cell? ⟨wr.heap.size, 1, none⟩ = some (.int .i64 x)) (first | exact op5 | exact cell_kept (by assumption) (by assumption) (by simpa using HGO.out) | exact cell_kept (by assumption) (by assumption) (by simpa using HGS2.out)) (first
              | (go_at_call 16; refine (D1.out).mono ?_; rintro e W1 ⟨rfl, hA1, hG1⟩)
              | (go_at_call 14; refine (D2.out _ _ (by assumption)).mono ?_; rintro e W2 ⟨rfl, hA2, hG2⟩))
            have T9 := Lib.hid (hA2.fresh (av' := nowhere) (fun j hj => hj.elim))
            clear hA1 hA2 hG1 hG2 D1 D2

            have TZ := T9
            obtain ⟨DZ, dz, hz⟩ := two_cell TZ.out
            have hqz := TZ.out.ring.len
            generalize hQ : q.drop r = qz at *
            clear hQ
            have hsum : IntKind.i64.wrap ((qz.length : Int) + ((room - qz.length : Nat) : Int)) = (room : Int) := by rw [IntKind.wrap_i64]; omega
            have hs1 : ((qz.length : Int) != (qz.length : Int)) = false := by simp
            have hs2 : ((room : Int) != (room : Int)) = false := by simp
            go_wp2
            go_quiet (first
              | (go_at_call 17; exact two_len_q TZ.out _)
              | (go_at_call 18; exact two_room_q TZ.out _))
            go_wp2
            go_roundw
            case rel => exact ⟨k + 1, qz, by go_num, by omega, TZ.out.drewN _⟩
            case measure => simp [intOf]; omega
    · have KN := Lib.hid (known_yes wr)
      go_wp2_with fail
      refine (KN.out).mono ?_
      rintro e w2 ⟨rfl, hB2⟩
      have B2 := Lib.hid hB2
      clear hB2 KN
      go_wp2
      go_ret
      exact ⟨rfl, TW.out.below.trans (B2.out.mono TW.out.below.size)⟩
theorem rings_none (D : Option Addr) (m d : Nat) (room : Int) (w : World) (h : room < 1 ∨ 65536 < room) :
    Calls Try.prog 3 #[.int .i64 room, .slice D m d] w fun e w' => e = .returned (.bool true) ∧ Below w.heap.size w w' := by
  have NR := Lib.hid (newring_no room w h)
  have KN := Lib.hid (known_yes w)
  rcases h with h | h
  · go_enter Try.func3, Try.ntmps3
    go_wp2_with fail
    refine (NR.out).mono ?_
    rintro e w1 ⟨rfl, rfl⟩
    go_wp2_with fail
    refine (KN.out).mono ?_
    rintro e w2 ⟨rfl, hB2⟩
    have B2 := Lib.hid hB2
    clear hB2 KN
    go_wp2
    go_ret
    exact ⟨rfl, B2.out⟩
  · have h1 : ¬ room < 1 := by omega
    go_enter Try.func3, Try.ntmps3
    go_wp2_with fail
    refine (NR.out).mono ?_
    rintro e w1 ⟨rfl, rfl⟩
    go_wp2_with fail
    refine (KN.out).mono ?_
    rintro e w2 ⟨rfl, hB2⟩
    have B2 := Lib.hid hB2
    clear hB2 KN
    go_wp2
    go_ret
    exact ⟨rfl, B2.out⟩
theorem octetrings_walk (D : Option Addr) (m d : Nat) (room : Int) (K N : Nat → Int) (S : Nat → List UInt8) (w : World) (hops : OpsAt w D m K N S) (hm : m ≤ 140737488351232) :
    Calls Try.prog 3 #[.int .i64 room, .slice D m d] w fun e w' => e = .returned (.bool true) ∧ Below w.heap.size w w' := by
  by_cases h : room < 1 ∨ 65536 < room
  · exact rings_none D m d room w h
  · obtain ⟨r, rfl⟩ : ∃ r : Nat, room = (r : Int) := ⟨room.toNat, by omega⟩
    exact rings_walk D m d r K N S w (by omega) (by omega) hops hm
end Go.Proofs.Ytdnheiefbecaeaa
