/-
  PapServes: the law's walk (written by gen_paserv.py).
-/
import Derived.Test.YtglboagjmbjehaaPaServM
namespace Go.Proofs.Ytglboagjmbjehaa
open Go.RowKit Go.Shelf
set_option maxRecDepth 100000
set_option maxHeartbeats 4000000
set_option linter.unusedSimpArgs false
set_option linter.unusedVariables false

/-- both are there, ahead of what is written over -/
structure Ready (w W : World) (lo g tb h : Nat) (name : ByteArray) (A : Option Addr) (n c : Nat) (ss : List Sec) : Prop where
  bel : Below w.heap.size w W
  blk : Blk W g 70 [.string name, .pointer (some ⟨tb, 0, none⟩), .int .i64 0, .string ⟨#[]⟩, .nilFunc]
  tab : TabL W lo g tb ss
  rv : RSv W h name A n c none
  lo1 : w.heap.size ≤ lo
  lo2 : lo ≤ g
  lo3 : tb < g
  lo4 : g < h
  sec : SecRd w w.heap.size A n ss
  nm : name.size ≤ maxLen
theorem Ready.serv {w W W' : World} {lo g tb h : Nat} {name : ByteArray} {A : Option Addr} {n c : Nat} {ss : List Sec} {v : Value} (r : Ready w W lo g tb h name A n c ss) (k : W.grownBy W' v.ownBlock) (hq : ∀ q, v.ownBlock = some q → w.heap.size ≤ q ∧ q < lo) : ServJ w W' g tb h name A n c ss none := by
  obtain ⟨h1, h2, h3, h4, h5, h6, h7, h8, h9, h10⟩ := r
  have keep : ∀ i, lo ≤ i → i < W.heap.size → W'.heap[i]? = W.heap[i]? := fun i hi hl => k.block i hl (fun e => by have := hq i e.symm; omega)
  refine ⟨h1.grown k h1.size (fun q e => (hq q e).1), ⟨by omega, h7, h8⟩, ⟨(keep g h6 (Blk.lt h2)).trans h2, ?_⟩, (keep h (by omega) (Blk.lt h4)).trans h4, h9, h10⟩
  obtain ⟨A', n', c', mb, q1, q2, q3, q4, q5, q6, q7⟩ := h3.same (W' := W') (fun i hi hl => keep i hi (by have := Blk.lt h2; omega))
  exact ⟨A', n', c', mb, q2, q3, q4.rd, q6, q7⟩
theorem below_ownB {w W W' : World} {v : Value} (h : Below w.heap.size w W) (k : W.grownBy W' v.ownBlock) (hq : ∀ q, v.ownBlock = some q → w.heap.size ≤ q) : Below w.heap.size w W' := h.grown k h.size hq
def YesC (w W : World) (v : Value) (A' : Option Addr) (c' : Nat) (name : ByteArray) (A : Option Addr) (n c : Nat) (ss : List Sec) : Prop :=
  Calls Try.prog 6 #[.string name, .slice A' n c'] W fun e W1 => ∃ g, e = .returned (.tuple #[.pointer (some ⟨g, 0, none⟩), .int .i64 0, .int .i64 0]) ∧
    Calls Try.prog 7 #[.string name, .slice A n c] W1 fun e W2 => ∃ h, e = .returned (.tuple #[.pointer (some ⟨h, 0, none⟩), .int .i64 0, .int .i64 0]) ∧
      Calls Try.prog 8 #[.slice A' n c', .slice A n c] W2 fun e W3 => e = .returned (.bool true) ∧ OwnS W3 w.heap.size v ss ∧ ∃ tb, Ready w W3 W.heap.size g tb h name A n c ss
def NoC (w W : World) (v : Value) (A' : Option Addr) (c' : Nat) (name : ByteArray) (A : Option Addr) (n c : Nat) (ss : List Sec) : Prop :=
  Calls Try.prog 6 #[.string name, .slice A' n c'] W fun e W1 => ∃ e1 i1 : Int, e = .returned (.tuple #[.pointer none, .int .i64 e1, .int .i64 i1]) ∧
    Calls Try.prog 7 #[.string name, .slice A n c] W1 fun e W2 => e = .returned (.tuple #[.pointer none, .int .i64 e1, .int .i64 i1]) ∧
      Calls Try.prog 8 #[.slice A' n c', .slice A n c] W2 fun e W3 => e = .returned (.bool true) ∧ OwnS W3 w.heap.size v ss ∧ Below w.heap.size w W3
theorem sameS_self (ss : List Sec) : sameS ss ss = true := by unfold sameS; simp
theorem serv_start {w W : World} {A' A : Option Addr} {c' n c : Nat} {name : ByteArray} {ss : List Sec} (j : CpJ w W (.slice A' n c') ss n) (hn : name.size ≤ maxLen) (h : SecRd w w.heap.size A n ss) :
    ((nameB name = true ∧ (chk ss).1 = 0) → YesC w W (.slice A' n c') A' c' name A n c ss) ∧ (¬ (nameB name = true ∧ (chk ss).1 = 0) → NoC w W (.slice A' n c') A' c' name A n c ss) := by
  have hl := h.1
  have hown : OwnS W w.heap.size (.slice A' n c') ss := by
    have := j.own
    rw [List.take_of_length_le (by omega)] at this
    exact this
  obtain ⟨A2, c2, e, hrd⟩ := hown.rd (by have := h.2.1; omega)
  rw [hl] at e hrd
  injection e with e1 e2 e3
  subst e1
  have same : ∀ W2, Below W.heap.size W W2 → Calls Try.prog 8 #[.slice A' n c', .slice A n c] W2 fun e W3 => e = .returned (.bool true) ∧ Below W2.heap.size W2 W3 := fun W2 b2 => by
    refine (rsameS_any A' A n c' n c W.heap.size ss ss W2 (hrd.below b2 (Nat.le_refl _)) ((h.below (j.bel.trans (b2.mono j.bel.size)) (Nat.le_refl _)).wide j.bel.size) b2.size).mono ?_
    rintro e W3 ⟨rfl, b3⟩
    exact ⟨by rw [sameS_self], b3⟩
  have NS := newServer_any name A' n c' W.heap.size ss W hn hrd (Nat.le_refl _)
  have RS := fun W1 (b1 : Below W.heap.size W W1) => rnewServer_any name A n c w.heap.size ss W1 hn (h.below (j.bel.trans (b1.mono j.bel.size)) (Nat.le_refl _)) (by have := j.bel.size; have := b1.size; omega)
  refine ⟨fun hy => ?_, fun hno => ?_⟩
  · refine NS.mono ?_
    rintro e W1 ⟨b1, ⟨h2, -⟩ | ⟨-, h3, -⟩ | ⟨-, -, g, tb, hg, hgt, rfl, hsv, htl⟩⟩
    · rw [hy.1] at h2; cases h2
    · exact absurd hy.2 h3
    refine ⟨g, rfl, (RS W1 b1).mono ?_⟩
    rintro e W2 ⟨b2, ⟨h2, -⟩ | ⟨-, h3, -⟩ | ⟨-, -, q, hq, rfl, hrv⟩⟩
    · rw [hy.1] at h2; cases h2
    · exact absurd hy.2 h3
    refine ⟨q, rfl, (same W2 (step_to b1 b2)).mono ?_⟩
    rintro e W3 ⟨rfl, b3⟩
    have B3 : Below W1.heap.size W1 W3 := b2.trans (b3.mono b2.size)
    have hgl := Blk.lt hsv.blk
    exact ⟨rfl, (hown.later b1).later B3, tb, step_to (step_to (step_to j.bel b1) b2) b3, past_same hsv.blk B3, htl.same (fun i _ hi => B3.block i (by omega)), (b3.block _ (Blk.lt hrv)).trans hrv, j.bel.size, by omega, hgt, by omega, h, hn⟩
  · refine NS.mono ?_
    rintro e W1 ⟨b1, hr1⟩
    have key : ∀ {e1 i1 : Int}, e = .returned (.tuple #[.pointer none, .int .i64 e1, .int .i64 i1]) → (∀ W2 e2, RNsR W1 name A n c ss e2 W2 → e2 = .returned (.tuple #[.pointer none, .int .i64 e1, .int .i64 i1])) → ∃ e1 i1 : Int, e = .returned (.tuple #[.pointer none, .int .i64 e1, .int .i64 i1]) ∧
        Calls Try.prog 7 #[.string name, .slice A n c] W1 fun e W2 => e = .returned (.tuple #[.pointer none, .int .i64 e1, .int .i64 i1]) ∧
          Calls Try.prog 8 #[.slice A' n c', .slice A n c] W2 fun e W3 => e = .returned (.bool true) ∧ OwnS W3 w.heap.size (.slice A' n c') ss ∧ Below w.heap.size w W3 := by
      intro e1 i1 he hal
      refine ⟨e1, i1, he, (RS W1 b1).mono ?_⟩
      rintro e2 W2 h2
      refine ⟨hal W2 e2 h2, (same W2 (step_to b1 h2.1)).mono ?_⟩
      rintro e W3 ⟨rfl, b3⟩
      exact ⟨rfl, ((hown.later b1).later h2.1).later b3, step_to (step_to (step_to j.bel b1) h2.1) b3⟩
    rcases hr1 with ⟨h2, rfl⟩ | ⟨h2, h3, rfl⟩ | ⟨h2, h3, -⟩
    · refine key rfl fun W2 e2 hh => ?_
      rcases hh.2 with ⟨_, h⟩ | ⟨h5, _⟩ | ⟨h5, _⟩
      · exact h
      · rw [h2] at h5; cases h5
      · rw [h2] at h5; cases h5
    · refine key rfl fun W2 e2 hh => ?_
      rcases hh.2 with ⟨h5, _⟩ | ⟨_, _, h⟩ | ⟨_, h5, _⟩
      · rw [h2] at h5; cases h5
      · exact h
      · exact absurd h5 h3
    · exact absurd ⟨h2, h3⟩ hno
theorem papserves_walk (name : ByteArray) (A : Option Addr) (n c : Nat) (ss : List Sec) (A2 : Option Addr) (n2 c2 : Nat) (f : Nat → PaOp) (w : World) (hn : name.size ≤ maxLen) (hs : SecRd w w.heap.size A n ss) (hn1 : n ≤ 1954687338211) (ho : OpsP w w.heap.size A2 n2 f) (hm : n2 ≤ 2932031007744) :
    Calls Try.prog 3 #[.string name, .slice A n c, .slice A2 n2 c2] w fun e w' => e = .returned (.bool true) ∧ Below w.heap.size w w' := by
  have HS := Lib.hid hs
  have HO := Lib.hid ho
  have HN := Lib.hid hn
  clear hs ho hn
  go_enter Try.func3, Try.ntmps3
  go_wp2
  go_loopw [7, 29] (fun o i wr => ∃ (j : Nat) (A' : Option Addr) (c' : Nat), j ≤ n ∧ o = .slice A' j c' ∧ i = .int .i64 j ∧ Hid (CpJ w wr (.slice A' j c') ss j)) (fun _ i _ => n - (intOf i).toNat)
  case atStart => exact ⟨0, none, 0, Nat.zero_le _, rfl, rfl, ⟨by rw [List.take_zero]; exact OwnS.nil _ _, Below.refl _ _⟩⟩
  case round =>
    rename World => wr
    obtain ⟨j, A', c', hj, rfl, rfl, hJ⟩ := hrel
    by_cases hlt : j < n
    · obtain ⟨x, b, off, E, m, k, hx, rfl, hb, hox, ha, c0, c1, c2', c3⟩ := (HS.out.below hJ.out.bel (Nat.le_refl _)).at_ j hlt
      have hbw : b < wr.heap.size := by have := hJ.out.bel.size; omega
      obtain ⟨V1, V2, E', m', k', V3, V4, V5, A4, c4, V6, h1, p0, p1, h2, q0, q1, r1, s1, h4, t1, h5, r2, hN⟩ := cp_step hJ.out hx hox ha hJ.out.bel.size (by omega)
      have H1 := Lib.hid h1
      have H2 := Lib.hid h2
      have R1 := Lib.hid r1
      have H4 := Lib.hid h4
      have H5 := Lib.hid h5
      have R2 := Lib.hid r2
      have HNX := Lib.hid hN
      unfold secV at p0 p1 q0 q1 s1 t1
      have f1 := p1.frozen 3
      have l1 := Blk.lt p1
      have a1 := p1.cell 3
      have a2 := q0.cell 3
      have a3 := q1.cell 3
      have f3 := s1.frozen 3
      have l3 := Blk.lt s1
      have a4 := s1.cell 3
      have d0 := t1.cell 0
      have d1 := t1.cell 1
      have d2 := t1.cell 2
      have d3 := t1.cell 3
      have o0 := p0.cell 0
      have o1 := p0.cell 1
      have o2 := p0.cell 2
      have o3 := p0.cell 3
      clear h1 h2 r1 h4 h5 r2 hN p0 p1 q0 q1 s1 t1 hJ hx hox ha
      go_wp2_with (first
        | (rw [H1.out])
        | (rw [H2.out])
        | (at_builtin; refine wpList_appS 24 24 rfl (.tmp 36) (.tmp 38) rfl _ _ rfl rfl _ _ R1.out ?_)
        | (rw [H4.out])
        | (rw [H5.out])
        | (at_builtin; refine wpList_appS 22 22 rfl (.tmp 41) (.tmp 43) rfl _ _ rfl rfl _ _ R2.out ?_))
      go_roundw
      case rel => exact ⟨j + 1, A4, c4, by omega, rfl, by go_num, HNX.out⟩
      case measure => simp [intOf]; omega
    · obtain rfl : j = n := by omega
      obtain ⟨hyes, hno⟩ := serv_start (c := c) hJ.out HN.out HS.out
      have HQ : Hid (∀ q, (Value.slice A' j c').ownBlock = some q → w.heap.size ≤ q ∧ q < wr.heap.size) := hJ.out.own.block
      have HL : Hid (ss.length = j) := HS.out.1
      by_cases hy : nameB name = true ∧ (chk ss).1 = 0
      · have YC := Lib.hid (hyes hy)
        unfold YesC at YC
        clear hyes hno hy hJ
        go_wp2_with (first
          | (go_at_call 6; ((with_reducible refine YC.out.mono ?_); rintro e W1 ⟨g, rfl, n1⟩; have N1 := Lib.hid n1; clear n1 YC))
          | (go_at_call 7; ((with_reducible refine N1.out.mono ?_); rintro e W2 ⟨h, rfl, n1⟩; have N2 := Lib.hid n1; clear n1 N1))
          | (go_at_call 8; ((with_reducible refine N2.out.mono ?_); rintro e W3 ⟨rfl, ow, tb, n1⟩; have N3 := Lib.hid n1; have OW := Lib.hid ow; clear n1 ow N2)))
        go_loopw [83] (fun i ws => ∃ k : Nat, k ≤ j ∧ i = .int .i64 k ∧ Hid (SpJ W3 ws (.slice A' j c') j)) (fun i _ => j - (intOf i).toNat)
        case atStart => exact ⟨0, Nat.zero_le _, rfl, by have := OW.out.spoil; rw [HL.out] at this; exact this⟩
        case round =>
          rename World => ws
          obtain ⟨k, hk, rfl, hSP⟩ := hrel
          by_cases hkt : k < j
          · obtain ⟨gO, cO, cs, e, hb, hlen⟩ := hSP.out.2 (by omega)
            injection e with e1 e2 e3
            subst e1 e3
            have HST := Lib.hid (SpJ.step (k := k * 4 + 2) hSP.out.1 rfl hb hlen (.string ⟨#[115, 112, 111, 105, 108, 116]⟩))
            obtain ⟨u, hu⟩ : ∃ u, cs[k * 4 + 2]? = some u := ⟨cs[k * 4 + 2]'(by omega), List.getElem?_eq_getElem _⟩
            have x0 : ws.cell? ⟨gO, k * 4 + 2, none⟩ = some u := (hb.cell _).trans hu
            have f0 := hb.frozen (k * 4 + 2)
            have l0 := Blk.lt hb
            have k0 : (0 : Int) ≤ (k : Int) := by omega
            clear hb hu hSP
            go_wp2
            go_roundw
            case rel => exact ⟨k + 1, by omega, by go_num, HST.out⟩
            case measure => simp [intOf]; omega
          · obtain rfl : j = k := by omega
            have J0 := Lib.hid (N3.out.serv hSP.out.1 HQ.out)
            clear hSP N3 OW HQ
            go_wp2
            go_loopw [96] (fun i wr => ∃ (k : Nat) (v : Option (Bool × ByteArray)), k ≤ n2 ∧ k ≤ 100 ∧ i = .int .i64 k ∧ Hid (ServJ w wr g tb h name A j c ss v)) (fun i _ => n2 - (intOf i).toNat)
            case atStart => exact ⟨0, none, Nat.zero_le _, Nat.zero_le _, rfl, J0.out⟩
            case round =>
              rename World => wr
              obtain ⟨k, v, hkn, hk6, rfl, hJ⟩ := hrel
              clear J0
              by_cases hlt : k < n2
              · obtain ⟨b, off, rfl, hbl, hc⟩ := HO.out (by omega)
                obtain ⟨z, hz⟩ : ∃ z, f k = z := ⟨_, rfl⟩
                obtain ⟨z0, z1, z2, D, kd, dd, l⟩ := z
                obtain ⟨x0, x1, x2, x3, r0, r1, r2, r3⟩ := hc k hlt
                rw [hz] at x0 x1 x2 x3 r0 r1 r2 r3
                dsimp only at x0 x1 x2 x3 r0 r1 r2 r3
                have hB := hJ.out.bel
                replace x0 := (hB.cell (p := ⟨b, off + k * 4, none⟩) hbl).trans x0
                replace x1 := (hB.cell (p := ⟨b, off + k * 4 + 1, none⟩) hbl).trans x1
                replace x2 := (hB.cell (p := ⟨b, off + k * 4 + 2, none⟩) hbl).trans x2
                replace x3 := (hB.cell (p := ⟨b, off + k * 4 + 3, none⟩) hbl).trans x3
                obtain ⟨V, hV⟩ : ∃ V, wr.alloc (.cells #[.int .i64 z0, .int .i64 z1, .int .i64 z2, .slice D kd dd] 40) = V := ⟨_, rfl⟩
                have hBV : Below wr.heap.size wr V := by rw [← hV]; exact (Below.refl _ _).alloc (Nat.le_refl _) _
                have hnew : Blk V wr.heap.size 40 [.int .i64 z0, .int .i64 z1, .int .i64 z2, .slice D kd dd] := by rw [← hV]; exact heap_alloc_new wr _
                have hJV := hJ.out.later hBV
                have hne : wr.heap.size ≠ g ∧ wr.heap.size ≠ h := by
                  have := Blk.lt hJ.out.rv
                  have := hJ.out.lo
                  omega
                have y0 := hnew.cell 0
                have y1 := hnew.cell 1
                have y2 := hnew.cell 2
                have y3 := hnew.cell 3
                have HV := Lib.hid hV
                have LC := Lib.hid (serve_any hJV hnew hne z1 z2 D kd dd l (r0.below hJV.bel) r1 r2 r3)
                have RC := Lib.hid (serve_reset (o := 0) (ocs := []) hJV)
                have JV := Lib.hid hJV
                clear hc hz hB hV hBV hnew hJ hbl hJV r0 r1 r2 r3 hne
                by_cases h3 : 100 ≤ k
                · obtain rfl : k = 100 := by omega
                  have AW := Lib.hid (awake_yes V)
                  have FB := Lib.hid JV.out.bel
                  go_wp2_with (first
                    | (rw [HV.out])
                    | (go_at_call 9; ((with_reducible refine AW.out.mono ?_); rintro e X1 ⟨rfl, n1⟩; have T1 := Lib.hid n1; clear n1)))
                  go_ret
                  exact ⟨rfl, step_to FB.out T1.out⟩
                · by_cases e0 : z0 = 0
                  · subst e0
                    clear LC JV
                    go_upto_region 33 with (first
                      | (rw [HV.out])
                      | (go_at_call 10; ((with_reducible refine RC.out.mono ?_); rintro e W5 ⟨rfl, n5⟩; have RC5 := Lib.hid n5; clear n5 RC))
                      | (go_at_call 11; ((with_reducible refine RC5.out.mono ?_); rintro e W6 ⟨rfl, n6⟩; have AJ := Lib.hid n6; clear n6 RC5)))
                    have ax := AJ.out
                    have ST := Lib.hid (fun n => (serve_state (ax.drewN n)).1.mono fun _ _ ⟨he, hw⟩ => (⟨he, n, hw.symm⟩ : _ ∧ ∃ m, _ = W6.drewN m))
                    have MS := Lib.hid (fun n => (serve_state (ax.drewN n)).2.mono fun _ _ ⟨he, hw⟩ => (⟨he, n, hw.symm⟩ : _ ∧ ∃ m, _ = W6.drewN m))
                    have v5 : W6.cell? ⟨h, 2, none⟩ = some (.int .i64 (stV none)) := Blk.cell ax.rv 2
                    have v6 : W6.cell? ⟨h, 3, none⟩ = some (.string (whoV none)) := Blk.cell ax.rv 3
                    have b5 : (stV none != stV none) = false := by simp
                    have b6 : ((whoV none).toList != (whoV none).toList) = false := by simp
                    obtain ⟨sv, hsv⟩ : ∃ sv, stV none = sv := ⟨_, rfl⟩
                    obtain ⟨wv, hwv⟩ : ∃ wv, whoV none = wv := ⟨_, rfl⟩
                    rw [hsv] at ST v5 b5
                    rw [hwv] at MS v6 b6
                    clear ax hsv hwv
                    go_quiet (first
                      | (go_at_call 17; exact ST.out _)
                      | (go_at_call 18; exact MS.out _))
                    go_wp2
                    go_roundw
                    case rel => exact ⟨k + 1, none, by omega, by omega, by go_num, AJ.out.drewN _⟩
                    case measure => simp [intOf]; omega
                  · have e0' : (z0 == 0) = false := by simpa using e0
                    obtain ⟨v', hv'⟩ : ∃ v', takeV name ss v z1 z2 l = v' := ⟨_, rfl⟩
                    unfold LentC STakC RTakC SameC KeptC at LC
                    rw [hv'] at LC
                    clear RC JV hv'
                    go_upto_region 33 with (first
                      | (rw [HV.out])
                      | (go_at_call 12; ((with_reducible refine LC.out.mono ?_); rintro e W5 ⟨gq, cap, rfl, X1, hX1, b5, n5⟩; have HX1 := Lib.hid hX1; have S5 := Lib.hid n5; have u0 := b5.cell 0; have u1 := b5.cell 1; have u2 := b5.cell 2; clear n5 b5 hX1 LC))
                      | (rw [HX1.out])
                      | (go_at_call 13; ((with_reducible refine S5.out.mono ?_); rintro e W6 ⟨C', I', D1, k1, d1, bo, er, rfl, X2, hX2, b6, n6⟩; have HX2 := Lib.hid hX2; have S6 := Lib.hid n6; have u3 := b6.cell 1; have u4 := b6.cell 2; have u5 := b6.cell 3; clear n6 b6 hX2 S5))
                      | (rw [HX2.out])
                      | (go_at_call 14; ((with_reducible refine S6.out.mono ?_); rintro e W7 ⟨D2, k2, d2, rfl, X3, hX3, b7, b8, n7⟩; have HX3 := Lib.hid hX3; have S7 := Lib.hid n7; have v0 := b7.cell 0; have v1 := b7.cell 1; have v2 := b7.cell 2; have w0 := b8.cell 0; have w1 := b8.cell 1; have w2 := b8.cell 2; clear n7 b7 b8 hX3 S6))
                      | (rw [HX3.out])
                      | (go_at_call 15; ((with_reducible refine S7.out.mono ?_); rintro e W8 ⟨rfl, b9, b10, n8⟩; have S8 := Lib.hid n8; have g0 := b9.cell 0; have g1 := b9.cell 1; have g2 := b9.cell 2; have g3 := b10.cell 1; have g4 := b10.cell 2; have g5 := b10.cell 3; clear n8 b9 b10 S7))
                      | (go_at_call 16; ((with_reducible refine S8.out.mono ?_); rintro e W9 ⟨rfl, n9⟩; have AJ := Lib.hid n9; clear n9 S8)))
                    have ax := AJ.out
                    have ST := Lib.hid (fun n => (serve_state (ax.drewN n)).1.mono fun _ _ ⟨he, hw⟩ => (⟨he, n, hw.symm⟩ : _ ∧ ∃ m, _ = W9.drewN m))
                    have MS := Lib.hid (fun n => (serve_state (ax.drewN n)).2.mono fun _ _ ⟨he, hw⟩ => (⟨he, n, hw.symm⟩ : _ ∧ ∃ m, _ = W9.drewN m))
                    have v5 : W9.cell? ⟨h, 2, none⟩ = some (.int .i64 (stV v')) := Blk.cell ax.rv 2
                    have v6 : W9.cell? ⟨h, 3, none⟩ = some (.string (whoV v')) := Blk.cell ax.rv 3
                    have b5 : (stV v' != stV v') = false := by simp
                    have b6 : ((whoV v').toList != (whoV v').toList) = false := by simp
                    obtain ⟨sv, hsv⟩ : ∃ sv, stV v' = sv := ⟨_, rfl⟩
                    obtain ⟨wv, hwv⟩ : ∃ wv, whoV v' = wv := ⟨_, rfl⟩
                    rw [hsv] at ST v5 b5
                    rw [hwv] at MS v6 b6
                    clear ax hsv hwv
                    go_quiet (first
                      | (go_at_call 17; exact ST.out _)
                      | (go_at_call 18; exact MS.out _))
                    go_wp2
                    go_roundw
                    case rel => exact ⟨k + 1, v', by omega, by omega, by go_num, AJ.out.drewN _⟩
                    case measure => simp [intOf]; omega
              · obtain rfl : k = n2 := by omega
                have AW := Lib.hid (awake_yes wr)
                have FB := Lib.hid hJ.out.bel
                go_wp2_with (first
                  | (go_at_call 9; ((with_reducible refine AW.out.mono ?_); rintro e X1 ⟨rfl, n1⟩; have T1 := Lib.hid n1; clear n1)))
                go_ret
                exact ⟨rfl, step_to FB.out T1.out⟩
      · have YC := Lib.hid (hno hy)
        unfold NoC at YC
        clear hyes hno hy hJ
        go_wp2_with (first
          | (go_at_call 6; ((with_reducible refine YC.out.mono ?_); rintro e W1 ⟨e1, i1, rfl, n1⟩; have N1 := Lib.hid n1; clear n1 YC))
          | (go_at_call 7; ((with_reducible refine N1.out.mono ?_); rintro e W2 ⟨rfl, n1⟩; have N2 := Lib.hid n1; clear n1 N1))
          | (go_at_call 8; ((with_reducible refine N2.out.mono ?_); rintro e W3 ⟨rfl, ow, n1⟩; have N3 := Lib.hid n1; have OW := Lib.hid ow; clear n1 ow N2)))
        go_loopw [83] (fun i ws => ∃ k : Nat, k ≤ j ∧ i = .int .i64 k ∧ Hid (SpJ W3 ws (.slice A' j c') j)) (fun i _ => j - (intOf i).toNat)
        case atStart => exact ⟨0, Nat.zero_le _, rfl, by have := OW.out.spoil; rw [HL.out] at this; exact this⟩
        case round =>
          rename World => ws
          obtain ⟨k, hk, rfl, hSP⟩ := hrel
          by_cases hkt : k < j
          · obtain ⟨gO, cO, cs, e, hb, hlen⟩ := hSP.out.2 (by omega)
            injection e with e1 e2 e3
            subst e1 e3
            have HST := Lib.hid (SpJ.step (k := k * 4 + 2) hSP.out.1 rfl hb hlen (.string ⟨#[115, 112, 111, 105, 108, 116]⟩))
            obtain ⟨u, hu⟩ : ∃ u, cs[k * 4 + 2]? = some u := ⟨cs[k * 4 + 2]'(by omega), List.getElem?_eq_getElem _⟩
            have x0 : ws.cell? ⟨gO, k * 4 + 2, none⟩ = some u := (hb.cell _).trans hu
            have f0 := hb.frozen (k * 4 + 2)
            have l0 := Blk.lt hb
            have k0 : (0 : Int) ≤ (k : Int) := by omega
            clear hb hu hSP
            go_wp2
            go_roundw
            case rel => exact ⟨k + 1, by omega, by go_num, HST.out⟩
            case measure => simp [intOf]; omega
          · obtain rfl : k = j := by omega
            have BF := Lib.hid (below_ownB N3.out hSP.out.1 (fun q e => (HQ.out q e).1))
            have AW := Lib.hid (awake_yes ws)
            clear hSP N3 OW HQ
            go_wp2_with (first
              | (go_at_call 9; ((with_reducible refine AW.out.mono ?_); rintro e X1 ⟨rfl, n1⟩; have T1 := Lib.hid n1; clear n1)))
            go_ret
            exact ⟨rfl, step_to BF.out T1.out⟩
end Go.Proofs.Ytglboagjmbjehaa
