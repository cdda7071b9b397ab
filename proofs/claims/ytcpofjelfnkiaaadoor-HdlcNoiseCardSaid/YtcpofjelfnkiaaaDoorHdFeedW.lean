/-
  hdlc.Line: Feed.
-/
import Derived.Test.YtcpofjelfnkiaaaDoorHdFeed
namespace Go.Proofs.YtcpofjelfnkiaaaDoor
open Go.RowKit Go.Shelf
set_option maxRecDepth 100000
set_option maxHeartbeats 4000000
set_option linter.unusedSimpArgs false
set_option linter.unusedVariables false
attribute [local go_sem] Oper.semAt_some

theorem wpListIn_appF (t t' : TypeId) {F : Fence} {n : Nat} {w : World} {ops : Array Oper} {rest : List Oper} {o : Oper} {a : Act} {Q : Exit → Act → World → Prop} (hgd : o.guard = none) (s x : Operand)
    (ho : o.op = .call { callee := .builtin .append, args := #[s, x], argTypes := #[t, t'] }) (v u : Value) (hs : a.eval s = v) (hx : a.eval x = u)
    (v' : Value) (w2 : World) (hrun : (Builtin.append_ #[t, t'] o.type #[v, u]).run Tryd.prog w = .ok v' w2)
    (h : wpListIn F n Tryd.prog ops Q rest (a.put o.dst v') w2) : wpListIn F n Tryd.prog ops Q (o :: rest) a w := by
  refine wpListIn_plain hgd fun K hK' => ?_
  unfold Oper.wpIn
  refine ⟨?_, ?_⟩
  · simp [Oper.about, ho, resolve, Target.leads, Sem.run_pure]
  · rw [Oper.semAt_plain F _ _ (by rw [ho]; intro c hc'; cases hc')]
    unfold execOp
    simp only [ho, resolve, invoke, builtin, Sem.run_bind, Sem.run_pure, Result.andThen_ok, List.map_toArray, List.map_cons, List.map_nil, hs, hx, hrun]
    exact hK' _ _ h
theorem feed_any (b : Nat) (a : Int) (M : Nat) (p q : Bool) (hM : M ≤ 16390) (s0 : LSt) (hv0 : Value) (A : Option Addr) (n c : Nat) (l : List UInt8) (w : World) (hL : LnAt w b a M p q hv0 s0) (hr : Rd w w.heap.size A n l) (hc : n ≤ c) (hn : n ≤ 1099511627776) (hT : Tab16 w) (ht : 0 < b)
    (hA : 0 < n → ∀ g o s, A = some ⟨g, o, s⟩ → g ≠ b ∧ hv0.ownBlock ≠ some g) :
    Calls Tryd.prog 28 #[.pointer (some ⟨b, 0, none⟩), .slice A n c] w fun e w' => ∃ v hv L, e = .returned v ∧ FL w' w.heap.size v (frs a M p q s0 l) L ∧ (∀ i, L i → i ≠ b ∧ hv.ownBlock ≠ some i ∧ i < w'.heap.size) ∧ LnAt w' b a M p q hv (runS a M p q s0 l) ∧ Trn b hv0 hv w w' := by
  have hb := Blk.lt hL.blk
  have hl := hr.1
  obtain ⟨Wa, hWa⟩ : ∃ Wa, w.alloc (.cells #[.slice none 0 0] 42) = Wa := ⟨_, rfl⟩
  have sa : Wa.heap.size = w.heap.size + 1 := by rw [← hWa]; simp
  have ba : Below w.heap.size w Wa := by rw [← hWa]; exact (Below.refl _ _).alloc (Nat.le_refl _) _
  have ka : Blk Wa w.heap.size 42 [.slice none 0 0] := by rw [← hWa]; exact blk_new w _ _
  obtain ⟨W0, hW0⟩ : ∃ W0, (Wa.alloc (.cells #[.pointer (some ⟨b, 0, none⟩)] 45)).alloc (.cells #[.slice A n c] 22) = W0 := ⟨_, rfl⟩
  have s0' : W0.heap.size = w.heap.size + 3 := by rw [← hW0]; simp; omega
  have b0' : Below Wa.heap.size Wa W0 := by rw [← hW0]; exact ((Below.refl _ _).alloc (Nat.le_refl _) _).alloc (by simp) _
  have kLs : Blk W0 (w.heap.size + 1) 45 [.pointer (some ⟨b, 0, none⟩)] := by
    rw [← hW0, ← sa]; exact (Below.heap_alloc _ _ _ (by simp)).trans (blk_new Wa _ _)
  have kBs : Blk W0 (w.heap.size + 2) 22 [.slice A n c] := by
    have h := blk_new (Wa.alloc (.cells #[.pointer (some ⟨b, 0, none⟩)] 45)) 22 [.slice A n c]
    rw [World.size_alloc, sa] at h
    rw [← hW0]; exact h
  have B0 : Below w.heap.size w W0 := ba.trans (b0'.mono (by omega))
  have kO : Blk W0 w.heap.size 42 [.slice none 0 0] := (b0'.block _ (by omega)).trans ka
  have hvb : ∀ g, hv0.ownBlock = some g → g < w.heap.size := fun g e => (hL.own.block g e).2
  have hvn : ∀ g, w.heap.size ≤ g → hv0.ownBlock ≠ some g := fun g hg e => by have := hvb g e; omega
  have HI0 : ItS w.heap.size (w.heap.size + 2) (w.heap.size + 1) b a M p q hv0 s0 A n c l W0 := by
    refine ⟨hL.later B0, kBs, kLs, hr.below B0, by omega, hc, hT.kept B0, by omega, by omega, by omega, hvn _ (by omega), hvn _ (by omega), fun h0 g o s e => ?_, ht, by omega⟩
    obtain ⟨x1, x2⟩ := hA h0 g o s e
    obtain ⟨b', o', e', hlt, _⟩ := hr.2 h0
    rw [e] at e'
    cases e'
    exact ⟨x1, by omega, x2, by omega⟩
  have HJ0 : FdJ w w.heap.size b (w.heap.size + 2) a M p q s0 l hv0 0 hv0 W0 := by
    refine ⟨.slice none 0 0, fun _ => False, kO, ?_, fun i h => h.elim, hvn _ (Nat.le_refl _), Trn.below hv0 B0⟩
    rw [List.take_zero]
    exact FL.nil _ _ _
  have EC := Lib.hid (each_any b A n c Wa)
  rw [hW0] at EC
  have H0 : Hid (FdI w w.heap.size (w.heap.size + 2) (w.heap.size + 1) b a M p q s0 l hv0 ⟨0, 0, hv0, A, n, c, none⟩ W0) := ⟨HJ0, by rw [List.take_zero, List.drop_zero]; exact HI0, by omega, fun z D m d e => by cases e⟩
  have HWa := Lib.hid hWa
  have S0 := Lib.hid s0'
  have SA := Lib.hid sa
  have HL := Lib.hid hl
  have HN := Lib.hid hn
  clear hWa sa ba ka hW0 s0' b0' kLs kBs B0 kO hvb hvn HI0 HJ0 hL hr hl hT hA hn hc
  refine (callsIn_wide (n := 12)).1 ?_
  refine callsIn_of_wp_marks Tryd.func28 rfl trivial ?_ rfl
  simp only [Tryd.ntmps28, List.size_toArray, List.length_cons, List.length_nil, Nat.reduceAdd, Nat.reduceSub, Array.replicate_succ, Array.replicate_zero, List.push_toArray, List.append_toArray, List.nil_append, List.cons_append]
  gi_wp2_with (first
    | (rw [HWa.out])
    | (refine ⟨trivial, ?_⟩; gi_at_call 46; refine (callsIn_wide.2 EC.out).mono ?_; rintro e w' ⟨rfl, rfl⟩))
  rw [SA.out, show w.heap.size + 1 + 1 = w.heap.size + 2 from rfl]
  rename World => W0
  have hs0 : w.heap.size + 3 ≤ W0.heap.size := by have := S0.out; omega
  have hw0 : w.heap.size ≤ W0.heap.size := by omega
  refine wpIn_rangeFunc_dir rfl (by omega) (gf := 50) (lb := #[.pointer (some ⟨w.heap.size + 2, 0, none⟩), .pointer (some ⟨w.heap.size + 1, 0, none⟩)]) rfl trivial (enters_of Tryd.func50 (by kernel_rfl) rfl)
    (encs := fun x : Int × Option Addr × Nat × Nat => #[frV x.1 x.2.1 x.2.2.1 x.2.2.2]) (fun x => rfl)
    (FdI w w.heap.size (w.heap.size + 2) (w.heap.size + 1) b a M p q s0 l hv0) (fun _ _ _ => False) (fun s x => s.x = some x) (fun s x => { s with k0 := s.k1, x := none }) ⟨0, 0, hv0, A, n, c, none⟩
    (fun s => s.k1 = l.length ∧ frs a M p q s0 l = frs a M p q s0 (l.take s.k0))
    (FdI.nocells (.inr trivial) hw0) (fun _ _ _ _ _ h _ _ => h) H0.out
    (fun s x a' W => ∃ Bx, Blk W Bx 24 [.int .i64 x.1, .slice x.2.1 x.2.2.1 x.2.2.2] ∧ a' = { tmps := #[.pointer (some ⟨b, 0, none⟩), .slice A n c, undef, undef, .slice none 0 0, .pointer (some ⟨w.heap.size, 0, none⟩), .pointer (some ⟨Bx, 0, none⟩), .pointer (some ⟨b, 0, none⟩), .slice A n c, .func (.func 50) #[] #[.pointer (some ⟨w.heap.size + 2, 0, none⟩), .pointer (some ⟨w.heap.size + 1, 0, none⟩)], frV x.1 x.2.1 x.2.2.1 x.2.2.2, undef, undef, undef, undef, undef], defers := [] })
    (fun s x a' => by
      rintro u W W' row ⟨Bx, h1, h2⟩ hg hr
      refine ⟨Bx, (hg.block Bx (Blk.lt h1) (fun e => ?_)).trans h1, h2⟩
      obtain ⟨_, o, ho, hc⟩ := hr Bx e.symm
      rw [show W.heap[Bx]? = _ from h1] at ho
      injection ho with ho
      subst ho
      cases hc)
    ?assign ?body ?hit ?done ?stop
  case assign =>
    rintro lp s ⟨z, D, m, d⟩ W K hi hok hK
    have HK := Lib.hid (hK { tmps := #[.pointer (some ⟨b, 0, none⟩), .slice A n c, undef, undef, .slice none 0 0, .pointer (some ⟨w.heap.size, 0, none⟩), .pointer (some ⟨W.heap.size, 0, none⟩), .pointer (some ⟨b, 0, none⟩), .slice A n c, .func (.func 50) #[] #[.pointer (some ⟨w.heap.size + 2, 0, none⟩), .pointer (some ⟨w.heap.size + 1, 0, none⟩)], frV z D m d, undef, undef, undef, undef, undef], defers := [] } (W.alloc (.cells #[.int .i64 z, .slice D m d] 24)) ((KeepsOthers.alloc _ _).from _) ((FdI.nocells (.inr trivial) hw0).alloc _ hi) ⟨W.heap.size, blk_new W _ _, rfl⟩)
    clear hK hi hok
    simp only [frV]
    gi_wp2
    exact HK.out
  case body =>
    rintro lp s ⟨z, D, m, d⟩ a' W hlp - hi hok ⟨Bx, hBx, rfl⟩
    obtain ⟨v, A2, n2, c2, w2, y1, y2, y3, y4, ⟨u, y5⟩, y6, y7, hFI, hKF⟩ := fd_body ⟨by omega, by omega, by omega⟩ (Nat.le_refl _) (by omega) hb ht (by have := HL.out; have := HN.out; omega) hi hok W0.heap.size
    have x0 := hBx.cell 0
    have x1 := hBx.cell 1
    have R := Lib.hid y4
    clear hi hok hBx y4
    dsimp only
    gi_wp2_with (gi_at_builtin; refine wpListIn_appF 42 42 rfl (.tmp 11) (.tmp 13) rfl _ _ rfl rfl _ _ R.out ?_)
    exact ⟨hKF.out, hFI.out⟩
  case hit =>
    rintro lp W1 R Rx hB1 hz1 hR hRx hY hI1 hR1
    obtain ⟨hJ1, hIt1, hsz1, -⟩ := hI1
    rw [List.take_zero, List.drop_zero] at hIt1
    refine (each1_in (n := 11) (by omega) lp w.heap.size (w.heap.size + 2) (w.heap.size + 1) b a M p q hM s0 l w.heap.size
      (fun k hv W => FdJ w w.heap.size b (w.heap.size + 2) a M p q s0 l hv0 k hv W ∧ R W) (fun k hv W => False) ?ab9 ?yy9 hv0 A n c W1 ⟨hJ1, hR1⟩ hIt1 hsz1 (by have := HN.out; omega)).mono ?post9
    case ab9 =>
      rintro k hv hv' W W' ⟨h1, h2⟩ hcl hs ho hb' hov
      refine ⟨FdJ.abides ⟨by omega, by omega⟩ (by omega) k hv hv' W W' h1 hcl hs ho hb' hov, hR _ _ ⟨hs, fun i o hi hio hc => ?_⟩ h2⟩
      have hlt := (Array.getElem?_eq_some_iff.1 hio).1
      refine (hb' i hlt (by omega) (by omega) (fun e => ?_)).trans hio
      obtain ⟨cs, t, fz, hh⟩ := hcl i e
      rw [hio] at hh
      injection hh with hh
      subst hh
      cases hc
    case yy9 =>
      rintro k0 k hv A' n' c' W z D m d hk0 hk ⟨h1, h2⟩ hIt hfr ⟨P, I, e1, e2, e3, e4⟩ hblk hbs
      refine (hY ⟨k0, k + 1, hv, A', n', c', some (z, D, m, d)⟩ (z, D, m, d) W ⟨h1, hIt, hbs, ?_⟩ h2 rfl).mono ?_
      · rintro z' D' m' d' e
        injection e with e
        injection e with ez e
        injection e with eD e
        injection e with em ed
        subst ez eD em ed
        refine ⟨P, I, by rw [e1, hfr], e2, e3, e4, fun g hg => ?_⟩
        obtain ⟨u1, u2, u3⟩ := hblk g hg
        exact ⟨u1, u2, u3, (e4.block g hg).2⟩
      · rintro e W' (⟨rfl, ⟨h3, h4, h5, -⟩, h6⟩ | ⟨rfl, cc, h, _⟩)
        · exact .inl ⟨rfl, ⟨h3, h6⟩, h4, h5⟩
        · exact h.elim
    case post9 =>
      rintro e W' ⟨hv, (⟨k0, hv', A2, n2, c2, e1, ⟨h1, h2⟩, h3⟩ | ⟨k, hv', A2, n2, c2, _, h, _⟩)⟩
      · refine ⟨hv, .inl ⟨⟨k0, l.length, hv', A2, n2, c2, none⟩, ⟨rfl, e1⟩, ⟨h1, by rw [List.take_length, List.drop_length]; exact h3, ?_, fun z D m d e => by cases e⟩, h2⟩⟩
        obtain ⟨_, _, _, _, _, _, ht⟩ := h1
        exact ht.size
      · exact h.elim
  case done =>
    rintro D s W hD ⟨e1, e2⟩ ⟨⟨v, L, h1, h2, h3, h4, h5⟩, hIt, hsz, -⟩ hK
    have k0 : W.cell? ⟨w.heap.size, 0, none⟩ = some v := h1.cell 0
    obtain ⟨A9, n9, c9, hvf⟩ : ∃ A n c, v = .slice A n c := by obtain ⟨A, c, e⟩ := h2.own.shape; exact ⟨_, _, _, e⟩
    subst hvf
    rw [e1, List.take_length, List.drop_length] at hIt
    rw [← e2] at h2
    have hlK := (Array.getElem?_eq_some_iff.1 hK).1
    have no : ∀ i cs t fz, W.heap[i]? = some (.cells cs t fz) → i ≠ D := by
      intro i cs t fz hi e
      subst e
      rw [hK] at hi
      cases hi
    have hgr : W.grownBy (W.putObj D (.deferred none)) (some D) := grownBy_putObj' W D _
    have FIN : Hid (FL (W.putObj D (.deferred none)) w.heap.size (.slice A9 n9 c9) (frs a M p q s0 l) L ∧ (∀ i, L i → i ≠ b ∧ s.hv.ownBlock ≠ some i ∧ i < (W.putObj D (.deferred none)).heap.size) ∧ LnAt (W.putObj D (.deferred none)) b a M p q s.hv (runS a M p q s0 l) ∧ Trn b hv0 s.hv w (W.putObj D (.deferred none))) := by
      have hI2 := hIt.nocells hgr (fun k e => by cases e; exact ⟨_, hK, rfl⟩)
      refine ⟨?_, fun i hi => ?_, hI2.ln, h5.more hgr (fun k e => by cases e; omega)⟩
      · obtain ⟨cs, y1, y2, y3⟩ := h2
        have keepOwn : ∀ {base e2 size n2 : Nat} {v : Value} {xs : List Value}, W.ownsRow base e2 size v n2 xs → ∀ g, v.ownBlock = some g → (W.putObj D (.deferred none)).heap[g]? = W.heap[g]? := fun {base e2 size n2 v xs} h g e => by
          rcases h.2 with ⟨e2, _⟩ | ⟨g2, cap, cur, e2, _, hh, _⟩
          · rw [e2] at e; cases e
          · rw [e2] at e
            have e3 : g2 = g := by injection e
            rw [← e3]
            exact hgr.block _ (Array.getElem?_eq_some_iff.1 hh).1 (fun e => no _ _ _ _ hh (by injection e))
        refine ⟨cs, row_same y1 (keepOwn y1), y2, fun i hi => ?_⟩
        obtain ⟨a1, E, kk, cc, b1, o1, l1⟩ := y3 i hi
        exact ⟨a1, E, kk, cc, b1, own_same o1 (keepOwn o1), l1⟩
      · obtain ⟨u1, u2, u3, u4, u5⟩ := h3 i hi
        have := hgr.size
        exact ⟨u1, u4, by omega⟩
    clear h1 h2 h3 h4 h5 hIt e2 no
    gi_wp2
    refine ⟨by simp, .inl ⟨_, _, rfl, run_takeDeferred hK, ?_⟩⟩
    exact ⟨_, results_tmp rfl _ _ _, .slice A9 n9 c9, s.hv, L, rfl, FIN.out⟩
  case stop =>
    rintro D cc s W _ h _
    exact h.elim
end Go.Proofs.YtcpofjelfnkiaaaDoor
