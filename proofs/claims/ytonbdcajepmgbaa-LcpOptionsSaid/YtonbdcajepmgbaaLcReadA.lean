/-
  lcp.Read: what options say; the closure's loop.
  lcp.Read's closure: the walk.
  lcp.Default; lcp.Read of any list.
-/
import Derived.Test.YtonbdcajepmgbaaLcWith
import Derived.Shelf.Abstract
import Derived.Laws.EntriesVeiled
namespace Go.Proofs.Ytonbdcajepmgbaa
open Go.RowKit
set_option maxRecDepth 100000
set_option maxHeartbeats 2000000
set_option linter.unusedSimpArgs false
set_option linter.unusedVariables false

def dflt : LOpts := ⟨1500, 4294967295, 0, 0, false, false⟩
def stepR (st : Option (LOpts × List Int)) (a : Opt) : Option (LOpts × List Int) := match st with
  | none => none
  | some (o, ks) => if ks.contains a.1 then none else match withO o a with
    | none => none
    | some o' => some (o', ks ++ [a.1])
def readL (s : List Opt) : Option (LOpts × List Int) := s.foldl stepR (some (dflt, []))
theorem readL_take (s : List Opt) (k : Nat) (h : k < s.length) : readL (s.take (k + 1)) = stepR (readL (s.take k)) s[k] := by
  unfold readL
  rw [List.take_succ_eq_append_getElem h, List.foldl_append]
  rfl
theorem fold_none : ∀ s : List Opt, s.foldl stepR none = none
  | [] => rfl
  | a :: s => fold_none s
theorem readL_stop (s : List Opt) (k : Nat) (h : readL (s.take k) = none) : readL s = none := by
  conv => lhs; rw [← List.take_append_drop k s]
  unfold readL at h ⊢
  rw [List.foldl_append, h, fold_none]
/-- where lcp.Read's variables lie: the list, the result, the options so far, the closure that tells repeats, holds' result; that closure's variable, its map -/
structure RC where
  zl : Nat
  z1 : Nat
  zo : Nat
  za : Nat
  zr : Nat
  g : Nat
  m : Nat
def RC.ok (x : RC) (B : Nat) : Prop := (B ≤ x.zl ∧ B ≤ x.z1 ∧ B ≤ x.zo ∧ B ≤ x.za ∧ B ≤ x.zr ∧ B ≤ x.g ∧ B ≤ x.m) ∧ (x.zo ≠ x.zl ∧ x.zo ≠ x.z1 ∧ x.zo ≠ x.za ∧ x.zo ≠ x.zr ∧ x.zo ≠ x.g ∧ x.zo ≠ x.m) ∧ (x.m ≠ x.zl ∧ x.m ≠ x.z1 ∧ x.m ≠ x.za ∧ x.m ≠ x.zr ∧ x.m ≠ x.g)
def again (g : Nat) : Value := .func (.func 136) #[] #[.pointer (some ⟨g, 0, none⟩)]
def RJ (w W : World) (x : RC) (A : Option Addr) (n c : Nat) (s : List Opt) (o : LOpts) (ks : List Int) : Prop :=
  (Blk W x.zl 55 [.slice A n c] ∧ Blk W x.z1 76 [.int .i64 0, .int .i64 0, .int .i64 0, .int .u32 0, .bool false, .bool false] ∧ Blk W x.za 132 [again x.g] ∧ Blk W x.zr 4 [.bool false]) ∧
  Blk W x.zo 76 o.cells ∧ RepAt W x.g x.m ks ∧ OptRd W w.heap.size A n s ∧ Below w.heap.size w W
section
variable {w W W' : World} {x : RC} {A : Option Addr} {n c : Nat} {s : List Opt} {o o' : LOpts} {ks : List Int}
theorem RJ.later (h : RJ w W x A n c s o ks) (hB : Below W.heap.size W W') : RJ w W' x A n c s o ks := by
  obtain ⟨⟨h1, h2, h3, h4⟩, h5, h6, h7, h8⟩ := h
  exact ⟨⟨(hB.block _ h1.lt).trans h1, (hB.block _ h2.lt).trans h2, (hB.block _ h3.lt).trans h3, (hB.block _ h4.lt).trans h4⟩, (hB.block _ h5.lt).trans h5, h6.later hB, h7.below hB h8.size, h8.trans (hB.mono h8.size)⟩
theorem RJ.turned (h : RJ w W x A n c s o ks) (hx : x.ok w.heap.size) {ks' : List Int} (hg : W.grownBy W' (some x.m)) (hr : RepAt W' x.g x.m ks') : RJ w W' x A n c s o ks' := by
  obtain ⟨⟨h1, h2, h3, h4⟩, h5, h6, h7, h8⟩ := h
  obtain ⟨⟨b1, b2, b3, b4, b5, b6, b7⟩, ⟨d1, d2, d3, d4, d5, d6⟩, ⟨e1, e2, e3, e4, e5⟩⟩ := hx
  have hne : ∀ {i : Nat}, x.m ≠ i → some i ≠ some x.m := fun h e => h (by injection e with e; exact e.symm)
  have hB : Below w.heap.size w W' := h8.grown hg h8.size (fun q e => by injection e; omega)
  refine ⟨⟨(hg.block _ h1.lt (hne e1)).trans h1, (hg.block _ h2.lt (hne e2)).trans h2, (hg.block _ h3.lt (hne e3)).trans h3, (hg.block _ h4.lt (hne e4)).trans h4⟩, (hg.block _ h5.lt (hne (Ne.symm d6))).trans h5, hr, ?_, hB⟩
  refine ⟨h7.1, fun h0 => ?_⟩
  obtain ⟨b, off, e, hl, hc⟩ := h7.2 h0
  have kc : ∀ p : Addr, p.block < w.heap.size → W'.cell? p = W.cell? p := fun p hp => World.cell?_of_block (hg.block p.block (by have := h8.size; omega) (fun e => by injection e; omega))
  refine ⟨b, off, e, hl, fun i hi => ?_⟩
  obtain ⟨u1, E, k, c, u2, u3, u4⟩ := hc i hi
  exact ⟨(kc _ hl).trans u1, E, k, c, (kc _ hl).trans u2, u3.kept kc, u4⟩
theorem set6_grown (W : World) (g : Nat) (a b c d e f : Value) : W.grownBy (set6 W g a b c d e f) (some g) := by
  unfold set6
  refine only_then (only_then (only_then (only_then (only_then (only_set (p := ⟨g, 0, none⟩) _) (only_set (p := ⟨g, 1, none⟩) _) ?_) (only_set (p := ⟨g, 2, none⟩) _) ?_) (only_set (p := ⟨g, 3, none⟩) _) ?_) (only_set (p := ⟨g, 4, none⟩) _) ?_) (only_set (p := ⟨g, 5, none⟩) _) ?_
  all_goals exact fun q e => .inl e
theorem set6_blk {W : World} {g t : Nat} {l : List Value} (h : Blk W g t l) (hl : l.length = 6) (a b c d e f : Value) : Blk (set6 W g a b c d e f) g t [a, b, c, d, e, f] := by
  match l, hl with
  | [x0, x1, x2, x3, x4, x5], _ =>
    unfold set6
    exact (((((h.set_ 0 a).set_ 1 b).set_ 2 c).set_ 3 d).set_ 4 e).set_ 5 f
theorem RJ.stored (h : RJ w W x A n c s o ks) (hx : x.ok w.heap.size) (o' : LOpts) : RJ w (set6 W x.zo (.int .i64 o'.mru) (.int .i64 o'.accm) (.int .i64 o'.auth) (.int .u32 o'.magic) (.bool o'.pfc) (.bool o'.acfc)) x A n c s o' ks := by
  obtain ⟨⟨h1, h2, h3, h4⟩, h5, h6, h7, h8⟩ := h
  obtain ⟨⟨b1, b2, b3, b4, b5, b6, b7⟩, ⟨d1, d2, d3, d4, d5, d6⟩, ⟨e1, e2, e3, e4, e5⟩⟩ := hx
  have hg := set6_grown W x.zo (.int .i64 o'.mru) (.int .i64 o'.accm) (.int .i64 o'.auth) (.int .u32 o'.magic) (.bool o'.pfc) (.bool o'.acfc)
  have hs := set6_blk h5 rfl (.int .i64 o'.mru) (.int .i64 o'.accm) (.int .i64 o'.auth) (.int .u32 o'.magic) (.bool o'.pfc) (.bool o'.acfc)
  generalize set6 W x.zo _ _ _ _ _ _ = W' at hg hs ⊢
  have hne : ∀ {i : Nat}, x.zo ≠ i → some i ≠ some x.zo := fun h e => h (by injection e with e; exact e.symm)
  have hB : Below w.heap.size w W' := h8.grown hg h8.size (fun q e => by injection e; omega)
  refine ⟨⟨(hg.block _ h1.lt (hne d1)).trans h1, (hg.block _ h2.lt (hne d2)).trans h2, (hg.block _ h3.lt (hne d3)).trans h3, (hg.block _ h4.lt (hne d4)).trans h4⟩, hs, ⟨(hg.block _ h6.1.lt (hne d5)).trans h6.1, h6.2.1, h6.2.2.kept hg (hne d6)⟩, ?_, hB⟩
  refine ⟨h7.1, fun h0 => ?_⟩
  obtain ⟨b, off, e, hl, hc⟩ := h7.2 h0
  have kc : ∀ p : Addr, p.block < w.heap.size → W'.cell? p = W.cell? p := fun p hp => World.cell?_of_block (hg.block p.block (by have := h8.size; omega) (fun e => by injection e; omega))
  refine ⟨b, off, e, hl, fun i hi => ?_⟩
  obtain ⟨u1, E, k, c, u2, u3, u4⟩ := hc i hi
  exact ⟨(kc _ hl).trans u1, E, k, c, (kc _ hl).trans u2, u3.kept kc, u4⟩
end
end Go.Proofs.Ytonbdcajepmgbaa
namespace Go.Proofs.Ytonbdcajepmgbaa
open Go.RowKit
set_option maxRecDepth 100000
set_option maxHeartbeats 4000000
set_option linter.unusedSimpArgs false
set_option linter.unusedVariables false

def kinds (s : List Opt) : List Int := s.map Prod.fst
theorem kinds_take (s : List Opt) (k : Nat) (h : k < s.length) : kinds (s.take (k + 1)) = kinds (s.take k) ++ [s[k].1] := by
  unfold kinds
  rw [List.take_succ_eq_append_getElem h, List.map_append]
  rfl
/-- what is left behind the loop, well or thrown -/
def RPost (w : World) (x : RC) (A : Option Addr) (n c : Nat) (s : List Opt) (e : Ending) (w' : World) : Prop :=
  (∃ o ks, RJ w w' x A n c s o ks ∧ ((e = .returned (.tuple #[]) ∧ ∃ ks', readL s = some (o, ks')) ∨ (e = .panicked thrown ∧ readL s = none)))
def six (W : World) (g : Nat) (o : LOpts) : Prop := cells6 W g o
/-- a type met before -/
theorem rd_again (w W : World) (x : RC) (A : Option Addr) (n c : Nat) (s : List Opt) (o : LOpts) (ks : List Int) (K : Int) (hx : x.ok w.heap.size) (h : RJ w W x A n c s o ks) (hK : -9223372036854775808 ≤ K ∧ K ≤ 9223372036854775807) (hn : ks.length ≤ 4611686018427387904) :
    Calls Try.prog 136 #[.int .i64 K, .pointer (some ⟨x.g, 0, none⟩)] W fun e w2 => e = .returned (.bool (ks.contains K)) ∧ RJ w w2 x A n c s o (ks ++ [K]) := by
  refine (again_any K x.g x.m ks W h.2.2.1 hK hn).mono ?_
  rintro e w2 ⟨rfl, hr, hg⟩
  exact ⟨rfl, h.turned hx hg hr⟩
/-- one option more: again, with -/
def RdOne (w W1 : World) (x : RC) (A : Option Addr) (n c : Nat) (s : List Opt) (o : LOpts) (zb : Nat) (K : Int) (E : Option Addr) (kk cc : Nat) (Q : Option LOpts → World → Prop) : Prop :=
  Calls Try.prog 136 #[.int .i64 K, .pointer (some ⟨x.g, 0, none⟩)] W1 fun e w2 => e = .returned (.bool false) ∧ cells6 w2 x.zo o ∧ (w2.cell? ⟨zb, 0, none⟩ = some (.int .i64 K) ∧ w2.cell? ⟨zb, 1, none⟩ = some (.slice E kk cc)) ∧
    Calls Try.prog 107 #[.agg #[.int .i64 o.mru, .int .i64 o.accm, .int .i64 o.auth, .int .u32 o.magic, .bool o.pfc, .bool o.acfc], .agg #[.int .i64 K, .slice E kk cc]] w2 fun e w3 =>
      (∃ o', e = .returned (.agg #[.int .i64 o'.mru, .int .i64 o'.accm, .int .i64 o'.auth, .int .u32 o'.magic, .bool o'.pfc, .bool o'.acfc]) ∧ cells6 w3 x.zo o ∧ (∀ i, w3.frozen? ⟨x.zo, i, none⟩ = false) ∧ Q (some o') (set6 w3 x.zo (.int .i64 o'.mru) (.int .i64 o'.accm) (.int .i64 o'.auth) (.int .u32 o'.magic) (.bool o'.pfc) (.bool o'.acfc))) ∨
      (e = .panicked thrown ∧ Q none w3)
theorem rdone_any (w W1 : World) (x : RC) (A : Option Addr) (n c : Nat) (s : List Opt) (o : LOpts) (ks : List Int) (zb : Nat) (K : Int) (E : Option Addr) (kk cc : Nat) (l : List UInt8) (hx : x.ok w.heap.size) (h : RJ w W1 x A n c s o ks) (hK : -9223372036854775808 ≤ K ∧ K ≤ 9223372036854775807) (hn : ks.length ≤ 4611686018427387904) (hc : ks.contains K = false)
    (hb : Blk W1 zb 70 [.int .i64 K, .slice E kk cc]) (hzb : zb ≠ x.m) (hr : Rd W1 w.heap.size E kk l) (hkc : kk ≤ cc) (hk : kk ≤ 140737488351232) (hmz : w.heap.size ≤ x.m) :
    RdOne w W1 x A n c s o zb K E kk cc fun q w4 => q = withO o (K, l) ∧ ((∃ o', q = some o' ∧ RJ w w4 x A n c s o' (ks ++ [K])) ∨ (q = none ∧ RJ w w4 x A n c s o (ks ++ [K]))) := by
  refine (again_any K x.g x.m ks W1 h.2.2.1 hK hn).mono ?_
  rintro e w2 ⟨rfl, hr2, hg⟩
  have h2 := h.turned hx hg hr2
  have hb2 : Blk w2 zb 70 [.int .i64 K, .slice E kk cc] := (hg.block zb hb.lt (fun e => hzb (by injection e))).trans hb
  have rr : Rd w2 w.heap.size E kk l := hr.grown hg (by have := h.2.2.2.2.size; omega) (fun g e => by injection e; omega)
  have hz6 : cells6 w2 x.zo o := ⟨h2.2.1.cell 0, h2.2.1.cell 1, h2.2.1.cell 2, h2.2.1.cell 3, h2.2.1.cell 4, h2.2.1.cell 5⟩
  rw [hc]
  refine ⟨rfl, hz6, ⟨hb2.cell 0, hb2.cell 1⟩, (with_any o K E kk cc w.heap.size l w2 rr (by have := h2.2.2.2.2.size; omega) hkc hk).mono ?_⟩
  rintro e w3 ⟨hB, ⟨o', ho, rfl⟩ | ⟨ho, rfl⟩⟩
  · have h3 := h2.later hB
    exact .inl ⟨o', rfl, ⟨h3.2.1.cell 0, h3.2.1.cell 1, h3.2.1.cell 2, h3.2.1.cell 3, h3.2.1.cell 4, h3.2.1.cell 5⟩, h3.2.1.frozen, ho.symm, .inl ⟨o', rfl, h3.stored hx o'⟩⟩
  · exact .inr ⟨rfl, ho.symm, .inr ⟨rfl, h2.later hB⟩⟩
theorem read1_any (w W : World) (x : RC) (A : Option Addr) (n c : Nat) (s : List Opt) (hx : x.ok w.heap.size) (h : RJ w W x A n c s dflt []) (hK : okK s) (hn : n ≤ 4398046511104) :
    Calls Try.prog 105 #[.pointer (some ⟨x.zl, 0, none⟩), .pointer (some ⟨x.za, 0, none⟩), .pointer (some ⟨x.zo, 0, none⟩)] W fun e w' => RPost w x A n c s e w' := by
  have l0 : W.cell? ⟨x.zl, 0, none⟩ = some (.slice A n c) := h.1.1.cell 0
  have HK := Lib.hid hK
  have HX := Lib.hid hx
  have H0 := Lib.hid h
  clear h hK hx
  go_enter Try.func105, Try.ntmps105
  go_wp2
  go_loopw [7] (fun i wr => ∃ (V : World) (k : Nat) (o : LOpts), V = wr ∧ k ≤ n ∧ i = .int .i64 k ∧ Hid (RJ w V x A n c s o (kinds (s.take k)) ∧ readL (s.take k) = some (o, kinds (s.take k)))) (fun i _ => n - (intOf i).toNat)
  case atStart => exact ⟨_, 0, dflt, rfl, Nat.zero_le _, rfl, H0.out, rfl⟩
  case round =>
    obtain ⟨V, k, o, rfl, hkn, rfl, hJ⟩ := hrel
    obtain ⟨hR, hL⟩ := hJ.out
    have hs : s.length = n := hR.2.2.2.1.1
    have hBw := hR.2.2.2.2
    have s1 := hBw.size
    by_cases hlt : k < n
    · obtain ⟨b, off, rfl, hbl, hc⟩ := hR.2.2.2.1.2 (by omega)
      obtain ⟨d1, E, kk, cc, d2, hRd, hE, hkc, hkb⟩ := hc k (by omega)
      obtain ⟨y, hy⟩ : ∃ y, s[k]'(by omega) = y := ⟨_, rfl⟩
      have hkk := HK.out y (by rw [← hy]; exact List.getElem_mem _)
      have hst := readL_take s k (by omega)
      have hkt := kinds_take s k (by omega)
      rw [hy] at d1 hRd hst hkt
      rw [hL] at hst
      have hkl : (kinds (s.take k)).length ≤ 4611686018427387904 := by
        unfold kinds
        rw [List.length_map]
        have := List.length_take_le k s
        omega
      obtain ⟨K, l⟩ := y
      have hkk : -9223372036854775808 ≤ K ∧ K ≤ 9223372036854775807 := hkk
      have BA : Below V.heap.size V (V.alloc (.cells #[.int .i64 K, .slice E kk cc] 70)) := (Below.refl _ _).alloc (Nat.le_refl _) _
      have hb := blk_new V 70 [.int .i64 K, .slice E kk cc]
      have hR1 := hR.later BA
      have e1 : (V.alloc (.cells #[.int .i64 K, .slice E kk cc] 70)).cell? ⟨x.za, 0, none⟩ = some (again x.g) := hR1.1.2.2.1.cell 0
      unfold again at e1
      by_cases hin : (kinds (s.take k)).contains K = true
      · have RA := rd_again w _ x _ n c s o _ K HX.out hR1 hkk hkl
        rw [hin] at RA
        have HN : Hid (readL s = none) := readL_stop s (k + 1) (by rw [hst]; unfold stepR; simp only [hin, if_true])
        have HRA := Lib.hid RA
        clear hc hy hst hkt hkl hkk BA hb hR1 hin RA hR hJ hL hBw hRd hE
        go_wp2_with (first
          | (go_at_call 136; ((with_reducible refine HRA.out.mono ?_); rintro e w2 ⟨rfl, hq⟩; have HQ := Lib.hid hq; clear hq))
          | (go_at_call 106; ((with_reducible refine (must_no _).mono ?_); rintro e w3 ⟨rfl, rfl⟩)))
        exact ⟨rfl, o, _, HQ.out, .inr ⟨rfl, HN.out⟩⟩
      · have hin' : (kinds (s.take k)).contains K = false := by simpa using hin
        have hm : x.m < V.heap.size := hR.2.2.1.2.2.lt
        have RO := rdone_any w _ x _ n c s o _ V.heap.size K E kk cc l HX.out hR1 hkk hkl hin' hb (by omega) (hRd.below (BA.mono s1)) hkc hkb HX.out.1.2.2.2.2.2.2
        unfold RdOne at RO
        simp only [cells6] at RO
        have HRO := Lib.hid RO
        have hst2 : readL (s.take (k + 1)) = (match withO o (K, l) with | none => none | some o' => some (o', kinds (s.take k) ++ [K])) := by
          rw [hst]
          unfold stepR
          simp only [hin', Bool.false_eq_true, if_false]
          all_goals rfl
        have HST := Lib.hid hst2
        have HKT := Lib.hid hkt
        clear hc hy hst hst2 hkt hkl hkk BA hb hR1 hin hin' RO hR hJ hL hBw hRd hE hm
        go_wp2_with (first
          | (go_at_call 136; ((with_reducible refine HRO.out.mono ?_); rintro e w2 ⟨rfl, ⟨x0, x1, x2, x3, x4, x5⟩, ⟨y0, y1⟩, hq⟩; have HQ := Lib.hid hq; clear hq))
          | (go_at_call 106; ((with_reducible refine (must_yes _).mono ?_); rintro e w3 ⟨rfl, rfl⟩))
          | (go_at_call 107; with_reducible refine HQ.out.mono ?_))
        rintro e w3 (⟨o', rfl, ⟨z0, z1, z2, z3, z4, z5⟩, hf, hq1, hq2⟩ | ⟨rfl, hq1, hq2⟩)
        · have g0 := hf 0
          have g1 := hf 1
          have g2 := hf 2
          have g3 := hf 3
          have g4 := hf 4
          have g5 := hf 5
          have HN : Hid (RJ w (set6 w3 x.zo (.int .i64 o'.mru) (.int .i64 o'.accm) (.int .i64 o'.auth) (.int .u32 o'.magic) (.bool o'.pfc) (.bool o'.acfc)) x (some ⟨b, off, none⟩) n c s o' (kinds (s.take (k + 1))) ∧ readL (s.take (k + 1)) = some (o', kinds (s.take (k + 1)))) := by
            rw [HKT.out, HST.out, ← hq1]
            rcases hq2 with ⟨o2, e2, h2⟩ | ⟨e2, _⟩
            · injection e2 with e2
              subst e2
              exact ⟨h2, rfl⟩
            · cases e2
          clear hf hq1 hq2
          go_wp2
          go_roundw
          case rel => exact ⟨_, k + 1, o', rfl, by omega, by go_num, HN.out⟩
          case measure => simp [intOf]; omega
        · have HN : Hid (RPost w x (some ⟨b, off, none⟩) n c s (.panicked thrown) w3) := by
            rcases hq2 with ⟨o2, e2, _⟩ | ⟨_, h2⟩
            · cases e2
            · exact ⟨o, _, h2, .inr ⟨rfl, readL_stop s (k + 1) (by rw [HST.out, ← hq1])⟩⟩
          exact ⟨rfl, HN.out⟩
    · have : k = n := by omega
      subst this
      have HN : Hid (RPost w x A k c s (.returned (.tuple #[])) V) := by
        rw [List.take_of_length_le (by omega)] at hL
        exact ⟨o, _, hR, .inl ⟨rfl, _, hL⟩⟩
      clear hR hL hJ hBw
      go_wp2
      go_end0
      exact HN.out
end Go.Proofs.Ytonbdcajepmgbaa
namespace Go.Proofs.Ytonbdcajepmgbaa
open Go.RowKit
set_option maxRecDepth 100000
set_option maxHeartbeats 4000000
set_option linter.unusedSimpArgs false
set_option linter.unusedVariables false

def zeroO : LOpts := ⟨0, 0, 0, 0, false, false⟩
def readO (s : List Opt) : LOpts := match readL s with | some (o, _) => o | none => zeroO
def readE (s : List Opt) : Int := match readL s with | some _ => 0 | none => 91
theorem default_any (w : World) : Calls Try.prog 52 #[] w fun e w' => e = .returned (.agg #[.int .i64 1500, .int .i64 4294967295, .int .i64 0, .int .u32 0, .bool false, .bool false]) ∧ Below w.heap.size w w' := by
  have hzv : ∀ W, (zeroValue 76).run Try.prog W = .ok (.agg #[.int .i64 0, .int .i64 0, .int .i64 0, .int .u32 0, .bool false, .bool false]) W := fun W => by kernel_rfl
  go_enter Try.func52, Try.ntmps52
  go_wp2
  exact bodyPost_ret (v := .agg #[.int .i64 1500, .int .i64 4294967295, .int .i64 0, .int .u32 0, .bool false, .bool false]) (by simp [results, Try.results52, go_sem]) rfl ⟨rfl, (Below.refl _ _).alloc (Nat.le_refl _) _⟩
theorem func_enters (f : Nat) (h : Enters Try.prog f) (caps : Array Value) : ∀ W, (callFunc f caps).run Try.prog W = .ok (.enter f caps) W := fun W => h caps W
/-- behind holds -/
def RdEnd (w W : World) (z1 zo : Nat) (s : List Opt) (b : Bool) : Prop := Blk W z1 76 [.int .i64 0, .int .i64 0, .int .i64 0, .int .u32 0, .bool false, .bool false] ∧ (∃ o : LOpts, Blk W zo 76 o.cells ∧ ((b = true ∧ readO s = o ∧ readE s = 0) ∨ (b = false ∧ readO s = zeroO ∧ readE s = 91))) ∧ Below w.heap.size w W
/-- the calls of Read, one behind the other -/
def RdCalls (w W1 : World) (A : Option Addr) (n c : Nat) (s : List Opt) : Prop :=
  Calls Try.prog 52 #[] W1 fun e w2 => e = .returned (.agg #[.int .i64 1500, .int .i64 4294967295, .int .i64 0, .int .u32 0, .bool false, .bool false]) ∧
    Calls Try.prog 103 #[] (w2.alloc (.cells #[.int .i64 1500, .int .i64 4294967295, .int .i64 0, .int .u32 0, .bool false, .bool false] 76)) fun e w4 => ∃ g, e = .returned (.func (.func 136) #[] #[.pointer (some ⟨g, 0, none⟩)]) ∧
      Calls Try.prog 104 #[.func (.func 105) #[] #[.pointer (some ⟨w.heap.size, 0, none⟩), .pointer (some ⟨w4.heap.size, 0, none⟩), .pointer (some ⟨w2.heap.size, 0, none⟩)]] (w4.alloc (.cells #[.func (.func 136) #[] #[.pointer (some ⟨g, 0, none⟩)]] 132)) fun e w6 => ∃ b, e = .returned (.bool b) ∧ RdEnd w w6 (w.heap.size + 1) w2.heap.size s b
theorem rd_calls (w : World) (A : Option Addr) (n c : Nat) (s : List Opt) (hr : OptRd w w.heap.size A n s) (hK : okK s) (hn : n ≤ 4398046511104) :
    RdCalls w ((w.alloc (.cells #[.slice A n c] 55)).alloc (.cells #[.int .i64 0, .int .i64 0, .int .i64 0, .int .u32 0, .bool false, .bool false] 76)) A n c s := by
  obtain ⟨W1, hW1⟩ : ∃ W1, W1 = (w.alloc (.cells #[.slice A n c] 55)).alloc (.cells #[.int .i64 0, .int .i64 0, .int .i64 0, .int .u32 0, .bool false, .bool false] 76) := ⟨_, rfl⟩
  have B1 : Below w.heap.size w W1 := by rw [hW1]; exact ((Below.refl _ _).alloc (Nat.le_refl _) _).alloc (by simp) _
  have s1 : W1.heap.size = w.heap.size + 2 := by rw [hW1]; simp
  have kl : Blk W1 w.heap.size 55 [.slice A n c] := by
    rw [hW1]
    exact (Below.heap_alloc _ _ _ (by simp)).trans (blk_new w _ _)
  have k1 : Blk W1 (w.heap.size + 1) 76 [.int .i64 0, .int .i64 0, .int .i64 0, .int .u32 0, .bool false, .bool false] := by
    rw [hW1]
    have h := blk_new (w.alloc (.cells #[.slice A n c] 55)) 76 [.int .i64 0, .int .i64 0, .int .i64 0, .int .u32 0, .bool false, .bool false]
    rw [World.size_alloc] at h
    exact h
  rw [← hW1]
  clear hW1
  refine (default_any W1).mono ?_
  rintro e w2 ⟨rfl, b2⟩
  have s2 := b2.size
  obtain ⟨W3, hW3⟩ : ∃ W3, W3 = w2.alloc (.cells #[.int .i64 1500, .int .i64 4294967295, .int .i64 0, .int .u32 0, .bool false, .bool false] 76) := ⟨_, rfl⟩
  have B3 : Below W1.heap.size W1 W3 := by rw [hW3]; exact b2.alloc s2 _
  have s3 : W3.heap.size = w2.heap.size + 1 := by rw [hW3]; simp
  have ko : Blk W3 w2.heap.size 76 dflt.cells := by rw [hW3]; exact blk_new w2 _ dflt.cells
  refine ⟨rfl, ?_⟩
  rw [← hW3]
  refine (repeats_any W3).mono ?_
  rintro e w4 ⟨g, m, rfl, hrep, hg, hm, b4⟩
  have s4 := b4.size
  have hgm := hrep.1.lt
  have hmm := hrep.2.2.lt
  obtain ⟨W5, hW5⟩ : ∃ W5, W5 = w4.alloc (.cells #[again g] 132) := ⟨_, rfl⟩
  have B5 : Below w4.heap.size w4 W5 := by rw [hW5]; exact (Below.refl _ _).alloc (Nat.le_refl _) _
  have s5 : W5.heap.size = w4.heap.size + 1 := by rw [hW5]; simp
  have ka : Blk W5 w4.heap.size 132 [again g] := by rw [hW5]; exact blk_new w4 _ _
  refine ⟨g, rfl, ?_⟩
  change Calls _ _ _ (w4.alloc (.cells #[again g] 132)) _
  rw [← hW5]
  obtain ⟨W6, hW6⟩ : ∃ W6, W6 = W5.alloc (.cells #[.bool false] 4) := ⟨_, rfl⟩
  have B6 : Below W5.heap.size W5 W6 := by rw [hW6]; exact (Below.refl _ _).alloc (Nat.le_refl _) _
  have kr : Blk W6 W5.heap.size 4 [.bool false] := by rw [hW6]; exact blk_new W5 _ _
  have B36 : Below W3.heap.size W3 W6 := b4.trans ((B5.trans (B6.mono (by omega))).mono s4)
  have B46 : Below w4.heap.size w4 W6 := B5.trans (B6.mono (by omega))
  have B16 : Below W1.heap.size W1 W6 := B3.trans (B36.mono (by omega))
  have B06 : Below w.heap.size w W6 := B1.trans (B16.mono (by omega))
  let x : RC := ⟨w.heap.size, w.heap.size + 1, w2.heap.size, w4.heap.size, W5.heap.size, g, m⟩
  have hx : x.ok w.heap.size := ⟨⟨Nat.le_refl _, by show _ ≤ w.heap.size + 1; omega, by show _ ≤ w2.heap.size; omega, by show _ ≤ w4.heap.size; omega, by show _ ≤ W5.heap.size; omega, by show _ ≤ g; omega, by show _ ≤ m; omega⟩,
    ⟨by show w2.heap.size ≠ w.heap.size; omega, by show w2.heap.size ≠ w.heap.size + 1; omega, by show w2.heap.size ≠ w4.heap.size; omega, by show w2.heap.size ≠ W5.heap.size; omega, by show w2.heap.size ≠ g; omega, by show w2.heap.size ≠ m; omega⟩,
    ⟨by show m ≠ w.heap.size; omega, by show m ≠ w.heap.size + 1; omega, by show m ≠ w4.heap.size; omega, by show m ≠ W5.heap.size; omega, Ne.symm hrep.2.1⟩⟩
  have HJ : RJ w W6 x A n c s dflt [] := by
    refine ⟨⟨(B16.block _ kl.lt).trans kl, (B16.block _ k1.lt).trans k1, (B6.block _ ka.lt).trans ka, kr⟩, (B36.block _ ko.lt).trans ko, hrep.later B46, hr.below B06 (Nat.le_refl _), B06⟩
  have H1 := read1_any w W6 x A n c s hx HJ hK hn
  rw [hW6] at H1
  refine (holds_any _ _ W5 (fun b W => ∃ o ks, RJ w W x A n c s o ks ∧ ((b = true ∧ ∃ ks', readL s = some (o, ks')) ∨ (b = false ∧ readL s = none))) (func_enters _ (enters_of Try.func105 (by kernel_rfl) rfl) _) (H1.mono ?_)).mono ?_
  · rintro e w7 ⟨o, ks, hj, ⟨rfl, ks', he⟩ | ⟨rfl, he⟩⟩
    · exact ⟨hj.1.2.2.2, .inl ⟨rfl, o, ks, hj, .inl ⟨rfl, ks', he⟩⟩⟩
    · exact ⟨hj.1.2.2.2, .inr ⟨rfl, o, ks, hj, .inr ⟨rfl, he⟩⟩⟩
  · rintro e w8 ⟨b, w7, rfl, ⟨o, ks, hj, hres⟩, rfl⟩
    have hg7 : w7.grownBy (w7.setCell ⟨W5.heap.size, 0, none⟩ (.bool b)) (some W5.heap.size) := only_set (p := ⟨W5.heap.size, 0, none⟩) _
    refine ⟨b, rfl, (hg7.block _ hj.1.2.1.lt (fun e => by injection e with e; exact absurd e (by show w.heap.size + 1 ≠ _; omega))).trans hj.1.2.1, ⟨o, (hg7.block _ hj.2.1.lt (fun e => by injection e with e; exact absurd e (by show w2.heap.size ≠ _; omega))).trans hj.2.1, ?_⟩, hj.2.2.2.2.grown hg7 hj.2.2.2.2.size (fun q e => by injection e with e; omega)⟩
    rcases hres with ⟨rfl, ks', he⟩ | ⟨rfl, he⟩
    · exact .inl ⟨rfl, by unfold readO; rw [he], by unfold readE; rw [he]⟩
    · exact .inr ⟨rfl, by unfold readO; rw [he], by unfold readE; rw [he]⟩
theorem read_any (A : Option Addr) (n c : Nat) (s : List Opt) (w : World) (hr : OptRd w w.heap.size A n s) (hK : okK s) (hn : n ≤ 4398046511104) :
    Calls Try.prog 44 #[.slice A n c] w fun e w' => e = .returned (.tuple #[.agg #[.int .i64 (readO s).mru, .int .i64 (readO s).accm, .int .i64 (readO s).auth, .int .u32 (readO s).magic, .bool (readO s).pfc, .bool (readO s).acfc], .int .i64 (readE s)]) ∧ Below w.heap.size w w' := by
  have hzv : ∀ W, (zeroValue 76).run Try.prog W = .ok (.agg #[.int .i64 0, .int .i64 0, .int .i64 0, .int .u32 0, .bool false, .bool false]) W := fun W => by kernel_rfl
  have hmf : ∀ (fn : Fn) (first cap : Array Value) (w : World), (Instr.makeFunc fn first cap).run Try.prog w = .ok (.func fn first cap) w := fun _ _ _ _ => rfl
  have hzf : ∀ W, (zeroValue 132).run Try.prog W = .ok .nilFunc W := fun W => by kernel_rfl
  have C := rd_calls w A n c s hr hK hn
  unfold RdCalls at C
  have N := Lib.hid C
  clear C hr hK hn
  go_enter Try.func44, Try.ntmps44
  go_upto_if 12 with (first
    | (go_at_call 52; ((with_reducible refine N.out.mono ?_); rintro e w2 ⟨rfl, n2⟩; have N2 := Lib.hid n2; clear n2))
    | (go_at_call 103; ((with_reducible refine N2.out.mono ?_); rintro e w4 ⟨g, rfl, n3⟩; have N3 := Lib.hid n3; clear n3))
    | (go_at_call 104; ((with_reducible refine N3.out.mono ?_); rintro e w6 ⟨b, rfl, hq⟩; have HQ := Lib.hid hq; clear hq)))
  obtain ⟨h1, ⟨o, ho, hres⟩, hB⟩ := HQ.out
  have q0 : w6.cell? ⟨w.heap.size + 1, 0, none⟩ = some (.int .i64 0) := h1.cell 0
  have q1 : w6.cell? ⟨w.heap.size + 1, 1, none⟩ = some (.int .i64 0) := h1.cell 1
  have q2 : w6.cell? ⟨w.heap.size + 1, 2, none⟩ = some (.int .i64 0) := h1.cell 2
  have q3 : w6.cell? ⟨w.heap.size + 1, 3, none⟩ = some (.int .u32 0) := h1.cell 3
  have q4 : w6.cell? ⟨w.heap.size + 1, 4, none⟩ = some (.bool false) := h1.cell 4
  have q5 : w6.cell? ⟨w.heap.size + 1, 5, none⟩ = some (.bool false) := h1.cell 5
  have g0 := h1.frozen 0
  have g1 := h1.frozen 1
  have g2 := h1.frozen 2
  have g3 := h1.frozen 3
  have g4 := h1.frozen 4
  have g5 := h1.frozen 5
  have p0 : w6.cell? ⟨w2.heap.size, 0, none⟩ = some (.int .i64 o.mru) := ho.cell 0
  have p1 : w6.cell? ⟨w2.heap.size, 1, none⟩ = some (.int .i64 o.accm) := ho.cell 1
  have p2 : w6.cell? ⟨w2.heap.size, 2, none⟩ = some (.int .i64 o.auth) := ho.cell 2
  have p3 : w6.cell? ⟨w2.heap.size, 3, none⟩ = some (.int .u32 o.magic) := ho.cell 3
  have p4 : w6.cell? ⟨w2.heap.size, 4, none⟩ = some (.bool o.pfc) := ho.cell 4
  have p5 : w6.cell? ⟨w2.heap.size, 5, none⟩ = some (.bool o.acfc) := ho.cell 5
  have HB := Lib.hid hB
  rcases hres with ⟨rfl, e1, e2⟩ | ⟨rfl, e1, e2⟩
  · have HE := Lib.hid (And.intro e1 e2)
    clear h1 ho hB HQ N N2 N3 e1 e2
    go_wp2
    exact bodyPost_ret (v := .tuple #[.agg #[.int .i64 o.mru, .int .i64 o.accm, .int .i64 o.auth, .int .u32 o.magic, .bool o.pfc, .bool o.acfc], .int .i64 0]) (by simp [results, Try.results44, go_sem, q0, q1, q2, q3, q4, q5, g0, g1, g2, g3, g4, g5]) rfl ⟨by rw [HE.out.1, HE.out.2], set6_below HB.out (w.heap.size + 1) (by omega) _ _ _ _ _ _⟩
  · have HE := Lib.hid (And.intro e1 e2)
    clear h1 ho hB HQ N N2 N3 e1 e2
    go_wp2
    exact bodyPost_ret (v := .tuple #[.agg #[.int .i64 0, .int .i64 0, .int .i64 0, .int .u32 0, .bool false, .bool false], .int .i64 91]) (by simp [results, Try.results44, go_sem, q0, q1, q2, q3, q4, q5, g0, g1, g2, g3, g4, g5]) rfl ⟨by rw [HE.out.1, HE.out.2]; rfl, set6_below HB.out (w.heap.size + 1) (by omega) _ _ _ _ _ _⟩
end Go.Proofs.Ytonbdcajepmgbaa
