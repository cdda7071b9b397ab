/-
  opt.Options of any bytes.
-/
import Derived.Test.YtnhadkmbekgfbaaOpReadBad
import Derived.LoopTactic
namespace Go.Proofs.Ytnhadkmbekgfbaa
open Go.RowKit
set_option maxRecDepth 100000
set_option maxHeartbeats 4000000
set_option linter.unusedSimpArgs false
set_option linter.unusedVariables false

def OpsPost (w : World) (l : List UInt8) (e : Ending) (w' : World) : Prop := ∃ D m c E, e = .returned (.tuple #[.slice D m c, .int .i64 E]) ∧ Below w.heap.size w w' ∧
  (E = 0 → ∃ s, okS s ∧ s.length ≤ 32 ∧ enc s = l ∧ m = s.length ∧ OwnL w' w.heap.size (.slice D m c) s) ∧ (E ≠ 0 → ∀ s, okS s → s.length ≤ 32 → enc s ≠ l)
/-- behind the options s: what is left is r -/
def OpsJ (w : World) (l : List UInt8) (wr : World) (B g : Nat) (v : Value) (s : List Opt) (r : List UInt8) : Prop :=
  OctAt wr B g r 0 ∧ OwnL wr B v s ∧ Below w.heap.size w wr ∧ (w.heap.size ≤ g ∧ g < B ∧ B ≤ wr.heap.size) ∧ okS s ∧ s.length ≤ 32 ∧ l = enc s ++ r
theorem ops_next (w : World) (l : List UInt8) (wr : World) (B g : Nat) (v : Value) (s : List Opt) (r : List UInt8) (h : OpsJ w l wr B g v s r) (hs : s.length < 32) (z : Nat) (h2 : 2 ≤ r.length) (hZ : num (r.drop 1) 1 = ((z + 2 : Nat) : Int)) (hz : z + 2 ≤ r.length) :
    Calls Try.prog 94 #[.pointer (some ⟨g, 0, none⟩)] wr fun e w2 => ∃ K D m c, e = .returned (.tuple #[.agg #[.int .i64 K, .slice D m c], .int .i64 0]) ∧
      ∃ v' w', (Builtin.append_ #[55, 55] 55 #[v, .slice (some ⟨w2.heap.size + 1, 0, none⟩) 1 1]).run Try.prog ((w2.alloc (.cells #[.int .i64 K, .slice D m c] 70)).alloc (.cells #[.int .i64 K, .slice D m c] 70)) = .ok v' w' ∧
        ∃ s' r', OpsJ w l w' B g v' s' r' ∧ s'.length = s.length + 1 := by
  obtain ⟨hO, hw, hB, ⟨h1, h3, h4⟩, ho, hl, he⟩ := h
  have henc := enc_head h2 hZ hz
  have z255 := (num_256 (r.drop 1)).2
  rw [hZ] at z255
  refine (read_good B g r _ z wr hO (by omega) h2 rfl hZ hz).mono ?_
  rintro e w2 ⟨D, m, c, rfl, hOw, hO2, hG⟩
  have s2 := hG.size
  obtain ⟨K, hK⟩ : ∃ K, num r 1 = K := ⟨_, rfl⟩
  obtain ⟨d, hd⟩ : ∃ d, (r.drop 2).take z = d := ⟨_, rfl⟩
  rw [hK, hd] at henc
  rw [hd] at hOw
  rw [hK]
  have lat : ∀ {a b : World}, a.grownBy b (some g) → OwnL a B v s → OwnL b B v s := by
    intro a b hg ⟨cs, q1, q2⟩
    have nb : ∀ {u : Value}, (∀ k, u.ownBlock = some k → B ≤ k) → u.ownBlock = none ∨ u.ownBlock ≠ some g := fun {u} hu => by
      rcases e : u.ownBlock with _ | k
      · exact .inl rfl
      · have := hu k e
        exact .inr (fun e => by injection e; omega)
    refine ⟨cs, q1.grown hg (nb fun k hk => (q1.block k hk).1), fun i hi => ?_⟩
    obtain ⟨a1, E, k, c, a2, a3⟩ := q2 i hi
    exact ⟨a1, E, k, c, a2, a3.grown hg (nb fun k hk => (a3.block k hk).1)⟩
  have hw2 := lat hG hw
  obtain ⟨W3, hW3⟩ : ∃ W3, W3 = (w2.alloc (.cells #[.int .i64 K, .slice D m c] 70)).alloc (.cells #[.int .i64 K, .slice D m c] 70) := ⟨_, rfl⟩
  have B3 : Below w2.heap.size w2 W3 := by rw [hW3]; exact ((Below.refl _ _).alloc (Nat.le_refl _) _).alloc (by simp) _
  have s3 : W3.heap.size = w2.heap.size + 1 + 1 := by rw [hW3]; simp
  have hb : Blk W3 (w2.heap.size + 1) 70 [.int .i64 K, .slice D m c] := by
    have hb := blk_new (w2.alloc (.cells #[.int .i64 K, .slice D m c] 70)) 70 [.int .i64 K, .slice D m c]
    rw [World.size_alloc] at hb
    rw [hW3]
    exact hb
  have hw3 := hw2.later B3
  obtain ⟨v', w', hrun, h5, h6, h7⟩ := appL_run hw3 (w2.heap.size + 1) K D m c d (hb.cell 0) (hb.cell 1) ((hOw.later B3).base_le (by omega)) (by omega) (by omega)
  rw [hW3] at hrun
  have hblk := fun q hq => (hw3.block q hq).1
  have hO' : OctAt w' B g (r.drop (z + 2)) 0 := (hO2.later B3).newer h6 hblk
  have hBe : Below w.heap.size w w' := by
    have q2 : Below w.heap.size w w2 := hB.grown hG hB.size (fun q e => by injection e; omega)
    have q3 : Below w.heap.size w W3 := q2.trans (B3.mono q2.size)
    exact q3.grown h6 q3.size (fun q e => by have := hblk q e; omega)
  refine ⟨K, D, m, c, rfl, v', w', hrun, s ++ [(K, d)], r.drop (z + 2), ⟨hO', h5, hBe, ⟨h1, h3, by have := h6.size; omega⟩, okS_snoc ho henc.1, by simp; omega, ?_⟩, by simp⟩
  rw [enc_snoc, List.append_assoc, ← henc.2]
  exact he
theorem ops_full {s r : List _} {l : List UInt8} (ho : okS s) (he : l = enc s ++ r) (hr : r ≠ []) (hs : s.length = 32) : ∀ t, okS t → t.length ≤ 32 → enc t ≠ l := by
  intro t ht hl e
  obtain ⟨s', e1, e2⟩ := enc_cut s t r ho ht (e.trans he)
  have : s' = [] := by
    have h1 := congrArg List.length e1
    rw [List.length_append] at h1
    exact List.eq_nil_of_length_eq_zero (by omega)
  rw [this] at e2
  exact hr e2.symm
theorem ops_stop {s r : List _} {l : List UInt8} (ho : okS s) (he : l = enc s ++ r) (hr : r ≠ []) (hb : r.length < 2 ∨ num (r.drop 1) 1 < 2 ∨ (r.length : Int) < num (r.drop 1) 1) : ∀ t, okS t → t.length ≤ 32 → enc t ≠ l := by
  intro t ht hl e
  obtain ⟨s', e1, e2⟩ := enc_cut s t r ho ht (e.trans he)
  exact enc_bad hr hb s' (fun x hx => ht x (by rw [e1]; exact List.mem_append_right _ hx)) e2
theorem options_any (A : Option Addr) (n c B : Nat) (l : List UInt8) (w : World) (hr : Rd w B A n l) (hB : B ≤ w.heap.size) (hn : n ≤ 140737488355328) :
    Calls Try.prog 32 #[.slice A n c] w fun e w' => OpsPost w l e w' := by
  have NR : Hid (Calls Try.prog 89 #[.slice A n c] w fun e w1 => ∃ g, e = .returned (.pointer (some ⟨g, 0, none⟩)) ∧ OpsJ w l w1 w1.heap.size g (.slice none 0 0) [] l) := by
    refine (newreader_any A n c B l w hr hB (by omega)).mono ?_
    rintro e w1 ⟨g, rfl, h1, h2, h3, h4⟩
    exact ⟨g, rfl, h4 w1 none (World.grownBy.refl _ _) (by simp), OwnL.nil _ _, h3, ⟨h1, h2, Nat.le_refl _⟩, fun o ho => by simp at ho, by simp, rfl⟩
  have hll := hr.1
  have hlb : l.length ≤ 140737488355328 := by omega
  clear hr hB hll hn
  go_enter Try.func32, Try.ntmps32
  go_wp2_with (go_at_call 89; ((with_reducible refine NR.out.mono ?_); rintro e w1 ⟨g, rfl, hj⟩; have J0 := Lib.hid hj; clear hj))
  go_loopw [4] (fun v wr => ∃ (W : World) (s : List Opt) (r : List UInt8), W = wr ∧ Hid (OpsJ w l W w1.heap.size g v s r)) (fun v _ => 32 - lenV v)
  case atStart => exact ⟨_, _, _, rfl, J0.out⟩
  case round =>
    obtain ⟨wr, s, r, rfl, hJ⟩ := hrel
    have hJ2 := hJ.out
    obtain ⟨hO, hw, hBw, ⟨hg1, hg2, hg3⟩, hok, hs32, hle⟩ := hJ2
    obtain ⟨A1, cc, rfl⟩ := hw.shape
    have LE := Lib.hid (left_any _ _ _ _ wr hO)
    have hrl : r.length ≤ 140737488355328 := by
      have := congrArg List.length hle
      rw [List.length_append] at this
      omega
    obtain ⟨m, hm⟩ : ∃ m, s.length = m := ⟨_, rfl⟩
    rw [hm] at hs32
    by_cases h0 : r = []
    · have HP : Hid (OpsPost w l (.returned (.tuple #[.slice A1 m cc, .int .i64 0])) wr) := by
        refine ⟨A1, m, cc, 0, rfl, hBw, fun _ => ⟨s, hok, by omega, by rw [hle, h0, List.append_nil], hm.symm, ?_⟩, fun h => absurd rfl h⟩
        rw [← hm]
        exact hw.base_le (by omega)
      subst h0
      rw [hm]
      clear hO hw hJ hBw hok hle hm
      go_wp2_with (go_at_call 93; ((with_reducible refine LE.out.mono ?_); rintro e w2 ⟨rfl, rfl⟩))
      go_ret2
      exact HP.out
    · have hpos : 1 ≤ r.length := by
        rcases r with _ | ⟨a, t⟩
        · exact absurd rfl h0
        · simp
      obtain ⟨q, hq⟩ : ∃ q, r.length = q := ⟨_, rfl⟩
      rw [hq] at LE
      by_cases h32 : m = 32
      · have HNO := Lib.hid (ops_full hok hle h0 (by omega))
        have HB := Lib.hid hBw
        have q0 : (0 : Int) < (q : Int) := by omega
        subst h32
        rw [hm]
        clear hO hw hJ hBw hok hle hm hpos hq h0
        go_wp2_with (go_at_call 93; ((with_reducible refine LE.out.mono ?_); rintro e w2 ⟨rfl, rfl⟩))
        go_ret2
        exact ⟨none, 0, 0, 7, rfl, HB.out, fun h => by omega, fun _ => HNO.out⟩
      · have q0 : (0 : Int) < (q : Int) := by omega
        have m32 : ((m : Int) == 32) = false := by simp; omega
        by_cases hbad : r.length < 2 ∨ num (r.drop 1) 1 < 2 ∨ (r.length : Int) < num (r.drop 1) 1
        · have HNO := Lib.hid (ops_stop hok hle h0 hbad)
          have RB : Hid (Calls Try.prog 94 #[.pointer (some ⟨g, 0, none⟩)] wr fun e w2 => ∃ K D m c E, e = .returned (.tuple #[.agg #[.int .i64 K, .slice D m c], .int .i64 E]) ∧ (E != 0) = true ∧ Below w.heap.size w (w2.alloc (.cells #[.int .i64 K, .slice D m c] 70))) := by
            refine (read_bad _ g r wr hO (by omega) h0 hbad).mono ?_
            rintro e w2 ⟨K, D, m, c, E, rfl, hE, hG⟩
            have q2 : Below w.heap.size w w2 := hBw.grown hG hBw.size (fun q e => by injection e; omega)
            exact ⟨K, D, m, c, E, rfl, by simpa using hE, q2.alloc q2.size _⟩
          rw [hm]
          clear hO hw hJ hBw hok hle hm hpos hq h0 hbad
          go_wp2_with (first
            | (go_at_call 93; ((with_reducible refine LE.out.mono ?_); rintro e w2 ⟨rfl, rfl⟩))
            | (go_at_call 94; ((with_reducible refine RB.out.mono ?_); rintro e w2 ⟨K, D, m2, c2, E, rfl, hE, hb⟩; have HB := Lib.hid hb; clear hb)))
          go_ret2
          exact ⟨none, 0, 0, E, rfl, HB.out, fun h => by simp [h] at hE, fun _ => HNO.out⟩
        · obtain ⟨z, hz1, hz2⟩ : ∃ z : Nat, num (r.drop 1) 1 = ((z + 2 : Nat) : Int) ∧ z + 2 ≤ r.length := by
            obtain ⟨k, hk⟩ := Int.eq_ofNat_of_zero_le (num_256 (r.drop 1)).1
            refine ⟨k - 2, ?_, ?_⟩ <;> omega
          have RD := Lib.hid (ops_next w l wr _ g _ s r hJ.out (by omega) z (by omega) hz1 hz2)
          rw [hm] at RD ⊢
          clear hO hw hJ hBw hok hle hm hpos hq h0 hbad hz1 hz2
          go_wp2_with (first
            | (go_at_call 93; ((with_reducible refine LE.out.mono ?_); rintro e w2 ⟨rfl, rfl⟩))
            | (go_at_call 94; ((with_reducible refine RD.out.mono ?_); rintro e w2 ⟨K, D, m2, c2, rfl, v', w', hrun, s', r', hJ', hl'⟩; have HR := Lib.hid hrun; have HJ := Lib.hid hJ'; have HL := Lib.hid hl'; clear hrun hJ' hl'))
            | (at_builtin; refine wpList_appO 55 55 rfl (.tmp 24) (.tmp 26) rfl _ _ rfl rfl _ _ HR.out ?_))
          go_roundw
          case rel => exact ⟨_, s', r', rfl, HJ.out⟩
          case measure =>
            obtain ⟨A2, c3, rfl⟩ := HJ.out.2.1.shape
            have := HL.out
            show 32 - s'.length < 32 - m
            omega
end Go.Proofs.Ytnhadkmbekgfbaa
