/-
  tetherref01's rings: Write.
-/
import Derived.Test.YtdnheiefbecaeaaRefRing
import Derived.Outline
namespace Go.Proofs.Ytdnheiefbecaeaa
open Go.RowKit
set_option maxRecDepth 100000
set_option maxHeartbeats 2000000
set_option linter.unusedSimpArgs false
set_option linter.unusedVariables false

/-- what the two appends of Write leave -/
structure Joined (w : World) (D : Option Addr) (m dc : Nat) (A : Option Addr) (k cap : Nat) (q l : List UInt8) (p : Nat) (x : (Value × World) × (Option Addr × Nat × World)) : Prop where
  run1 : (Builtin.append_ #[27, 27] 27 #[.slice none 0 0, .slice D m dc]).run Try.prog (w.drewN p) = .ok x.1.1 x.1.2
  run2 : (Builtin.append_ #[27, 27] 27 #[x.1.1, .slice A k cap]).run Try.prog x.1.2 = .ok (.slice x.2.1 (m + k) x.2.2.1) x.2.2.2
  own : Own x.2.2.2 w.heap.size (.slice x.2.1 (m + k) x.2.2.1) (q ++ l)
  below : Below w.heap.size w x.2.2.2
theorem joined_any (w : World) (D : Option Addr) (m dc B1 : Nat) (A : Option Addr) (k cap B2 : Nat) (q l : List UInt8) (h1 : Rd w B1 D m q) (hB1 : B1 ≤ w.heap.size) (n1 : D = none → dc = 0) (h2 : Rd w B2 A k l) (hB2 : B2 ≤ w.heap.size) (n2 : A = none → cap = 0) (hm : m ≤ 65536) (hk : k ≤ 65536) (p : Nat) :
    ∃ x, Joined w D m dc A k cap q l p x := by
  have hl1 := h1.1
  have hl2 := h2.1
  obtain ⟨v1, w1, r1, o1, g1, _⟩ := append_run (Own.nil (w.drewN p) w.heap.size) dc (h1 : Rd (w.drewN p) B1 D m q) n1 (by simp; omega) (Nat.le_refl _)
  have b1 : Below w.heap.size w w1 := (below_drewN (Below.refl _ _) p).grown g1 (Nat.le_refl _) (by simp [Value.ownBlock])
  rw [List.nil_append] at o1
  obtain ⟨v2, w2, r2, o2, g2, _⟩ := append_run o1 cap (h2.below (b1.mono hB2)) n2 (by omega) b1.size
  have hlen : (q ++ l).length = m + k := by rw [List.length_append, hl1, hl2]
  have hv : ∃ E c, v2 = .slice E (m + k) c := by
    rcases o2.form with ⟨rfl, e⟩ | ⟨g', cap', rfl, _⟩
    · rw [e] at hlen
      exact ⟨none, 0, by rw [← hlen]; rfl⟩
    · exact ⟨_, _, by rw [hlen]⟩
  obtain ⟨E, c, rfl⟩ := hv
  exact ⟨((v1, w1), (E, c, w2)), r1, r2, o2, b1.grown g2 b1.size (fun j hj => (o1.block j hj).1)⟩

theorem refwrite_any (gs b room : Nat) (q : List UInt8) (A : Option Addr) (n cap B : Nat) (l : List UInt8) (w : World) (r : RefRing w gs b room q) (hr : Rd w B A n l) (hB : B ≤ w.heap.size) (hn : n ≤ cap) (hcap : cap ≤ 9223372036854775807) (hnil : A = none → cap = 0)
    (k : Nat) (hk : (k = n ∧ n ≤ room - q.length) ∨ (k = room - q.length ∧ room - q.length < n)) :
    Calls Try.prog 8 #[.pointer (some ⟨gs, 0, none⟩), .slice A n cap] w fun e w' => e = .returned (.int .i64 (k : Int)) ∧ (∃ b', (b' = b ∨ (w.heap.size ≤ b' ∧ b' < w'.heap.size)) ∧ RefRing w' gs b' room (q ++ l.take k)) ∧ w.grownBy w' (some gs) := by
  obtain ⟨D, dc, hb, hrq, hdn, hqd, hdc⟩ := r.ring
  have c0 : w.cell? ⟨gs, 0, none⟩ = some (.int .i64 (room : Int)) := Blk.cell hb 0
  have c1 : w.cell? ⟨gs, 1, none⟩ = some (.slice D q.length dc) := Blk.cell hb 1
  have hm := r.most
  have hh := r.held
  have hkn : k ≤ n := by omega
  have hlt := Blk.lt hb
  obtain ⟨X, hX⟩ := Classical.axiomOfChoice (joined_any w D q.length dc w.heap.size A k cap B q (l.take k) hrq.rd (Nat.le_refl _) hdn (hr.headk hkn) hB hnil (by omega) (by omega))
  have HX := Lib.hid hX
  have LK : Hid ((l.take k).length = k) := (hr.headk hkn).1
  have hblk : ∀ p, Blk (X p).2.2.2 gs 29 [.int .i64 (room : Int), .slice D q.length dc] := fun p => ((HX.out p).below.block gs hlt).trans hb
  have e1 : ∀ p, (X p).2.2.2.cell? ⟨gs, 1, none⟩ = some (.slice D q.length dc) := fun p => Blk.cell (hblk p) 1
  have f1 : ∀ p, (X p).2.2.2.frozen? ⟨gs, 1, none⟩ = false := fun p => Blk.frozen (hblk p) 1
  have hkc : (k : Int) ≤ (cap : Int) := by omega
  have wsub : IntKind.i64.wrap ((room : Int) - (q.length : Int)) = ((room - q.length : Nat) : Int) := by rw [IntKind.wrap_i64]; omega
  have FIN : Hid (∀ p, RefRing ((X p).2.2.2.setCell ⟨gs, 1, none⟩ (.slice (X p).2.1 (q.length + k) (X p).2.2.1)) gs ((Value.slice (X p).2.1 (q.length + k) (X p).2.2.1).ownBlock.getD b) room (q ++ l.take k) ∧ ((Value.slice (X p).2.1 (q.length + k) (X p).2.2.1).ownBlock.getD b = b ∨ (w.heap.size ≤ (Value.slice (X p).2.1 (q.length + k) (X p).2.2.1).ownBlock.getD b ∧ (Value.slice (X p).2.1 (q.length + k) (X p).2.2.1).ownBlock.getD b < ((X p).2.2.2.setCell ⟨gs, 1, none⟩ (.slice (X p).2.1 (q.length + k) (X p).2.2.1)).heap.size)) ∧ w.grownBy ((X p).2.2.2.setCell ⟨gs, 1, none⟩ (.slice (X p).2.1 (q.length + k) (X p).2.2.1)) (some gs)) := by
    show ∀ p, _
    intro p
    have ho := (HX.out p).own
    have hbel := (HX.out p).below
    have hset := Blk.set_ (hblk p) 1 (.slice (X p).2.1 (q.length + k) (X p).2.2.1)
    have hG := only_then (only_of_below hbel (some gs)) (only_set (w := (X p).2.2.2) (p := ⟨gs, 1, none⟩) (.slice (X p).2.1 (q.length + k) (X p).2.2.1)) (fun i hi => .inl hi)
    have hlen : (q ++ l.take k).length ≤ room := by rw [List.length_append, LK.out]; omega
    rcases ho.form with ⟨e, e2⟩ | ⟨g', cap', e, hg1, hg2, hc'⟩
    · rw [e] at hset ⊢
      refine ⟨⟨⟨none, 0, by rw [e2]; exact hset, by rw [e2]; exact ⟨rfl, fun h => absurd h (Nat.lt_irrefl 0)⟩, fun _ => rfl, by rw [e2]; exact Nat.le_refl _, by omega⟩, hlen, hm⟩, .inl (by simp [Value.ownBlock]), by rw [e] at hG; exact hG⟩
    · have hcm : cap' ≤ 9223372036854775807 := by
        rcases ho.2 with ⟨e3, _⟩ | ⟨g2, cap2, cur, e3, _, _, _, hm3, _⟩
        · rw [e] at e3
          cases e3
        · rw [e] at e3
          injection e3 with _ _ e4
          unfold maxLen at hm3
          omega
      have hrd : RdB ((X p).2.2.2.setCell ⟨gs, 1, none⟩ (.slice (X p).2.1 (q.length + k) (X p).2.2.1)) g' (some ⟨g', 0, none⟩) (q ++ l.take k).length (q ++ l.take k) := by
        rw [e] at ho
        have h0 : RdB (X p).2.2.2 g' (some ⟨g', 0, none⟩) (q ++ l.take k).length (q ++ l.take k) := ⟨rfl, fun h0 => ⟨0, rfl, hg2, fun j hj => by rw [Nat.zero_add]; exact ho.cell rfl j hj⟩⟩
        exact h0.kept (only_set (w := (X p).2.2.2) (p := ⟨gs, 1, none⟩) _) (by intro e5; injection e5 with e5; have e6 : g' = gs := e5; omega)
      rw [e] at hset hrd hG ⊢
      exact ⟨⟨⟨_, cap', hset, hrd, fun e5 => (by cases e5), hc', hcm⟩, hlen, hm⟩, .inr ⟨by simpa [Value.ownBlock] using hg1, by rw [World.size_setCell]; simpa [Value.ownBlock] using hg2⟩, hG⟩
  clear hX hb hrq hblk r hr hdn hnil
  obtain ⟨R, hR⟩ : ∃ R, R = room - q.length := ⟨_, rfl⟩
  rw [← hR] at hk wsub
  have hsub : (room : Int) - (q.length : Int) = (R : Int) := by omega
  clear hR
  rcases hk with ⟨rfl, hk⟩ | ⟨rfl, hk⟩
  · have hle : ((k : Nat) : Int) ≤ (R : Int) := by omega
    go_enter Try.func8, Try.ntmps8
    go_wp2
    go_quiet (fail)
    go_wp2_with (first
      | (at_builtin; refine wpList_app rfl (.tmp 31) (.tmp 35) rfl _ _ rfl rfl _ _ (HX.out _).run1 ?_)
      | (at_builtin; refine wpList_app rfl (.tmp 37) (.tmp 40) rfl _ _ rfl rfl _ _ (HX.out _).run2 ?_))
    go_ret
    exact ⟨rfl, ⟨_, (FIN.out _).2.1, (FIN.out _).1⟩, (FIN.out _).2.2⟩
  · have hle : (k : Int) < ((n : Nat) : Int) := by omega
    go_enter Try.func8, Try.ntmps8
    go_wp2
    go_quiet (fail)
    go_wp2
    go_quiet (fail)
    go_wp2_with (first
      | (at_builtin; refine wpList_app rfl (.tmp 31) (.tmp 35) rfl _ _ rfl rfl _ _ (HX.out _).run1 ?_)
      | (at_builtin; refine wpList_app rfl (.tmp 37) (.tmp 40) rfl _ _ rfl rfl _ _ (HX.out _).run2 ?_))
    go_ret
    exact ⟨rfl, ⟨_, (FIN.out _).2.1, (FIN.out _).1⟩, (FIN.out _).2.2⟩
end Go.Proofs.Ytdnheiefbecaeaa
