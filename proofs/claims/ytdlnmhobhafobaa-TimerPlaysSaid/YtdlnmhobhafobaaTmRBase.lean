/-
  The reference's queue: rows of timers, in the order in which they were set.
-/
import Derived.Test.YtdlnmhobhafobaaTmAll
namespace Go.Proofs.Ytdlnmhobhafobaa
open Go.RowKit Go.Shelf
set_option maxRecDepth 100000
set_option maxHeartbeats 2000000
set_option linter.unusedSimpArgs false
set_option linter.unusedVariables false

/-- a slice of the reference's timers of the call's own -/
def OwnR (w : World) (base : Nat) (v : Value) (xs : List T2) : Prop := w.ownsRow base 108 2 v xs.length (xs.flatMap cellsT)
theorem OwnR.nil (w : World) (base : Nat) : OwnR w base (.slice none 0 0) [] := World.ownsRow_nil _ _ _ _
theorem OwnR.form {w : World} {base : Nat} {v : Value} {xs : List T2} (h : OwnR w base v xs) :
    (v = .slice none 0 0 ∧ xs = []) ∨ ∃ g cap, v = .slice (some ⟨g, 0, none⟩) xs.length cap ∧ base ≤ g ∧ g < w.heap.size ∧ xs.length ≤ cap ∧ cap ≤ maxLen := by
  rcases h.2 with ⟨e, h0⟩ | ⟨g, cap, cur, e, hb, hg, hc, hm, _⟩
  · exact .inl ⟨e, List.eq_nil_of_length_eq_zero h0⟩
  · exact .inr ⟨g, cap, e, hb, (Array.getElem?_eq_some_iff.1 hg).1, hc, hm⟩
theorem OwnR.slice {w : World} {base : Nat} {v : Value} {xs : List T2} (h : OwnR w base v xs) : ∃ A c, v = .slice A xs.length c ∧ xs.length ≤ c := by
  rcases h.form with ⟨rfl, rfl⟩ | ⟨g, cap, rfl, _, _, hc, _⟩
  · exact ⟨none, 0, rfl, Nat.le_refl _⟩
  · exact ⟨_, cap, rfl, hc⟩
theorem OwnR.grown {w w' : World} {base : Nat} {v : Value} {xs : List T2} {row : Option Nat} (h : OwnR w base v xs) (hg : w.grownBy w' row) (hne : v.ownBlock = none ∨ v.ownBlock ≠ row) : OwnR w' base v xs := World.ownsRow.kept h hg hne
theorem OwnR.later {w w' : World} {base : Nat} {v : Value} {xs : List T2} (h : OwnR w base v xs) (hB : Below w.heap.size w w') : OwnR w' base v xs := h.grown (row := none) (grown_of_below hB) (Classical.em _)
theorem OwnR.wide {w : World} {b b' : Nat} {v : Value} {xs : List T2} (h : OwnR w b v xs) (hb : b' ≤ b) : OwnR w b' v xs := by
  rcases h.2 with h0 | ⟨g', cap, cur, e, hb', hr'⟩
  · exact ⟨h.1, .inl h0⟩
  · exact ⟨h.1, .inr ⟨g', cap, cur, e, by omega, hr'⟩⟩
theorem OwnR.block {w : World} {base : Nat} {v : Value} {xs : List T2} (h : OwnR w base v xs) : ∀ k, v.ownBlock = some k → base ≤ k ∧ k < w.heap.size := by
  intro k hk
  rcases h.form with ⟨rfl, _⟩ | ⟨g, cap, rfl, h1, h2, _⟩
  · simp [Value.ownBlock] at hk
  · simp [Value.ownBlock] at hk
    omega
theorem OwnR.cell {w : World} {base g n cap : Nat} {xs : List T2} (h : OwnR w base (.slice (some ⟨g, 0, none⟩) n cap) xs) (i : Nat) (x : T2) (hx : xs[i]? = some x) :
    w.cell? ⟨g, i * 2, none⟩ = some (.int .i64 x.1) ∧ w.cell? ⟨g, i * 2 + 1, none⟩ = some (.int .i64 x.2) := by
  have h0 := World.ownsRow.cells h (g := g) rfl (2 * i + 0) (.int .i64 x.1) (by rw [flatT xs i 0 x hx (by omega)]; rfl)
  have h1 := World.ownsRow.cells h (g := g) rfl (2 * i + 1) (.int .i64 x.2) (by rw [flatT xs i 1 x hx (by omega)]; rfl)
  rw [addr_add] at h0 h1
  rw [show i * 2 = 2 * i + 0 by omega, show 2 * i + 0 + 1 = 2 * i + 1 by omega]
  exact ⟨h0, h1⟩
theorem infoR : (Try.prog.info? 108).map (fun i => (i.zero, i.size, i.bytes)) = some (some (.agg #[.int .i64 0, .int .i64 0]), 2, 16) := by kernel_rfl
/-- an append onto timers of the call's own -/
theorem appR_run {w : World} {base : Nat} {v : Value} {xs : List T2} (h : OwnR w base v xs) (b m c : Nat) (ys : List T2) (hm : ys.length = m) (hcells : ∀ j u, (ys.flatMap cellsT)[j]? = some u → w.cell? ⟨b, j, none⟩ = some u) (hl : (xs.length + m) * 16 ≤ 140737488355328) (hb : base ≤ w.heap.size) :
    ∃ v' w', (Builtin.append_ #[26, 26] 26 #[v, .slice (some ⟨b, 0, none⟩) m c]).run Try.prog w = .ok v' w' ∧ OwnR w' base v' (xs ++ ys) ∧ w.grownBy w' v.ownBlock ∧ (v'.ownBlock = v.ownBlock ∨ v'.ownBlock = some w.heap.size) := by
  obtain ⟨i, hi, hz, h1, h2⟩ := info_parts infoR
  obtain ⟨v', w', hrun, h3, h4, _, h5⟩ := run_append_own_at (P := Try.prog) w base 26 26 108 i _ 2 16 Try.underlying26 hi hz h1 h2 rfl (by decide) v _ _ h ⟨b, 0, none⟩ m c (ys.flatMap cellsT)
    (by rw [flat_length, hm]; omega) (fun j u hj => by rw [addr_add]; exact hcells j u hj) (flat_one ys) (by unfold maxLen; omega) (by omega) hb
  refine ⟨v', w', hrun, ?_, h4, h5⟩
  unfold OwnR
  rw [List.length_append, List.flatMap_append, hm]
  exact h3
/-- the reference's queue in a cell -/
structure Rq (W : World) (base g : Nat) (xs : List T2) (v : Value) : Prop where
  blk : Blk W g 28 [v]
  own : OwnR W base v xs
  ne : v.ownBlock ≠ some g
theorem Rq.later {w W : World} {base g : Nat} {xs : List T2} {v : Value} (h : Rq w base g xs v) (hB : Below w.heap.size w W) : Rq W base g xs v :=
  ⟨(hB.block g (Blk.lt h.blk)).trans h.blk, h.own.later hB, h.ne⟩
/-- where a number stands -/
def ix (id : Int) (xs : List T2) : Nat := xs.findIdx fun x => decide (x.1 = id)
def rf (id : Int) (xs : List T2) : Int := if ix id xs < xs.length then ix id xs else -1
theorem ix_none {id : Int} {xs : List T2} (h : ∀ x ∈ xs, x.1 ≠ id) : rf id xs = -1 := by
  have : ix id xs = xs.length := by
    unfold ix
    rw [List.findIdx_eq_length]
    intro x hx
    simpa using h x hx
  unfold rf
  rw [if_neg (by omega)]
theorem ix_at {id : Int} {xs : List T2} {k : Nat} {x : T2} (hx : xs[k]? = some x) (h : ∀ y ∈ xs.take k, y.1 ≠ id) (he : x.1 = id) : rf id xs = k := by
  obtain ⟨hk, rfl⟩ := List.getElem?_eq_some_iff.1 hx
  have h1 : ix id xs = k := by
    unfold ix
    rw [List.findIdx_eq hk]
    refine ⟨by simpa using he, fun j hj => ?_⟩
    have := h (xs[j]'(by omega)) (List.mem_take_iff_getElem.2 ⟨j, by omega, rfl⟩)
    simpa using this
  unfold rf
  rw [if_pos (by omega), h1]
theorem rtmfind_any (base g : Nat) (xs : List T2) (v : Value) (id : Int) (w : World) (h : Rq w base g xs v) (hm : xs.length ≤ 1152921504606846976) :
    Calls Try.prog 97 #[.pointer (some ⟨g, 0, none⟩), .int .i64 id] w fun e w' => e = .returned (.int .i64 (rf id xs)) ∧ Below w.heap.size w w' := by
  have hgl := Blk.lt h.blk
  have hc0 := h.blk.cell 0
  obtain ⟨A, c, rfl, hcl⟩ := h.own.slice
  obtain ⟨n, hn⟩ : ∃ n, xs.length = n := ⟨_, rfl⟩
  rw [hn] at hc0 hm hcl
  have HQ := Lib.hid h
  rw [hn] at HQ
  clear h
  go_enter Try.func97, Try.ntmps97
  go_wp2
  go_loopw [12] (fun i wr => ∃ k : Nat, k ≤ n ∧ i = .int .i64 k ∧ Below w.heap.size w wr ∧ ∀ y ∈ xs.take k, y.1 ≠ id) (fun i _ => n - (intOf i).toNat)
  case atStart => exact ⟨0, Nat.zero_le _, rfl, Below.refl _ _, fun y hy => by simp at hy⟩
  case round =>
    rename_i wr
    obtain ⟨k, hkn, rfl, hB, hno⟩ := hrel
    by_cases hlt : k < n
    · obtain ⟨x, hx⟩ : ∃ x, xs[k]? = some x := ⟨xs[k]'(by omega), List.getElem?_eq_getElem _⟩
      obtain ⟨gr, rfl⟩ : ∃ gr, A = some ⟨gr, 0, none⟩ := by
        rcases HQ.out.own.form with ⟨_, e⟩ | ⟨g', cap, e, _⟩
        · rw [e] at hx; simp at hx
        · injection e with e
          exact ⟨g', e⟩
      obtain ⟨c0, c1⟩ := (HQ.out.own.later hB).cell k x hx
      have hgr := ((HQ.out.own.later hB).block gr rfl).2
      have HX := Lib.hid hx
      have HN := Lib.hid hno
      have HBe := Lib.hid hB
      have HL := Lib.hid hn
      clear hno hx hB hn
      by_cases he : x.1 = id
      · have e1 : (x.1 == id) = true := by simpa using he
        go_wp2
        go_ret
        exact ⟨by rw [ix_at HX.out HN.out he]; rfl, HBe.out.alloc HBe.out.size _⟩
      · have e1 : (x.1 == id) = false := by simpa using he
        go_wp2
        go_roundw
        case rel =>
          refine ⟨k + 1, by omega, by go_num, HBe.out.alloc HBe.out.size _, fun y hy => ?_⟩
          rw [take_one_more HX.out] at hy
          rcases List.mem_append.1 hy with h | h
          · exact HN.out y h
          · rw [List.mem_singleton.1 h]; exact he
        case measure => simp [intOf]; omega
    · have hkn' : k = n := by omega
      subst hkn'
      rw [List.take_of_length_le (by omega)] at hno
      go_wp2
      go_ret
      exact ⟨by rw [ix_none hno]; rfl, hB⟩
end Go.Proofs.Ytdlnmhobhafobaa
