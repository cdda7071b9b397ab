/-
  HdlcNil: the walk.
-/
import Derived.Test.YtmdlpbgelgeiaaaDoorHdNilW
import Derived.Test.YtmdlpbgelgeiaaaDoorHdKnown
namespace Go.Proofs.YtmdlpbgelgeiaaaDoor
open Go.RowKit Go.Shelf
set_option maxRecDepth 100000
set_option maxHeartbeats 4000000
set_option linter.unusedSimpArgs false
set_option linter.unusedVariables false
attribute [local go_sem] Oper.semAt_some

theorem reset_none (w : World) : Calls Tryd.prog 27 #[.pointer none] w fun e w' => e = .returned (.tuple #[]) ∧ w = w' := by
  go_enter Tryd.func27, Tryd.ntmps27
  go_wp2
  refine bodyPost_ret (results_none rfl _ _ _) rfl ?_
  exact ⟨rfl, rfl⟩
theorem eachU_none (A : Option Addr) (n c B : Nat) (l : List UInt8) (w : World) (hr : Rd w B A n l) (hB : B ≤ w.heap.size) (hnil : A = none → c = 0) (hn : n ≤ 140737488355328) :
    Calls Tryd.prog 33 #[.pointer none, .slice A n c] w fun e w' => ∃ g, e = .returned (.func (.func 50) #[] #[.pointer (some ⟨g + 1, 0, none⟩), .pointer (some ⟨g, 0, none⟩)]) ∧ w.heap.size ≤ g ∧ Blk w' (g + 1) 22 [.slice none 0 0] ∧ Below w.heap.size w w' := by
  have CC := Lib.hid (bclone_any A n c B l w hr hB hnil hn)
  clear hr hB hnil hn
  go_enter Tryd.func33, Tryd.ntmps33
  go_wp2_with fail
  refine CC.out.mono ?_
  rintro e w2 ⟨v, rfl, ho, hb⟩
  obtain ⟨A2, n2, c2, rfl⟩ : ∃ A n c, v = .slice A n c := by
    rcases ho.form with ⟨e, _⟩ | ⟨g, cap, e, _⟩
    · exact ⟨_, _, _, e⟩
    · exact ⟨_, _, _, e⟩
  have EC := Lib.hid (each_none A2 n2 c2 w2)
  have HB := Lib.hid hb
  clear ho hb
  go_wp2_with (go_at_call 46; refine EC.out.mono ?_; rintro e w3 ⟨rfl, rfl⟩)
  go_ret
  refine ⟨_, rfl, HB.out.size, ?_, (HB.out.alloc HB.out.size _).alloc (by have := HB.out.size; simp; omega) _⟩
  have h := blk_new (w2.alloc (.cells #[.pointer none] 45)) 22 [.slice none 0 0]
  rw [World.size_alloc] at h
  exact h
def ctV (s : LSt) : Value := .agg #[.int .i64 s.fr, .int .i64 s.ru, .int .i64 s.gi, .int .i64 s.su, .int .i64 s.ab, .int .i64 s.wr]
theorem ucounts_none (w : World) : Calls Tryd.prog 31 #[.pointer none] w fun e w' => e = .returned (ctV st0) ∧ Below w.heap.size w w' := by
  go_enter Tryd.func31, Tryd.ntmps31
  go_wp2
  exact bodyPost_ret (v := ctV st0) (by simp [results, Tryd.results31, go_sem, ctV, st0]) rfl ⟨rfl, (Below.refl _ _).alloc (Nat.le_refl _) _⟩
theorem seq_there (x y : Value) (W : World) : (binOp .neq 60 (.func (.func 50) #[] #[x, y]) .nilFunc).run Tryd.prog W = .ok (.bool true) W := by kernel_rfl
theorem hdlcnil_walk (A : Option Addr) (n c : Nat) (l : List UInt8) (w : World) (hr : Rd w w.heap.size A n l) (hnil : A = none → c = 0) (hn : n ≤ 140737488355328) (hT : Tab16 w) :
    Calls Tryd.prog 9 #[.slice A n c] w fun e w' => e = .returned (.bool true) ∧ Below w.heap.size w w' := by
  obtain ⟨Wa, hWa⟩ : ∃ Wa, w.alloc (.cells #[.int .i64 0] 3) = Wa := ⟨_, rfl⟩
  have sa : Wa.heap.size = w.heap.size + 1 := by rw [← hWa]; simp
  have ba : Below w.heap.size w Wa := by rw [← hWa]; exact (Below.refl _ _).alloc (Nat.le_refl _) _
  have ka : Blk Wa w.heap.size 3 [.int .i64 0] := by rw [← hWa]; exact blk_new w _ _
  have RC := Lib.hid (reset_none w)
  have EC := Lib.hid ((eachU_none A n c w.heap.size l Wa (hr.below ba) (by omega) hnil hn).mono (R' := fun e w' => ∃ g, e = .returned (.func (.func 50) #[] #[.pointer (some ⟨g + 1, 0, none⟩), .pointer (some ⟨g, 0, none⟩)]) ∧ Hid (w.heap.size < w'.heap.size) ∧ Hid (NnI w w.heap.size (g + 1) (.int .i64 0) 3 () w')) (by
    rintro e w' ⟨g, rfl, hg, hb, hB⟩
    refine ⟨g, rfl, ?_, (hB.block _ (by omega)).trans ka, hb, ba.trans (hB.mono (by omega))⟩
    have := hB.size
    show _ < _
    omega))
  rw [← hWa] at EC
  have HT := Lib.hid hT
  have NF := seq_there
  clear hWa sa ba ka hr hnil hn hT
  refine (callsIn_wide (n := 14)).1 ?_
  refine callsIn_of_wp_marks Tryd.func9 rfl trivial ?_ rfl
  simp only [Tryd.ntmps9, List.size_toArray, List.length_cons, List.length_nil, Nat.reduceAdd, Nat.reduceSub, Array.replicate_succ, Array.replicate_zero, List.push_toArray, List.append_toArray, List.nil_append, List.cons_append]
  gi_wp2_with (first
    | (refine ⟨trivial, ?_⟩; gi_at_call 27; refine (callsIn_wide.2 RC.out).mono ?_; rintro e w' ⟨rfl, rfl⟩)
    | (refine ⟨trivial, ?_⟩; gi_at_call 33; refine (callsIn_wide.2 EC.out).mono ?_; rintro e W0 ⟨g, rfl, HS0, H0⟩))
  have hs0 := HS0.out
  refine wpIn_rangeFunc_dir rfl (by omega) (gf := 50) (lb := #[.pointer (some ⟨g + 1, 0, none⟩), .pointer (some ⟨g, 0, none⟩)]) rfl trivial (enters_of Tryd.func50 (by kernel_rfl) rfl)
    (encs := fun x : Int × Option Addr × Nat × Nat => #[frV x.1 x.2.1 x.2.2.1 x.2.2.2]) (fun x => rfl)
    (NnI w w.heap.size (g + 1) (.int .i64 0) 3) (fun _ _ _ => False) (fun _ _ => False) (fun s _ => s) () (fun _ => True)
    (NnI.nocells (Nat.le_of_lt hs0)) (fun _ _ _ _ _ h _ _ => h) H0.out (fun _ _ _ _ => False) (fun _ _ _ _ _ _ _ h _ _ => h)
    ?assign9 ?body9 ?hit9 ?done9 ?stop9
  case assign9 =>
    rintro lp s x W K hi hok
    exact hok.elim
  case body9 =>
    rintro lp s x a' W hlp - hi hok
    exact hok.elim
  case hit9 =>
    rintro lp W1 R Rx hB1 hz1 hR hRx hY hI1 hR1
    refine (each1_none (n := 13) (by omega) lp (g + 1) g W1 (hI1.2.1.cell 0)).mono ?_
    rintro e W' ⟨hv, rfl⟩
    exact ⟨hv, .inl ⟨(), trivial, hI1, hR1⟩⟩
  case stop9 =>
    rintro D cc s W _ h _
    exact h.elim
  case done9 =>
    rintro D s W hD - ⟨h1, h2, h3⟩ hK
    have hlK := (Array.getElem?_eq_some_iff.1 hK).1
    have k0 : W.cell? ⟨w.heap.size, 0, none⟩ = some (.int .i64 0) := h1.cell 0
    have FC := (feed_none A n c W).mono (R' := fun e w2 => e = .returned (.slice none 0 0) ∧ w2.cell? ⟨w.heap.size, 0, none⟩ = some (.int .i64 0) ∧ Hid (Calls Tryd.prog 31 #[.pointer none] w2 fun e w3 => e = .returned (ctV st0) ∧ Hid (Calls Tryd.prog 30 #[ctV st0, .agg #[.int .i64 0, .int .i64 0, .int .i64 0, .int .i64 0, .int .i64 0, .int .i64 0]] w3 fun e w4 => e = .returned (.bool true) ∧ Hid (Calls Tryd.prog 21 #[] w4 fun e w5 => e = .returned (.bool true) ∧ w5.heap[D]? = some (.deferred (some [])) ∧ Hid (Below w.heap.size w w5))))) (by
      rintro e w2 ⟨rfl, b2⟩
      refine ⟨rfl, (b2.cell (p := ⟨w.heap.size, 0, none⟩) (Blk.lt h1)).trans k0, ?_⟩
      refine (ucounts_none w2).mono ?_
      rintro e w3 ⟨rfl, b3⟩
      refine ⟨rfl, ?_⟩
      refine (counts_yes 0 0 0 0 0 0 w3).mono ?_
      rintro e w4 ⟨rfl, b4⟩
      have s2 := b2.size
      have s3 := b3.size
      have s4 := b4.size
      have sw := h3.size
      have B4 : Below W.heap.size W w4 := (b2.trans (b3.mono (by omega))).trans (b4.mono (by omega))
      have BW : Below w.heap.size w w4 := h3.trans (B4.mono sw)
      refine ⟨rfl, ?_⟩
      refine (known_any w4 (HT.out.kept BW)).mono ?_
      rintro e w5 ⟨rfl, b5⟩
      exact ⟨rfl, (b5.block D (by omega)).trans ((B4.block D hlK).trans hK), BW.trans (b5.mono (by omega))⟩)
    have HF := Lib.hid FC
    clear h1 h2 h3 hK FC hlK k0
    gi_wp2_with (first
      | (refine ⟨trivial, ?_⟩; gi_at_call 28; refine (callsIn_wide.2 HF.out).mono ?_; rintro e w2 ⟨rfl, k0, CT⟩)
      | (refine ⟨trivial, ?_⟩; gi_at_call 31; refine (callsIn_wide.2 CT.out).mono ?_; rintro e w3 ⟨rfl, CC⟩)
      | (refine ⟨trivial, ?_⟩; gi_at_call 30; refine (callsIn_wide.2 CC.out).mono ?_; rintro e w4 ⟨rfl, KC⟩)
      | (refine ⟨trivial, ?_⟩; gi_at_call 21; refine (callsIn_wide.2 KC.out).mono ?_; rintro e w5 ⟨rfl, hK5, hB5⟩))
    refine ⟨by simp, .inl ⟨_, _, rfl, run_takeDeferred hK5, ?_⟩⟩
    exact ⟨_, results_tmp rfl _ _ _, rfl, hB5.out.grown (grownBy_putObj' w5 D _) hB5.out.size (fun k e => by cases e; omega)⟩
end Go.Proofs.YtmdlpbgelgeiaaaDoor
