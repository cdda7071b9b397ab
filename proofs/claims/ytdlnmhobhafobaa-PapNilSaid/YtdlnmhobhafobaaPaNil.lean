/-
  PapNil: what there is not.
-/
import Derived.Test.YtdlnmhobhafobaaPaSame
namespace Go.Proofs.Ytdlnmhobhafobaa
open Go.RowKit Go.Shelf
set_option maxRecDepth 100000
set_option maxHeartbeats 4000000
set_option linter.unusedSimpArgs false
set_option linter.unusedVariables false

theorem past {W W' : World} {o : Obj} {g t : Nat} {cs : List Value} (h : Blk W g t cs) (hb : Below (W.alloc o).heap.size (W.alloc o) W') : Blk W' g t cs :=
  (hb.block _ (by have := Blk.lt h; rw [World.size_alloc]; omega)).trans ((Below.heap_alloc _ _ _ (Blk.lt h)).trans h)
theorem past_new {W W' : World} {t : Nat} {cs : List Value} (hb : Below (W.alloc (.cells cs.toArray t)).heap.size (W.alloc (.cells cs.toArray t)) W') : Blk W' W.heap.size t cs :=
  (hb.block _ (by rw [World.size_alloc]; omega)).trans (heap_alloc_new W _)
theorem at_alloc {W : World} {g t : Nat} {cs : List Value} (h : Blk W g t cs) (o : Obj) : Blk (W.alloc o) g t cs := (Below.heap_alloc _ _ _ (Blk.lt h)).trans h
theorem past_same {W W' : World} {g t : Nat} {cs : List Value} (h : Blk W g t cs) (hb : Below W.heap.size W W') : Blk W' g t cs := (hb.block _ (Blk.lt h)).trans h
theorem step_al {w0 W W' : World} {o : Obj} (h : Below w0.heap.size w0 W) (b : Below (W.alloc o).heap.size (W.alloc o) W') : Below w0.heap.size w0 W' := (h.alloc h.size o).trans (b.mono (by have := h.size; rw [World.size_alloc]; omega))
theorem step_to {w0 W W' : World} (h : Below w0.heap.size w0 W) (b : Below W.heap.size W W') : Below w0.heap.size w0 W' := h.trans (b.mono h.size)
theorem papnil_walk (c i : Int) (A : Option Addr) (n d : Nat) (w : World) : Calls Try.prog 9 #[.agg #[.int .i64 c, .int .i64 i, .slice A n d]] w fun e w' => e = .returned (.bool true) ∧ Below w.heap.size w w' := by
  have TS := Lib.hid (fun W => snil_take c i A n d W)
  have PS := Lib.hid (fun W => pnil_send W)
  have PT := Lib.hid (fun W => pnil_take c i A n d W)
  have R1 := Lib.hid (fun W => snil_reset W)
  have R2 := Lib.hid (fun W => pnil_reset W)
  have T1 := Lib.hid (fun W => snil_state W)
  have T2 := Lib.hid (fun W => snil_who W)
  have T3 := Lib.hid (fun W => pnil_state W)
  have T4 := Lib.hid (fun W => pnil_message W)
  have AW := Lib.hid (fun W => awake_yes W)
  have SM : Hid (∀ W : World, Calls Try.prog 24 #[.agg #[.int .i64 0, .int .i64 0, .slice none 0 0], .agg #[.int .i64 0, .int .i64 0, .slice none 0 0]] W fun e w' => e = .returned (.bool true) ∧ Below W.heap.size W w') := by
    show ∀ W : World, Calls _ _ _ _ _
    intro W
    exact same_any 0 0 0 0 none none 0 0 0 0 W.heap.size [] [] W Rd.nil Rd.nil (Nat.le_refl _)
  go_enter Try.func9, Try.ntmps9
  go_wp2_with (first
    | (go_at_call 37; ((with_reducible refine (TS.out _).mono ?_); rintro e w1 ⟨rfl, b1⟩; have n1 := past_new (cs := [.int .i64 c, .int .i64 i, .slice A n d]) b1; have x0 : w1.cell? ⟨w.heap.size, 0, none⟩ = some (.int .i64 c) := n1.cell 0; have x1 : w1.cell? ⟨w.heap.size, 1, none⟩ = some (.int .i64 i) := n1.cell 1; have x2 : w1.cell? ⟨w.heap.size, 2, none⟩ = some (.slice A n d) := n1.cell 2; have tn := World.new_ne w1 _ x0; have N1 := Lib.hid n1; have F1 := Lib.hid (step_al (Below.refl w.heap.size w) b1); clear b1 n1))
    | (go_at_call 43; ((with_reducible refine (PS.out _).mono ?_); rintro e w2 ⟨rfl, b2⟩; have n2 := past N1.out b2; have n2' := at_alloc n2 (.cells #[.int .i64 0, .int .i64 0, .slice none 0 0] 43); have m2 := past_new (cs := [.int .i64 0, .int .i64 0, .slice none 0 0]) b2; have y0 : (w2.alloc (.cells #[.int .i64 0, .int .i64 0, .slice none 0 0] 43)).cell? ⟨w.heap.size, 0, none⟩ = some (.int .i64 c) := n2'.cell 0; have y1 : (w2.alloc (.cells #[.int .i64 0, .int .i64 0, .slice none 0 0] 43)).cell? ⟨w.heap.size, 1, none⟩ = some (.int .i64 i) := n2'.cell 1; have y2 : (w2.alloc (.cells #[.int .i64 0, .int .i64 0, .slice none 0 0] 43)).cell? ⟨w.heap.size, 2, none⟩ = some (.slice A n d) := n2'.cell 2; have M2 := Lib.hid m2; have F2 := Lib.hid (step_al F1.out b2); clear b2 n2 n2' m2))
    | (go_at_call 45; ((with_reducible refine (PT.out _).mono ?_); rintro e w3 ⟨rfl, b3⟩; have n3 := past M2.out b3; have m3 := past_new (cs := [.int .i64 0, .int .i64 0, .slice none 0 0]) b3; have z0 : w3.cell? ⟨w1.heap.size, 0, none⟩ = some (.int .i64 0) := n3.cell 0; have z1 : w3.cell? ⟨w1.heap.size, 1, none⟩ = some (.int .i64 0) := n3.cell 1; have z2 : w3.cell? ⟨w1.heap.size, 2, none⟩ = some (.slice none 0 0) := n3.cell 2; have tz := World.new_ne w3 _ z0; have M3 := Lib.hid m3; have F3 := Lib.hid (step_al F2.out b3); clear b3 n3 m3))
    | (go_at_call 35; ((with_reducible refine (R1.out _).mono ?_); rintro e w' ⟨rfl, rfl⟩))
    | (go_at_call 47; ((with_reducible refine (R2.out _).mono ?_); rintro e w' ⟨rfl, rfl⟩))
    | (go_at_call 39; ((with_reducible refine (T1.out _).mono ?_); rintro e w' ⟨rfl, rfl⟩))
    | (go_at_call 40; ((with_reducible refine (T2.out _).mono ?_); rintro e w' ⟨rfl, rfl⟩))
    | (go_at_call 49; ((with_reducible refine (T3.out _).mono ?_); rintro e w' ⟨rfl, rfl⟩))
    | (go_at_call 50; ((with_reducible refine (T4.out _).mono ?_); rintro e w' ⟨rfl, rfl⟩))
    | (go_at_call 24; ((with_reducible refine (SM.out _).mono ?_); rintro e w4 ⟨rfl, b4⟩; have m4 := past_same M3.out b4; have u0 : w4.cell? ⟨w2.heap.size, 0, none⟩ = some (.int .i64 0) := m4.cell 0; have u1 : w4.cell? ⟨w2.heap.size, 1, none⟩ = some (.int .i64 0) := m4.cell 1; have u2 : w4.cell? ⟨w2.heap.size, 2, none⟩ = some (.slice none 0 0) := m4.cell 2; have F4 := Lib.hid (step_to F3.out b4); clear b4 m4 M3))
    | (go_at_call 24; ((with_reducible refine (SM.out _).mono ?_); rintro e w6 ⟨rfl, b6⟩; have F6 := Lib.hid (step_to F4.out b6); clear b6))
    | (go_at_call 31; ((with_reducible refine (AW.out _).mono ?_); rintro e w5 ⟨rfl, b5⟩; have F5 := Lib.hid (step_to F6.out b5); clear b5)))
  go_ret
  exact ⟨rfl, F5.out⟩
end Go.Proofs.Ytdlnmhobhafobaa
