/-
  pap.Answer, answering.
-/
import Derived.Test.YtglboagjmbjehaaPaRq
import Derived.Laws.EntriesVeiled
namespace Go.Proofs.Ytglboagjmbjehaa
open Go.RowKit Go.Shelf
set_option maxRecDepth 100000
set_option maxHeartbeats 4000000
set_option linter.unusedSimpArgs false
set_option linter.unusedVariables false

def shc (c : UInt8) : Bool := decide (32 ≤ (c.toNat : Int)) && decide ((c.toNat : Int) ≤ 126)
def shB (s : ByteArray) : Bool := s.data.toList.all shc
theorem shc_ways (c : UInt8) : (shc c = false ∧ (c.toNat : Int) < 32) ∨ (shc c = false ∧ ¬ (c.toNat : Int) < 32 ∧ 126 < (c.toNat : Int)) ∨ (shc c = true ∧ ¬ (c.toNat : Int) < 32 ∧ ¬ 126 < (c.toNat : Int)) := by
  unfold shc
  by_cases h1 : (c.toNat : Int) < 32
  · refine .inl ⟨?_, h1⟩
    rw [decide_eq_false (by omega)]
    rfl
  · by_cases h2 : 126 < (c.toNat : Int)
    · refine .inr (.inl ⟨?_, h1, h2⟩)
      rw [decide_eq_false (p := (c.toNat : Int) ≤ 126) (by omega)]
      simp
    · refine .inr (.inr ⟨?_, h1, h2⟩)
      rw [decide_eq_true (p := 32 ≤ (c.toNat : Int)) (by omega), decide_eq_true (p := (c.toNat : Int) ≤ 126) (by omega)]
      rfl
theorem sh_no {s : ByteArray} {k : Nat} (hk : k < s.size) (h : shc s[k] = false) : shB s = false := by
  unfold shB
  rw [List.all_eq_false]
  exact ⟨s[k], by rw [← byteE s k hk]; exact List.getElem_mem _, by simp [h]⟩
theorem shown_any (s : ByteArray) (w : World) (hs : s.size ≤ maxLen) : Calls Try.prog 61 #[.string s] w fun e w' => e = .returned (.bool (shB s)) ∧ w = w' := by
  unfold maxLen at hs
  go_enter Try.func61, Try.ntmps61
  go_wp2
  go_loop [6] (fun i => ∃ k : Nat, k ≤ s.size ∧ i = .int .i64 k ∧ (s.data.toList.take k).all shc = true) (fun i => s.size - (intOf i).toNat)
  case atStart => exact ⟨0, Nat.zero_le _, rfl, by simp⟩
  case round =>
    obtain ⟨k, hk, rfl, hall⟩ := hrel
    by_cases hlt : k < s.size
    · have HA := Lib.hid hall
      clear hall
      rcases shc_ways s[k] with ⟨h, q⟩ | ⟨h, q1, q⟩ | ⟨h, q1, q2⟩
      case' inr.inr =>
        have HT : Hid ((s.data.toList.take (k + 1)).all shc = true) := by
          show _ = _
          rw [takeB s k hlt, List.all_append, HA.out, List.all_cons, h]
          rfl
        clear h
        go_wp2
        go_round
        case rel => exact ⟨k + 1, by omega, by go_num, HT.out⟩
        case measure => simp [intOf]; omega
      all_goals
        have hn := Lib.hid (sh_no hlt h)
        clear h
        go_wp2
        go_ret
        exact ⟨by rw [hn.out]; rfl, rfl⟩
    · obtain rfl : k = s.size := by omega
      rw [List.take_of_length_le (by simp)] at hall
      have hn : Hid (shB s = true) := hall
      clear hall
      go_wp2
      go_ret
      exact ⟨by rw [hn.out]; rfl, rfl⟩
theorem answer_yes (id : Int) (ok : Bool) (a : ByteArray) (w : World) (h0 : 0 ≤ id) (h1 : id ≤ 255) (ha : a.size ≤ 255) (hsh : shB a = true) :
    Calls Try.prog 69 #[.int .i64 id, .bool ok, .string a] w (PktR w (if ok then 2 else 3) id (jnL [a]) 0) := by
  have hid : idB id = true := by simp [idB, h0, h1]
  obtain ⟨V1, hV1⟩ : ∃ V, w.alloc (.cells #[.int .i64 0, .int .i64 0, .slice none 0 0] 38) = V := ⟨_, rfl⟩
  have hB1 : Below w.heap.size w V1 := by rw [← hV1]; exact (Below.refl _ _).alloc (Nat.le_refl _) _
  have hn1 : Blk V1 w.heap.size 38 [.int .i64 0, .int .i64 0, .slice none 0 0] := by rw [← hV1]; exact heap_alloc_new w _
  have z1 : V1.heap.size = w.heap.size + 1 := by rw [← hV1]; simp
  obtain ⟨V2, hV2⟩ : ∃ V, V1.alloc (.cells #[.string a] 9) = V := ⟨_, rfl⟩
  have hB2 : Below V1.heap.size V1 V2 := by rw [← hV2]; exact (Below.refl _ _).alloc (Nat.le_refl _) _
  have hn2 : Blk V2 V1.heap.size 9 [.string a] := by rw [← hV2]; exact heap_alloc_new V1 _
  have hsr : StrRd V2 V2.heap.size (some ⟨w.heap.size + 1, 0, none⟩) 1 [a] := by
    refine ⟨rfl, fun _ => ⟨w.heap.size + 1, 0, rfl, by have := Blk.lt hn2; omega, fun i s hs => ?_⟩⟩
    rw [z1] at hn2
    match i, hs with
    | 0, hs => rw [show s = a from by simpa using hs.symm]; exact hn2.cell 0
    | i + 1, hs => simp at hs
  have J := joined_any (some ⟨w.heap.size + 1, 0, none⟩) 1 1 V2.heap.size [a] V2 hsr (Nat.le_refl _) (by intro s hs; simp at hs; rw [hs]; exact ha) (by omega)
  obtain ⟨cd, hcd⟩ : ∃ cd : Int, (if ok then (2 : Int) else 3) = cd := ⟨_, rfl⟩
  rw [hcd]
  have C : Hid (Calls Try.prog 49 #[.slice (some ⟨w.heap.size + 1, 0, none⟩) 1 1] V2 fun e w3 => ∃ D k d, e = .returned (.slice D k d) ∧ w.heap.size < w3.heap.size ∧ Blk w3 w.heap.size 38 [.int .i64 0, .int .i64 0, .slice none 0 0] ∧
      ∀ W', w3.grownBy W' (some w.heap.size) → PktR w cd id (jnL [a]) 0 (.returned (.tuple #[.agg #[.int .i64 cd, .int .i64 id, .slice D k d], .int .i64 0])) W') := by
    refine J.mono ?_
    rintro e w3 ⟨D, k, d, rfl, ho, hb3⟩
    have z2 := hB2.size
    have z3 := hb3.size
    refine ⟨D, k, d, rfl, by omega, (hb3.block _ (by omega)).trans ((hB2.block _ (by omega)).trans hn1), fun W' g => ⟨((hB1.trans (hB2.mono (by omega))).trans (hb3.mono (by omega))).grown g (by omega) (fun q e => by cases e; exact Nat.le_refl _), D, k, d, rfl, ?_⟩⟩
    have hne : (Value.slice D k d).ownBlock = none ∨ (Value.slice D k d).ownBlock ≠ some w.heap.size := by
      rcases ho.form with ⟨e, _⟩ | ⟨g', cap, e, h2, _⟩
      · rw [e]; exact .inl rfl
      · rw [e]; refine .inr fun e2 => ?_
        simp [Value.ownBlock] at e2; omega
    have h4 := ho.grown g hne
    refine ⟨h4.1, ?_⟩
    rcases h4.2 with h | ⟨g', cap, cur, e1, e2, e3⟩
    · exact .inl h
    · exact .inr ⟨g', cap, cur, e1, by omega, e3⟩
  have HV1 := Lib.hid hV1
  have HV2 := Lib.hid hV2
  have s1 : ¬ (255 : Int) < (a.size : Int) := by omega
  have ID := Lib.hid (fun W => idRight_any id W)
  have SH := Lib.hid (fun W => shown_any a W (by unfold maxLen; omega))
  rw [hid] at ID
  rw [hsh] at SH
  clear J hsr hn1 hn2 hB1 hB2 hV1 hV2 hid hsh
  cases ok
  all_goals
    simp only [Bool.false_eq_true, if_false, if_true] at hcd
    subst hcd
    go_enter Try.func69, Try.ntmps69
    go_wp2_with (first
      | (rw [HV1.out])
      | (rw [HV2.out])
      | (go_at_call 48; ((with_reducible refine (ID.out _).mono ?_); rintro e w' ⟨rfl, rfl⟩))
      | (go_at_call 61; ((with_reducible refine (SH.out _).mono ?_); rintro e w' ⟨rfl, rfl⟩))
      | (go_at_call 49; ((with_reducible refine C.out.mono ?_); rintro e w3 ⟨D, k, d, rfl, z3, b2, c9⟩; have r0 := b2.cell 0; have r1 := b2.cell 1; have r2 := b2.cell 2; have g0 := b2.frozen 0; have g1 := b2.frozen 1; have g2 := b2.frozen 2; have C9 := Lib.hid c9; have B2 := Lib.hid b2; clear c9 b2)))
    have hb5 := fun cd : Int => blk3 (x := .int .i64 cd) (y := .int .i64 id) (z := .slice D k d) B2.out
    first
      | (have hb4 := hb5 3
         have y0 := hb4.cell 0
         have y1 := hb4.cell 1
         have y2 := hb4.cell 2
         exact bodyPost_ret (v := .tuple #[.agg #[.int .i64 3, .int .i64 id, .slice D k d], .int .i64 0]) (by simp [results, Try.results69, go_sem, y0, y1, y2]) rfl (C9.out _ (gset3 _ _ _ _ _)))
      | (have hb4 := hb5 2
         have y0 := hb4.cell 0
         have y1 := hb4.cell 1
         have y2 := hb4.cell 2
         exact bodyPost_ret (v := .tuple #[.agg #[.int .i64 2, .int .i64 id, .slice D k d], .int .i64 0]) (by simp [results, Try.results69, go_sem, y0, y1, y2]) rfl (C9.out _ (gset3 _ _ _ _ _)))
/-- what makes answers -/
def ansF (x y : Nat) : Value := .func (.func 68) #[] #[.pointer (some ⟨x, 0, none⟩), .pointer (some ⟨y, 0, none⟩)]
theorem answering_any (ok : Bool) (s : ByteArray) (w : World) : Calls Try.prog 55 #[.bool ok, .string s] w fun e w' => e = .returned (.func (.func 68) #[] #[.pointer (some ⟨w.heap.size, 0, none⟩), .pointer (some ⟨w.heap.size + 1, 0, none⟩)]) ∧ Blk w' w.heap.size 4 [.bool ok] ∧ Blk w' (w.heap.size + 1) 9 [.string s] ∧ Below w.heap.size w w' := by
  have hmf : ∀ (fn : Fn) (first cap : Array Value) (w : World), (Instr.makeFunc fn first cap).run Try.prog w = .ok (.func fn first cap) w := fun _ _ _ _ => rfl
  have P : Hid (Blk ((w.alloc (.cells #[.bool ok] 4)).alloc (.cells #[.string s] 9)) w.heap.size 4 [.bool ok] ∧ Blk ((w.alloc (.cells #[.bool ok] 4)).alloc (.cells #[.string s] 9)) (w.heap.size + 1) 9 [.string s] ∧ Below w.heap.size w ((w.alloc (.cells #[.bool ok] 4)).alloc (.cells #[.string s] 9))) := by
    refine ⟨(Below.heap_alloc _ _ _ (by simp)).trans (heap_alloc_new w _), ?_, ((Below.refl _ _).alloc (Nat.le_refl _) _).alloc (by simp) _⟩
    have h := heap_alloc_new (w.alloc (.cells #[.bool ok] 4)) (.cells #[.string s] 9)
    rw [World.size_alloc] at h
    exact h
  go_enter Try.func55, Try.ntmps55
  go_wp2
  go_ret
  exact ⟨rfl, P.out⟩
theorem answering1_any (id : Int) (ok : Bool) (a : ByteArray) (x y : Nat) (w : World) (h0 : 0 ≤ id) (h1 : id ≤ 255) (ha : a.size ≤ 255) (hsh : shB a = true) (hx : Blk w x 4 [.bool ok]) (hy : Blk w y 9 [.string a]) :
    Calls Try.prog 68 #[.int .i64 id, .pointer (some ⟨x, 0, none⟩), .pointer (some ⟨y, 0, none⟩)] w (PktR w (if ok then 2 else 3) id (jnL [a]) 0) := by
  have zx := Blk.lt hx
  have zy := Blk.lt hy
  obtain ⟨V1, hV1⟩ : ∃ V, w.alloc (.cells #[.int .i64 0, .int .i64 0, .slice none 0 0] 38) = V := ⟨_, rfl⟩
  have hB1 : Below w.heap.size w V1 := by rw [← hV1]; exact (Below.refl _ _).alloc (Nat.le_refl _) _
  have hn1 : Blk V1 w.heap.size 38 [.int .i64 0, .int .i64 0, .slice none 0 0] := by rw [← hV1]; exact heap_alloc_new w _
  have z1 := hB1.size
  have x0 : V1.cell? ⟨x, 0, none⟩ = some (.bool ok) := Blk.cell (show Blk V1 x 4 _ from (hB1.block _ zx).trans hx) 0
  have y0 : V1.cell? ⟨y, 0, none⟩ = some (.string a) := Blk.cell (show Blk V1 y 9 _ from (hB1.block _ zy).trans hy) 0
  obtain ⟨cd, hcd⟩ : ∃ cd : Int, (if ok then (2 : Int) else 3) = cd := ⟨_, rfl⟩
  have AN := answer_yes id ok a V1 h0 h1 ha hsh
  rw [hcd] at AN ⊢
  have C : Hid (Calls Try.prog 69 #[.int .i64 id, .bool ok, .string a] V1 fun e w3 => ∃ D k d, e = .returned (.tuple #[.agg #[.int .i64 cd, .int .i64 id, .slice D k d], .int .i64 0]) ∧ w.heap.size < w3.heap.size ∧ Blk w3 w.heap.size 38 [.int .i64 0, .int .i64 0, .slice none 0 0] ∧
      ∀ W', w3.grownBy W' (some w.heap.size) → PktR w cd id (jnL [a]) 0 (.returned (.tuple #[.agg #[.int .i64 cd, .int .i64 id, .slice D k d], .int .i64 0])) W') := by
    refine AN.mono ?_
    rintro e w3 ⟨hb3, D, k, d, rfl, ho⟩
    have z3 := hb3.size
    have zn := Blk.lt hn1
    refine ⟨D, k, d, rfl, by omega, (hb3.block _ zn).trans hn1, fun W' g => ⟨(hB1.trans (hb3.mono z1)).grown g (by omega) (fun q e => by cases e; exact Nat.le_refl _), D, k, d, rfl, ?_⟩⟩
    have hne : (Value.slice D k d).ownBlock = none ∨ (Value.slice D k d).ownBlock ≠ some w.heap.size := by
      rcases ho.form with ⟨e, _⟩ | ⟨g', cap, e, h2, _⟩
      · rw [e]; exact .inl rfl
      · rw [e]; refine .inr fun e2 => ?_
        simp [Value.ownBlock] at e2; omega
    have h4 := ho.grown g hne
    refine ⟨h4.1, ?_⟩
    rcases h4.2 with h | ⟨g', cap, cur, e1, e2, e3⟩
    · exact .inl h
    · exact .inr ⟨g', cap, cur, e1, by omega, e3⟩
  have HV1 := Lib.hid hV1
  clear AN hn1 hB1 hV1 hx hy hsh hcd
  go_enter Try.func68, Try.ntmps68
  go_wp2_with (first
    | (rw [HV1.out])
    | (go_at_call 69; ((with_reducible refine C.out.mono ?_); rintro e w3 ⟨D, k, d, rfl, z3, b2, c9⟩; have r0 := b2.cell 0; have r1 := b2.cell 1; have r2 := b2.cell 2; have g0 := b2.frozen 0; have g1 := b2.frozen 1; have g2 := b2.frozen 2; have C9 := Lib.hid c9; have B2 := Lib.hid b2; clear c9 b2)))
  have hb4 := blk3 (x := .int .i64 cd) (y := .int .i64 id) (z := .slice D k d) B2.out
  have q0 := hb4.cell 0
  have q1 := hb4.cell 1
  have q2 := hb4.cell 2
  exact bodyPost_ret (v := .tuple #[.agg #[.int .i64 cd, .int .i64 id, .slice D k d], .int .i64 0]) (by simp [results, Try.results68, go_sem, q0, q1, q2]) rfl (C9.out _ (gset3 _ _ _ _ _))
end Go.Proofs.Ytglboagjmbjehaa
