/-
  tetherref03.Encode; tetherlaw03.send.
-/
import Derived.Test.YtmdlpbgelgeiaaaDoorHdRBody
import Derived.Test.YtmdlpbgelgeiaaaDoorHdFrm
namespace Go.Proofs.YtmdlpbgelgeiaaaDoor
open Go.RowKit
set_option maxRecDepth 100000
set_option maxHeartbeats 2000000
set_option linter.unusedSimpArgs false
set_option linter.unusedVariables false

theorem rencode_bad (proto : Int) (A : Option Addr) (n c : Nat) (accm : Int) (pfc acfc : Bool) (w : World) (he : bodyE proto n accm ≠ 0) :
    Calls Tryd.prog 13 #[.agg #[.int .i64 proto, .slice A n c], .agg #[.int .i64 accm, .bool pfc, .bool acfc]] w fun e w' => e = .returned (.tuple #[.slice none 0 0, .int .i64 (bodyE proto n accm)]) ∧ Below w.heap.size w w' := by
  obtain ⟨W1, hW1⟩ : ∃ W1, (w.alloc (.cells #[.int .i64 proto, .slice A n c] 24)).alloc (.cells #[.int .i64 accm, .bool pfc, .bool acfc] 26) = W1 := ⟨_, rfl⟩
  have B1 : Below w.heap.size w W1 := by rw [← hW1]; exact ((Below.refl _ _).alloc (Nat.le_refl _) _).alloc (by simp) _
  have BC := Lib.hid (rbody_bad proto A n c accm pfc acfc W1 he)
  have hne : (bodyE proto n accm != 0) = true := by simpa using he
  obtain ⟨y, hy⟩ : ∃ y, y = bodyE proto n accm := ⟨_, rfl⟩
  rw [← hy] at hne BC ⊢
  have HB := Lib.hid B1
  rw [← hW1] at BC HB
  clear hW1 B1 hy he
  go_enter Tryd.func13, Tryd.ntmps13
  go_wp2_with (go_at_call 15; refine BC.out.mono ?_; rintro e w' ⟨rfl, hb⟩; have H2 := Lib.hid hb; clear hb)
  go_ret2
  exact ⟨rfl, HB.out.trans (H2.out.mono (by simp; omega))⟩

theorem rencode_ok (proto : Int) (A : Option Addr) (n c B : Nat) (l : List UInt8) (accm : Int) (pfc acfc : Bool) (w : World) (hr : Rd w B A n l) (hB : B ≤ w.heap.size) (hnil : A = none → c = 0) (he : bodyE proto n accm = 0) :
    Calls Tryd.prog 13 #[.agg #[.int .i64 proto, .slice A n c], .agg #[.int .i64 accm, .bool pfc, .bool acfc]] w fun e w' => ∃ v, e = .returned (.tuple #[v, .int .i64 0]) ∧ Own w' w.heap.size v (encL proto accm pfc acfc l) ∧ Below w.heap.size w w' := by
  obtain ⟨hp, hn, hm⟩ := bodyE_ok he
  have hab : 0 ≤ accm ∧ accm < 4294967296 := by unfold mapB at hm; simp at hm; omega
  obtain ⟨W1, hW1⟩ : ∃ W1, (w.alloc (.cells #[.int .i64 proto, .slice A n c] 24)).alloc (.cells #[.int .i64 accm, .bool pfc, .bool acfc] 26) = W1 := ⟨_, rfl⟩
  have s1 : W1.heap.size = w.heap.size + 2 := by rw [← hW1]; simp
  have B1 : Below w.heap.size w W1 := by rw [← hW1]; exact ((Below.refl _ _).alloc (Nat.le_refl _) _).alloc (by simp) _
  have F1 : FrB W1 w proto A n c accm pfc acfc := by
    have a1 := blk_new w 24 [.int .i64 proto, .slice A n c]
    have a2 := blk_new (w.alloc (.cells #[.int .i64 proto, .slice A n c] 24)) 26 [.int .i64 accm, .bool pfc, .bool acfc]
    rw [World.size_alloc] at a2
    have a1' : Blk W1 w.heap.size 24 [.int .i64 proto, .slice A n c] := by rw [← hW1]; exact (Below.heap_alloc _ _ _ (by simp)).trans a1
    have a2' : Blk W1 (w.heap.size + 1) 26 [.int .i64 accm, .bool pfc, .bool acfc] := by rw [← hW1]; exact a2
    exact ⟨⟨a1'.cell 0, a1'.cell 1⟩, a2'.cell 0, a2'.cell 1, a2'.cell 2⟩
  have BC := Lib.hid (rbody_ok proto A n c B l accm pfc acfc W1 (hr.below (B1.mono hB)) (by omega) hnil he)
  have HB1 := Lib.hid B1
  have HW := Lib.hid hW1
  have S1 := Lib.hid s1
  have HF := Lib.hid F1
  have z0 : w.heap.size < W1.heap.size := by omega
  have z1 : w.heap.size + 1 < W1.heap.size := by omega
  obtain ⟨⟨x0, x1⟩, x2, x3, x4⟩ := F1
  have hbl : 2 ≤ (bodyL proto pfc acfc l).length ∧ (bodyL proto pfc acfc l).length ≤ 16390 := by
    have h1 := hdL_le proto pfc acfc
    have h2 := hr.1
    unfold bodyL sumd
    rw [List.length_append, List.length_append, low16_length]
    omega
  have HBL := Lib.hid hbl
  clear hW1 B1 s1 hr he hp hm hbl
  go_enter Tryd.func13, Tryd.ntmps13
  go_upto_region 1 with (fail)
  rw [HW.out]
  go_wp2_with fail
  refine BC.out.mono ?_
  rintro e w2 ⟨v, rfl, ho2, hb2⟩
  have s2 := hb2.size
  obtain ⟨g, cap, rfl, _, hg, hcap⟩ : ∃ g cap, v = .slice (some ⟨g, 0, none⟩) (bodyL proto pfc acfc l).length cap ∧ W1.heap.size ≤ g ∧ g < w2.heap.size ∧ (bodyL proto pfc acfc l).length ≤ cap := by
    rcases ho2.form with ⟨_, e⟩ | h
    · have := HBL.out.1; rw [e] at this; simp at this
    · exact h
  obtain ⟨m, hm⟩ : ∃ m, m = (bodyL proto pfc acfc l).length := ⟨_, rfl⟩
  rw [← hm] at ho2 hcap ⊢
  have hrd := ho2.rd hm m (Nat.le_refl _)
  rw [hm, List.take_length, ← hm] at hrd
  have EC : Hid (∀ a, 0 ≤ a → a < 4294967296 → Calls Tryd.prog 17 #[.slice (some ⟨g, 0, none⟩) m cap, .int .i64 a] w2 fun e w3 => ∃ A3 n3 c3 v5 w5 v6 w6, e = .returned (.tuple #[.slice A3 n3 c3, .int .i64 0]) ∧ (Builtin.append_ #[22, 22] 22 #[.slice (some ⟨w3.heap.size, 0, none⟩) 1 1, .slice A3 n3 c3]).run Tryd.prog (w3.alloc (.cells #[.int .u8 126] 5)) = .ok v5 w5 ∧ (Builtin.append_ #[22, 22] 22 #[v5, .slice (some ⟨w5.heap.size, 0, none⟩) 1 1]).run Tryd.prog (w5.alloc (.cells #[.int .u8 126] 5)) = .ok v6 w6 ∧ Own w6 w2.heap.size v6 ([126] ++ escL a (bodyL proto pfc acfc l) ++ [126]) ∧ Below w2.heap.size w2 w6) := by
    show ∀ a, _
    intro a a0 a1
    have hmb : mapB a = true := by unfold mapB; simp; omega
    have h := rescape_any (some ⟨g, 0, none⟩) m cap (bodyL proto pfc acfc l) a w2 hrd (by have := HBL.out; omega)
    rw [hmb] at h
    refine h.mono ?_
    rintro e w3 ⟨v3, rfl, ho3, hb3⟩
    replace ho3 : Own w3 w2.heap.size v3 (escL a (bodyL proto pfc acfc l)) := ho3
    have hle := escL_le a (bodyL proto pfc acfc l)
    have hll := HBL.out
    obtain ⟨A3, n3, c3, rfl⟩ : ∃ A n c, v3 = .slice A n c := by
      rcases ho3.form with ⟨e, _⟩ | ⟨g, cap, e, _⟩
      · exact ⟨_, _, _, e⟩
      · exact ⟨_, _, _, e⟩
    obtain ⟨f1, f2, f3⟩ := ho3.lenF
    have hown : Own (w3.alloc (.cells #[.int .u8 126] 5)) w3.heap.size (.slice (some ⟨w3.heap.size, 0, none⟩) 1 1) [126] := own_of_blk (blk_new w3 5 [.int .u8 126]) (Nat.le_refl _) (by simp)
    obtain ⟨v5, w5, r5, o5, g5, _⟩ := append_run hown c3 (ho3.rdAllF.alloc (Nat.le_refl _) (.cells #[.int .u8 126] 5)) f2 (by simp; omega) (by simp)
    have b35 : Below w3.heap.size w3 w5 := ((Below.refl _ _).alloc (Nat.le_refl _) _).grown g5 (by simp) (fun k hk => by simp [Value.ownBlock] at hk; omega)
    obtain ⟨v6, w6, r6, o6, g6, _⟩ := append_run (o5.alloc (.cells #[.int .u8 126] 5)) 1 (rd_one w5 126 126 rfl) (by simp) (by simp only [List.length_append, List.length_singleton]; omega) (by have := b35.size; simp; omega)
    have b36 : Below w3.heap.size w3 w6 := (b35.alloc b35.size _).grown g6 (by have := b35.size; simp; omega) (fun k hk => (o5.block k hk).1)
    have t3 := hb3.size
    exact ⟨A3, n3, c3, v5, w5, v6, w6, rfl, r5, r6, own_lower o6 t3, hb3.trans (b36.mono t3)⟩
  have y0 : w2.cell? ⟨w.heap.size, 0, none⟩ = some (.int .i64 proto) := (HF.out.later S1.out hb2).1.1
  have y2 : w2.cell? ⟨w.heap.size + 1, 0, none⟩ = some (.int .i64 accm) := (HF.out.later S1.out hb2).2.1
  have H2 := Lib.hid hb2
  obtain ⟨a0, a1⟩ := hab
  clear hm ho2 hb2 hrd x0 x1 x2 x3 x4
  by_cases hl : proto = 49185
  · have hL : Hid (encL proto accm pfc acfc l = [126] ++ escL 4294967295 (bodyL proto pfc acfc l) ++ [126]) := by show _ = _; unfold encL accmOf; rw [if_pos hl]
    have E1 := Lib.hid (EC.out 4294967295 (by decide) (by decide))
    clear EC
    have hd : (proto == 49185) = true := by simpa using hl
    clear hl
    go_wp2_with (first
      | (go_at_call 17; refine E1.out.mono ?_; rintro e w3 ⟨A3, n3, c3, v5, w5, v6, w6, rfl, r5, r6, o6, b6⟩; have R5 := Lib.hid r5; have R6 := Lib.hid r6; have O6 := Lib.hid o6; have B6 := Lib.hid b6; clear r5 r6 o6 b6)
      | (at_builtin; refine wpList_app rfl (.tmp 31) (.tmp 32) rfl _ _ rfl rfl _ _ R5.out ?_)
      | (at_builtin; refine wpList_app rfl (.tmp 34) (.tmp 35) rfl _ _ rfl rfl _ _ R6.out ?_))
    go_ret2
    have z := S1.out
    exact ⟨_, rfl, by rw [hL.out]; exact own_lower O6.out (by omega), HB1.out.trans ((H2.out.mono (by omega)).trans (B6.out.mono (by omega)))⟩
  · have hL : Hid (encL proto accm pfc acfc l = [126] ++ escL accm (bodyL proto pfc acfc l) ++ [126]) := by show _ = _; unfold encL accmOf; rw [if_neg hl]
    have E1 := Lib.hid (EC.out accm a0 a1)
    clear EC
    have hd : (proto == 49185) = false := by simpa using hl
    clear hl
    go_wp2_with (first
      | (go_at_call 17; refine E1.out.mono ?_; rintro e w3 ⟨A3, n3, c3, v5, w5, v6, w6, rfl, r5, r6, o6, b6⟩; have R5 := Lib.hid r5; have R6 := Lib.hid r6; have O6 := Lib.hid o6; have B6 := Lib.hid b6; clear r5 r6 o6 b6)
      | (at_builtin; refine wpList_app rfl (.tmp 31) (.tmp 32) rfl _ _ rfl rfl _ _ R5.out ?_)
      | (at_builtin; refine wpList_app rfl (.tmp 34) (.tmp 35) rfl _ _ rfl rfl _ _ R6.out ?_))
    go_ret2
    have z := S1.out
    exact ⟨_, rfl, by rw [hL.out]; exact own_lower O6.out (by omega), HB1.out.trans ((H2.out.mono (by omega)).trans (B6.out.mono (by omega)))⟩
theorem send_any (accm : Int) (pfc acfc : Bool) (w : World) :
    Calls Tryd.prog 12 #[.agg #[.int .i64 accm, .bool pfc, .bool acfc]] w fun e w' => e = .returned (.agg #[.int .i64 accm, .bool pfc, .bool acfc]) ∧ Below w.heap.size w w' := by
  obtain ⟨W1, hW1⟩ : ∃ W1, (w.alloc (.cells #[.int .i64 accm, .bool pfc, .bool acfc] 26)).alloc (.cells #[.int .i64 0, .bool false, .bool false] 31) = W1 := ⟨_, rfl⟩
  have B1 : Below w.heap.size w W1 := by rw [← hW1]; exact ((Below.refl _ _).alloc (Nat.le_refl _) _).alloc (by simp) _
  have a1 : Blk W1 w.heap.size 26 [.int .i64 accm, .bool pfc, .bool acfc] := by rw [← hW1]; exact (Below.heap_alloc _ _ _ (by simp)).trans (blk_new w _ _)
  have a2 : Blk W1 (w.heap.size + 1) 31 [.int .i64 0, .bool false, .bool false] := by
    have h := blk_new (w.alloc (.cells #[.int .i64 accm, .bool pfc, .bool acfc] 26)) 31 [.int .i64 0, .bool false, .bool false]
    rw [World.size_alloc] at h
    rw [← hW1]; exact h
  have x0 := a1.cell 0
  have x1 := a1.cell 1
  have x2 := a1.cell 2
  have y0 := a2.cell 0
  have y1 := a2.cell 1
  have y2 := a2.cell 2
  have f0 := a2.frozen 0
  have f1 := a2.frozen 1
  have f2 := a2.frozen 2
  have q := ((a2.set_ 0 (.int .i64 accm)).set_ 1 (.bool pfc)).set_ 2 (.bool acfc)
  have q0 := q.cell 0
  have q1 := q.cell 1
  have q2 := q.cell 2
  have HW := Lib.hid hW1
  have BB : Hid (Below w.heap.size w (((W1.setCell ⟨w.heap.size + 1, 0, none⟩ (.int .i64 accm)).setCell ⟨w.heap.size + 1, 1, none⟩ (.bool pfc)).setCell ⟨w.heap.size + 1, 2, none⟩ (.bool acfc))) :=
    ((B1.setCell (p := ⟨w.heap.size + 1, 0, none⟩) (by show _ ≤ w.heap.size + 1; omega) _).setCell (p := ⟨w.heap.size + 1, 1, none⟩) (by show _ ≤ w.heap.size + 1; omega) _).setCell (p := ⟨w.heap.size + 1, 2, none⟩) (by show _ ≤ w.heap.size + 1; omega) _
  clear hW1 B1 a1 a2 q
  go_enter Tryd.func12, Tryd.ntmps12
  go_upto_region 1 with (fail)
  rw [HW.out]
  go_wp2
  exact bodyPost_ret (v := .agg #[.int .i64 accm, .bool pfc, .bool acfc]) (by simp [results, Tryd.results12, go_sem, q0, q1, q2]) rfl ⟨rfl, BB.out⟩
end Go.Proofs.YtmdlpbgelgeiaaaDoor
