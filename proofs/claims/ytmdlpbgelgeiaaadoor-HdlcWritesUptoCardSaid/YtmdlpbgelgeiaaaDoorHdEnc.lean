/-
  hdlc.Escape, hdlc.Encode.
-/
import Derived.Test.YtmdlpbgelgeiaaaDoorHdBody
namespace Go.Proofs.YtmdlpbgelgeiaaaDoor
open Go.RowKit
set_option maxRecDepth 100000
set_option maxHeartbeats 2000000
set_option linter.unusedSimpArgs false
set_option linter.unusedVariables false

theorem escape_any (A : Option Addr) (n c : Nat) (l : List UInt8) (a : Int) (w : World) (hr : Rd w w.heap.size A n l) (hn : 2 * n ≤ 140737488355328) :
    Calls Tryd.prog 16 #[.slice A n c, .int .i64 a] w fun e w' => ∃ v, e = .returned (.tuple #[v, .int .i64 (if mapB a = true then 0 else 1)]) ∧ Own w' w.heap.size v (if mapB a = true then escL a l else []) ∧ Below w.heap.size w w' := by
  have MC := Lib.hid (mapRight_any a w)
  cases hm : mapB a
  · rw [hm] at MC
    have e1 : (if false = true then (0 : Int) else 1) = 1 := rfl
    have e2 : (if false = true then escL a l else []) = [] := rfl
    rw [e1, e2]
    clear e1 e2 hr
    go_enter Tryd.func16, Tryd.ntmps16
    go_wp2_with (go_at_call 38; refine MC.out.mono ?_; rintro e w' ⟨rfl, rfl⟩)
    go_ret2
    exact ⟨_, rfl, Own.nil _ _, Below.refl _ _⟩
  · rw [hm] at MC
    have hb : 0 ≤ a ∧ a < 4294967296 := by unfold mapB at hm; simp at hm; omega
    have EC := Lib.hid (escapeOn_any a hb.1 hb.2 (.slice none 0 0) w.heap.size [] A n c w.heap.size l w (Own.nil _ _) (Nat.le_refl _) hr (Nat.le_refl _) (by simp; omega))
    have e1 : (if true = true then (0 : Int) else 1) = 0 := rfl
    have e2 : (if true = true then escL a l else []) = escL a l := rfl
    rw [e1, e2]
    clear e1 e2 hr hm hb
    go_enter Tryd.func16, Tryd.ntmps16
    go_wp2_with (first
      | (go_at_call 38; refine MC.out.mono ?_; rintro e w' ⟨rfl, rfl⟩)
      | (go_at_call 36; refine EC.out.mono ?_; rintro e w' ⟨v', rfl, ho, hg, hu⟩; have HO := Lib.hid ho; have HG := Lib.hid hg; clear ho hg hu))
    go_ret2
    exact ⟨_, rfl, HO.out, ⟨HG.out.os, HG.out.tape, HG.out.output, HG.out.size, fun i hi => HG.out.block i hi (by simp [Value.ownBlock])⟩⟩

def accmOf (proto accm : Int) : Int := if proto = 49185 then 4294967295 else accm
def encL (proto accm : Int) (pfc acfc : Bool) (l : List UInt8) : List UInt8 := [126] ++ escL (accmOf proto accm) (bodyL proto pfc acfc l) ++ [126]
theorem encode_bad (proto : Int) (A : Option Addr) (n c : Nat) (accm : Int) (pfc acfc : Bool) (w : World) (he : bodyE proto n accm ≠ 0) :
    Calls Tryd.prog 11 #[.agg #[.int .i64 proto, .slice A n c], .agg #[.int .i64 accm, .bool pfc, .bool acfc]] w fun e w' => e = .returned (.tuple #[.slice none 0 0, .int .i64 (bodyE proto n accm)]) ∧ Below w.heap.size w w' := by
  obtain ⟨W1, hW1⟩ : ∃ W1, (w.alloc (.cells #[.int .i64 proto, .slice A n c] 24)).alloc (.cells #[.int .i64 accm, .bool pfc, .bool acfc] 31) = W1 := ⟨_, rfl⟩
  have B1 : Below w.heap.size w W1 := by rw [← hW1]; exact ((Below.refl _ _).alloc (Nat.le_refl _) _).alloc (by simp) _
  have BC := Lib.hid (body_bad proto A n c accm pfc acfc W1 he)
  have hne : (bodyE proto n accm != 0) = true := by simpa using he
  obtain ⟨y, hy⟩ : ∃ y, y = bodyE proto n accm := ⟨_, rfl⟩
  rw [← hy] at hne BC ⊢
  have HB := Lib.hid B1
  rw [← hW1] at BC HB
  clear hW1 B1 hy he
  go_enter Tryd.func11, Tryd.ntmps11
  go_wp2_with (go_at_call 14; refine BC.out.mono ?_; rintro e w' ⟨rfl, hb⟩; have H2 := Lib.hid hb; clear hb)
  go_ret2
  exact ⟨rfl, HB.out.trans (H2.out.mono (by simp; omega))⟩

theorem encode_ok (proto : Int) (A : Option Addr) (n c B : Nat) (l : List UInt8) (accm : Int) (pfc acfc : Bool) (w : World) (hr : Rd w B A n l) (hB : B ≤ w.heap.size) (hnil : A = none → c = 0) (hnc : n ≤ c) (he : bodyE proto n accm = 0) (hT : Tab16 w) :
    Calls Tryd.prog 11 #[.agg #[.int .i64 proto, .slice A n c], .agg #[.int .i64 accm, .bool pfc, .bool acfc]] w fun e w' => ∃ v, e = .returned (.tuple #[v, .int .i64 0]) ∧ Own w' w.heap.size v (encL proto accm pfc acfc l) ∧ Below w.heap.size w w' := by
  obtain ⟨hp, hn, hm⟩ := bodyE_ok he
  have hab : 0 ≤ accm ∧ accm < 4294967296 := by unfold mapB at hm; simp at hm; omega
  obtain ⟨W1, hW1⟩ : ∃ W1, (w.alloc (.cells #[.int .i64 proto, .slice A n c] 24)).alloc (.cells #[.int .i64 accm, .bool pfc, .bool acfc] 31) = W1 := ⟨_, rfl⟩
  have s1 : W1.heap.size = w.heap.size + 2 := by rw [← hW1]; simp
  have B1 : Below w.heap.size w W1 := by rw [← hW1]; exact ((Below.refl _ _).alloc (Nat.le_refl _) _).alloc (by simp) _
  have F1 : FrB W1 w proto A n c accm pfc acfc := by
    have a1 := blk_new w 24 [.int .i64 proto, .slice A n c]
    have a2 := blk_new (w.alloc (.cells #[.int .i64 proto, .slice A n c] 24)) 31 [.int .i64 accm, .bool pfc, .bool acfc]
    rw [World.size_alloc] at a2
    have a1' : Blk W1 w.heap.size 24 [.int .i64 proto, .slice A n c] := by rw [← hW1]; exact (Below.heap_alloc _ _ _ (by simp)).trans a1
    have a2' : Blk W1 (w.heap.size + 1) 31 [.int .i64 accm, .bool pfc, .bool acfc] := by rw [← hW1]; exact a2
    exact ⟨⟨a1'.cell 0, a1'.cell 1⟩, a2'.cell 0, a2'.cell 1, a2'.cell 2⟩
  have BC := Lib.hid (body_ok proto A n c B l accm pfc acfc W1 (hr.below (B1.mono hB)) (by omega) hnil hnc he (hT.kept B1))
  have HB1 := Lib.hid B1
  have HW := Lib.hid hW1
  have S1 := Lib.hid s1
  have HF := Lib.hid F1
  have z0 : w.heap.size < W1.heap.size := by omega
  have z1 : w.heap.size + 1 < W1.heap.size := by omega
  obtain ⟨⟨x0, x1⟩, x2, x3, x4⟩ := F1
  have hbl : (bodyL proto pfc acfc l).length ≤ 16390 := by
    have h1 := hdL_le proto pfc acfc
    have h2 := hr.1
    unfold bodyL sumd
    rw [List.length_append, List.length_append, low16_length]
    omega
  have HBL := Lib.hid hbl
  clear hW1 B1 s1 hr hT he hp hm hbl
  go_enter Tryd.func11, Tryd.ntmps11
  go_upto_region 1 with (fail)
  rw [HW.out]
  go_wp2_with fail
  refine BC.out.mono ?_
  rintro e w2 ⟨g, m, rfl, hm, ho2, hb2⟩
  have s2 := hb2.size
  have HM := Lib.hid hm
  have hrd := ho2.rd hm m (Nat.le_refl _)
  rw [hm, List.take_length, ← hm] at hrd
  have EC : Hid (∀ a, 0 ≤ a → a < 4294967296 → Calls Tryd.prog 36 #[.slice (some ⟨w2.heap.size, 0, none⟩) 1 1, .slice (some ⟨g, 0, none⟩) m m, .int .i64 a] (w2.alloc (.cells #[.int .u8 126] 5)) fun e w' => ∃ v' v4 w4, e = .returned v' ∧ (Builtin.append_ #[22, 22] 22 #[v', .slice (some ⟨w'.heap.size, 0, none⟩) 1 1]).run Tryd.prog (w'.alloc (.cells #[.int .u8 126] 5)) = .ok v4 w4 ∧ Own w4 w2.heap.size v4 ([126] ++ escL a (bodyL proto pfc acfc l) ++ [126]) ∧ Below w2.heap.size w2 w4) := by
    show ∀ a, _
    intro a a0 a1
    have hown : Own (w2.alloc (.cells #[.int .u8 126] 5)) w2.heap.size (.slice (some ⟨w2.heap.size, 0, none⟩) 1 1) [126] := own_of_blk (blk_new w2 5 [.int .u8 126]) (Nat.le_refl _) (by simp)
    refine (escapeOn_any a a0 a1 (.slice (some ⟨w2.heap.size, 0, none⟩) 1 1) w2.heap.size [126] _ m m w2.heap.size (bodyL proto pfc acfc l) _ hown (by simp) (hrd.alloc (Nat.le_refl _) _) (Nat.le_refl _) (by have := HBL.out; have := HM.out; simp; omega)).mono ?_
    rintro e w3 ⟨v', rfl, ho3, hg3, hu3⟩
    have hle := escL_le a (bodyL proto pfc acfc l)
    have s3 := hg3.size
    have b23 : Below w2.heap.size w2 w3 := ((Below.refl _ _).alloc (Nat.le_refl _) _).grown hg3 (by simp) (fun k hk => by simp [Value.ownBlock] at hk; omega)
    obtain ⟨v4, w4, r4, o4, g4, _⟩ := append_run (ho3.alloc (.cells #[.int .u8 126] 5)) 1 (rd_one w3 126 126 rfl) (by simp) (by have := HBL.out; simp only [List.length_append, List.length_singleton]; omega) (by simp at s3 ⊢; omega)
    exact ⟨v', v4, w4, rfl, r4, o4, (b23.alloc b23.size _).grown g4 (by simp at s3 ⊢; omega) (fun k hk => (ho3.block k hk).1)⟩
  have y0 : w2.cell? ⟨w.heap.size, 0, none⟩ = some (.int .i64 proto) := (HF.out.later S1.out hb2).1.1
  have y2 : w2.cell? ⟨w.heap.size + 1, 0, none⟩ = some (.int .i64 accm) := (HF.out.later S1.out hb2).2.1
  have H2 := Lib.hid hb2
  obtain ⟨a0, a1⟩ := hab
  clear hm ho2 hb2 hrd x0 x1 x2 x3 x4
  by_cases hl : proto = 49185
  · have hL : Hid (encL proto accm pfc acfc l = [126] ++ escL 4294967295 (bodyL proto pfc acfc l) ++ [126]) := by show _ = _; unfold encL accmOf; rw [if_pos hl]
    have E1 := Lib.hid (EC.out 4294967295 (by decide) (by decide))
    clear EC
    have hd : (proto == 49185) = true := by simpa using hl
    clear hl
    go_wp2_with (first
      | (go_at_call 36; refine E1.out.mono ?_; rintro e w3 ⟨v', v4, w4, rfl, r4, o4, b4⟩; have R4 := Lib.hid r4; have O4 := Lib.hid o4; have B4 := Lib.hid b4; clear r4 o4 b4)
      | (at_builtin; refine wpList_app rfl (.tmp 28) (.tmp 29) rfl _ _ rfl rfl _ _ R4.out ?_))
    go_ret2
    have z := S1.out
    exact ⟨_, rfl, by rw [hL.out]; exact own_lower O4.out (by omega), HB1.out.trans ((H2.out.mono (by omega)).trans (B4.out.mono (by omega)))⟩
  · have hL : Hid (encL proto accm pfc acfc l = [126] ++ escL accm (bodyL proto pfc acfc l) ++ [126]) := by show _ = _; unfold encL accmOf; rw [if_neg hl]
    have E1 := Lib.hid (EC.out accm a0 a1)
    clear EC
    have hd : (proto == 49185) = false := by simpa using hl
    clear hl
    go_wp2_with (first
      | (go_at_call 36; refine E1.out.mono ?_; rintro e w3 ⟨v', v4, w4, rfl, r4, o4, b4⟩; have R4 := Lib.hid r4; have O4 := Lib.hid o4; have B4 := Lib.hid b4; clear r4 o4 b4)
      | (at_builtin; refine wpList_app rfl (.tmp 28) (.tmp 29) rfl _ _ rfl rfl _ _ R4.out ?_))
    go_ret2
    have z := S1.out
    exact ⟨_, rfl, by rw [hL.out]; exact own_lower O4.out (by omega), HB1.out.trans ((H2.out.mono (by omega)).trans (B4.out.mono (by omega)))⟩
end Go.Proofs.YtmdlpbgelgeiaaaDoor
