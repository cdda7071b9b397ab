/-
  octet's rings: Write, Peek, Drop, Read.
-/
import Derived.Test.YtdnheiefbecaeaaRing
import Derived.StillTailTactics
namespace Go.Proofs.Ytdnheiefbecaeaa
open Go.RowKit
set_option maxRecDepth 100000
set_option maxHeartbeats 2000000
set_option linter.unusedSimpArgs false
set_option linter.unusedVariables false

/-- a copy whose run is known, at a step of a region that draws its order -/
theorem step_cpy {w : World} {ops : Array Oper} {o : Oper} {a : Act} {K : Act → World → Prop} {Q : Exit → Act → World → Prop} {E : Prop} (hgd : o.guard = none) (s x : Operand)
    (ho : o.op = .call { callee := .builtin .copy, args := #[s, x], argTypes := #[27, 27] }) (v u : Value) (hs : a.eval s = v) (hx : a.eval x = u)
    (v' : Value) (w2 : World) (hrun : (Builtin.copy_ #[27, 27] o.type #[v, u]).run Try.prog w = .ok v' w2)
    (h : K (a.put o.dst v') w2) : if Region.wanted o (yielded ops a.tmps) = true then Oper.wp Try.prog o a w K Q else E := by
  have hw : Region.wanted o (yielded ops a.tmps) = true := by simp [Region.wanted, hgd]
  rw [if_pos hw]
  unfold Oper.wp execOp
  simp only [ho, resolve, invoke, builtin, Sem.run_bind, Sem.run_pure, Result.andThen_ok, List.map_toArray, List.map_cons, List.map_nil, hs, hx, hrun]
  exact h
/-- a copy whose run is known, as one step of a walk -/
theorem wpList_cpy {w : World} {ops : Array Oper} {rest : List Oper} {o : Oper} {a : Act} {Q : Exit → Act → World → Prop} (hgd : o.guard = none) (s x : Operand)
    (ho : o.op = .call { callee := .builtin .copy, args := #[s, x], argTypes := #[27, 27] }) (v u : Value) (hs : a.eval s = v) (hx : a.eval x = u)
    (v' : Value) (w2 : World) (hrun : (Builtin.copy_ #[27, 27] o.type #[v, u]).run Try.prog w = .ok v' w2)
    (h : wpList Try.prog ops Q rest (a.put o.dst v') w2) : wpList Try.prog ops Q (o :: rest) a w := by
  refine wpList_plain hgd fun K hK => ?_
  unfold Oper.wp execOp
  simp only [ho, resolve, invoke, builtin, Sem.run_bind, Sem.run_pure, Result.andThen_ok, List.map_toArray, List.map_cons, List.map_nil, hs, hx, hrun]
  exact hK _ _ h
theorem over_cells (cs : List UInt8) (o : Nat) (m : List UInt8) (k : Nat) (hk : k ≤ m.length) : (cs.map cellOf).take o ++ ((m.take k).map cellOf ++ (cs.map cellOf).drop (o + k)) = (over cs o (m.take k)).map cellOf := by
  unfold over
  rw [List.length_take, Nat.min_eq_left hk]
  simp only [List.map_append, List.map_take, List.map_drop]

theorem Rd.headk {w : World} {B n k : Nat} {A : Option Addr} {l : List UInt8} (h : Rd w B A n l) (hk : k ≤ n) : Rd w B A k (l.take k) := by
  have hl := h.1
  refine ⟨by rw [List.length_take]; omega, fun h0 => ?_⟩
  obtain ⟨b, off, rfl, hb, hc⟩ := h.2 (by omega)
  refine ⟨b, off, rfl, hb, fun j hj => ?_⟩
  rw [hc j (by omega)]
  congr 2
  unfold byteAt
  rw [List.getD_eq_getElem?_getD, List.getD_eq_getElem?_getD, List.getElem?_take_of_lt hj]
theorem around_lt {room f h : Nat} (hf : f < room) (hh : h ≤ room) : around room f h < room := by unfold around; split <;> omega

theorem ringwrite_any (g c room f h : Nat) (cs : List UInt8) (A : Option Addr) (n cap B : Nat) (l : List UInt8) (w : World) (r : RingAt w g c room f h cs) (hkeep : ∀ m, w.grownBy m (some c) → Rd m B A n l) (hn : n ≤ cap) (hcap : cap ≤ 9223372036854775807) (hnil : A = none → cap = 0)
    (k : Nat) (hk : (k = n ∧ n ≤ room - h) ∨ (k = room - h ∧ room - h < n)) :
    Calls Try.prog 7 #[.pointer (some ⟨g, 0, none⟩), .slice A n cap] w fun e w' => e = .returned (.int .i64 (k : Int)) ∧ (∃ cs', RingAt w' g c room f (h + k) cs' ∧ ringOf cs' f (h + k) = ringOf cs f h ++ l.take k) ∧
      ∃ m, w.grownBy m (some c) ∧ m.grownBy w' (some g) := by
  have hf := r.first
  have hh := r.held
  have hm := r.most
  have hcl := r.len
  have hgc := r.apart
  have hkn : k ≤ n := by omega
  have hkr : h + k ≤ room := by omega
  obtain ⟨a, ha⟩ : ∃ a, a = around room f h := ⟨_, rfl⟩
  have halt : a < room := by rw [ha]; exact around_lt hf hh
  obtain ⟨n1, hn1⟩ : ∃ n1, n1 = min k (room - a) := ⟨_, rfl⟩
  have RM := Lib.hid (ringroom_any g c room f h cs w r)
  have RR := Lib.hid r
  -- the worlds
  have key : ∀ q, ∃ w2, (Builtin.copy_ #[27, 27] 3 #[.slice (some ⟨c, a, none⟩) (room - a) (room - a), .slice A k cap]).run Try.prog (w.drewN (q + 1)) = .ok (goInt n1) w2 ∧
      Blk w2 c 5 ((over cs a ((l.take k).take n1)).map cellOf) ∧ w.grownBy w2 (some c) := by
    intro q
    obtain ⟨w2, r2, b2, g2⟩ := copy_run (w := (w.drewN (q + 1))) r.cells a (room - a) (room - a) cap ((hkeep w (World.grownBy.refl _ _)).headk hkn : Rd (w.drewN (q + 1)) B A k (l.take k)) n1 hn1 (by rw [List.length_map, hcl]; omega)
    have hl := (hkeep w (World.grownBy.refl _ _)).1
    rw [over_cells cs a (l.take k) n1 (by rw [List.length_take]; omega)] at b2
    exact ⟨w2, r2, b2, ⟨g2.os, g2.tape, g2.output, g2.size, g2.block⟩⟩
  have hl := (hkeep w (World.grownBy.refl _ _)).1
  have l1 : ((l.take k).take n1).length = n1 := by rw [List.length_take, List.length_take]; omega
  have lo1 : (over cs a ((l.take k).take n1)).length = room := by rw [over_length _ _ _ (by rw [l1, hcl]; omega), hcl]
  obtain ⟨A2, c2, hs2, _, hnil2, hc2⟩ := slice_from A k cap B n1 (l.take k) w ((hkeep w (World.grownBy.refl _ _)).headk hkn) (by omega) hnil (by omega)
  have key2 : ∀ w2, Blk w2 c 5 ((over cs a ((l.take k).take n1)).map cellOf) → w.grownBy w2 (some c) → ∃ w3, (Builtin.copy_ #[27, 27] 3 #[.slice (some ⟨c, 0, none⟩) room room, .slice A2 (k - n1) c2]).run Try.prog w2.drew = .ok (goInt ((k - n1 : Nat) : Int)) w3 ∧
      Blk w3 c 5 ((over (over cs a ((l.take k).take n1)) 0 ((l.take k).drop n1)).map cellOf) ∧ w.grownBy w3 (some c) := by
    intro w2 hb2 hg2
    obtain ⟨A3, c3, hs3, hr3, _, _⟩ := slice_from A k cap B n1 (l.take k) w2 ((hkeep w2 hg2).headk hkn) (by omega) hnil (by omega)
    have e := (hs2 w2).symm.trans (hs3 w2)
    injection e with e _
    injection e with e1 e2 e3
    subst e1 e3
    obtain ⟨w3, r3, b3, g3⟩ := copy_run (w := w2.drew) hb2 0 room room c2 (hr3 : Rd w2.drew B A2 (k - n1) ((l.take k).drop n1)) (k - n1) (by omega) (by rw [List.length_map, lo1]; omega)
    rw [over_cells _ 0 _ (k - n1) (by rw [List.length_drop, List.length_take]; omega), List.take_of_length_le (l := (l.take k).drop n1) (i := k - n1) (by rw [List.length_drop, List.length_take]; omega)] at b3
    exact ⟨w3, r3, b3, only_then hg2 (⟨g3.os, g3.tape, g3.output, g3.size, g3.block⟩ : w2.grownBy w3 (some c)) (fun i hi => .inl hi)⟩
  have fin : over (over cs a ((l.take k).take n1)) 0 ((l.take k).drop n1) = over (over cs (around cs.length f h) ((l.take k).take n1)) 0 ((l.take k).drop n1) := by rw [hcl, ← ha]
  have RW : Hid (ringOf (over (over cs a ((l.take k).take n1)) 0 ((l.take k).drop n1)) f (h + k) = ringOf cs f h ++ l.take k) := by
    show _ = _
    have hlk : (l.take k).length = k := by rw [List.length_take]; omega
    have := ringOf_write cs (l.take k) f h n1 (by omega) (by rw [hlk]; omega) (by rw [hlk, hcl, ← ha]; exact hn1) (.inl (by rw [hcl]; exact around_lt hf hh))
    rw [hlk] at this
    rw [fin]
    exact this
  have LN : Hid ((over (over cs a ((l.take k).take n1)) 0 ((l.take k).drop n1)).length = room) := by
    show _ = _
    rw [over_length _ _ _ (by rw [List.length_drop, List.length_take, lo1]; omega), lo1]
  have K1 := Lib.hid key
  have K2 := Lib.hid key2
  generalize over (over cs a ((l.take k).take n1)) 0 ((l.take k).drop n1) = cs' at *
  generalize over cs a ((l.take k).take n1) = cs1 at *
  have HA := Lib.hid ha
  have hkcap : (k : Int) ≤ (cap : Int) := by omega
  have hn1k : (n1 : Int) ≤ (k : Int) := by omega
  have haI : (a : Int) < (room : Int) := by omega
  have hra : ¬ room = a := by omega
  have haN : a ≤ room := by omega
  have hkN : n1 ≤ k := by omega
  clear key key2 fin l1 lo1 hl ha hn1 r hkeep hcl
  obtain ⟨R, hR⟩ : ∃ R, R = room - h := ⟨_, rfl⟩
  rw [← hR] at RM hk
  clear hR
  rcases hk with ⟨rfl, hk⟩ | ⟨rfl, hk⟩
  all_goals
    go_enter Try.func7, Try.ntmps7
    go_wp2_with fail
    refine (RM.out).mono ?_
    rintro e w1 ⟨rfl, q, rfl⟩
    obtain ⟨w2, r2, hb2, hg2⟩ := K1.out q
    obtain ⟨w3, r3, hb3, hg3⟩ := K2.out w2 hb2 hg2
    have CP1 := Lib.hid r2
    have CP2 := Lib.hid r3
    have G3 := Lib.hid hg3
    have B3 := Lib.hid hb3
    have CL := Lib.hid (fun q' => ringcell_any g c room f h h cs (w.drewN q') (RR.out.drewN q') (by omega))
    rw [← HA.out] at CL
    obtain ⟨c0, c1, c2'⟩ := RR.out.at0
    have d0 : (w.drewN q).cell? ⟨g, 0, none⟩ = some (.slice (some ⟨c, 0, none⟩) room room) := c0
    have d2 : (w.drewN q).cell? ⟨g, 2, none⟩ = some (.int .i64 (h : Int)) := c2'
    have e0 : w2.cell? ⟨g, 0, none⟩ = some (.slice (some ⟨c, 0, none⟩) room room) := (World.cell?_of_block (a := ⟨g, 0, none⟩) (hg2.block g RR.out.ring.lt (by simpa using hgc))).trans c0
    have hblk3 : Blk w3 g 41 [.slice (some ⟨c, 0, none⟩) room room, .int .i64 (f : Int), .int .i64 (h : Int)] := (hg3.block g RR.out.ring.lt (by simpa using hgc)).trans RR.out.ring
    have f2 : w3.cell? ⟨g, 2, none⟩ = some (.int .i64 (h : Int)) := hblk3.cell 2
    have f3 := hblk3.frozen 2
    have BK := Lib.hid (hblk3.set_ 2 (.int .i64 ((h : Int) + (k : Int))))
    clear r2 r3 hb2 hg2 hb3 hg3 hblk3
    go_wp2
    refine wp_region_still_tail 12 (by kernel_rfl) (by kernel_rfl) ?_
    simp only [List.take_succ_cons, List.take_zero, List.drop_succ_cons, List.drop_zero]
    change wpStill _ _ (w.drewN (q + 1)) _ _ _
    iterate 12 (first | still_step | still_call ((CL.out _).mono fun _ _ h => ⟨h.1, h.2.symm⟩))
    refine wpStill_nil ?_
    change wpList _ _ _ _ _ (w.drewN (q + 1))
    refine wpList_cpy rfl (.tmp 25) (.tmp 26) rfl _ _ rfl rfl _ _ CP1.out ?_
    go_wp2
    refine wp_region_still_tail 7 (by kernel_rfl) (by kernel_rfl) ?_
    simp only [List.take_succ_cons, List.take_zero, List.drop_succ_cons, List.drop_zero]
    change wpStill _ _ w2.drew _ _ _
    iterate 7 still_step
    refine wpStill_nil ?_
    change wpList _ _ _ _ _ w2.drew
    refine wpList_cpy rfl (.tmp 31) (.tmp 34) rfl _ _ rfl rfl _ _ CP2.out ?_
    go_wp2
    go_ret
    refine ⟨rfl, ⟨cs', ⟨?_, ((only_set (w := w3) (p := ⟨g, 2, none⟩) (.int .i64 ((h : Int) + (k : Int)))).block c B3.out.lt (by simpa using fun e => hgc e.symm)).trans B3.out, LN.out, hf, hkr, hm, hgc⟩, RW.out⟩, w3, G3.out, only_set _⟩
    rw [Int.natCast_add]
    exact BK.out
end Go.Proofs.Ytdnheiefbecaeaa
