/-
  (*md5.Stream).Write: the walk where at least one block is filled up.
-/
import Derived.Test.YtnlhjlmjbmaipaaDoorMdWriteW
import Derived.Test.YtnlhjlmjbmaipaaDoorMdTakeW
import Derived.Deep.RegionWith
namespace Go.Proofs.YtnlhjlmjbmaipaaDoor
open Go.RowKit
set_option maxRecDepth 100000
set_option maxHeartbeats 2000000
set_option linter.unusedSimpArgs false
set_option linter.unusedVariables false

theorem slice_from2 (A : Option Addr) (n c B k : Nat) (l : List UInt8) (w : World) (hr : Rd w B A n l) (hc : n ≤ c) (hnil : A = none → c = 0) (hk : k ≤ n) :
    ∃ A' c', (∀ W, (Instr.slice 25 (.slice A n c) (some (.int .i64 (k : Int))) none none).run Tryd.prog W = .ok (.slice A' (n - k) c') W) ∧ Rd w B A' (n - k) (l.drop k) ∧ (A' = none → c' = 0) ∧ n - k ≤ c' ∧
      ∀ x o, A' = some ⟨x, o, none⟩ → 0 < n - k → ∃ o', A = some ⟨x, o', none⟩ := by
  obtain ⟨A', c', h1, h2, h3, h4⟩ := slice_from A n c B k l w hr hc hnil hk
  refine ⟨A', c', h1, h2, h3, h4, fun x o e h0 => ?_⟩
  have hrun : ∀ W, (Instr.slice 25 (.slice A n c) (some (.int .i64 (k : Int))) none none).run Tryd.prog W = .ok (sliced A k n c 1) W := by
    intro W
    rw [run_slice_l W 25 _ _ _ (by rw [slice_elem]; exact Tryd.underlying25) .i64 _ (by omega) (by omega), slice_elem, byte_sizeOf]
    rfl
  have e2 : (sliced A k n c 1) = .slice A' (n - k) c' := by
    have h := (hrun w).symm.trans (h1 w)
    injection h
  obtain ⟨b, off, rfl, hb, hcell⟩ := hr.2 (by omega)
  have e3 : A' = if c = k then some ⟨b, off, none⟩ else (some (⟨b, off, none⟩ : Addr)).map (·.add (k * 1)) := by
    unfold sliced at e2
    injection e2 with e2
    exact e2.symm
  rw [if_neg (by omega)] at e3
  rw [e3] at e
  injection e with e
  unfold Addr.add at e
  split at e
  · injection e with e _ _
    exact ⟨off, by rw [← e]⟩
  · injection e with e _ _
    exact ⟨off, by rw [← e]⟩
theorem rd_frm {w w' : World} {g B nn : Nat} {v v' : Value} {A : Option Addr} {m : List UInt8} (hr : Rd w B A nn m) (hf : Frm g v v' w w') (hB : B ≤ w.heap.size) (hA : ∀ x o, A = some ⟨x, o, none⟩ → 0 < nn → x ≠ g ∧ v.ownBlock ≠ some x) : Rd w' B A nn m := by
  refine ⟨hr.1, fun h0 => ?_⟩
  obtain ⟨b, off, e, hb, hc⟩ := hr.2 h0
  obtain ⟨a1, a2⟩ := hA b off e h0
  exact ⟨b, off, e, hb, fun j hj => (World.cell?_of_block (w := w) (a := ⟨b, off + j, none⟩) (hf.block b (by omega) a1 a2)).trans (hc j hj)⟩
theorem frm_apart {g x : Nat} {v v' : Value} {w w' : World} (hf : Frm g v v' w w') (hx : x < w.heap.size) (h : v.ownBlock ≠ some x) : v'.ownBlock ≠ some x := by
  intro e
  rcases hf.own with e' | ⟨k, e', hk⟩
  · exact h (e'.symm.trans e)
  · rw [e'] at e
    injection e with e
    omega

theorem write_long (base g nn c B : Nat) (l m : List UInt8) (v : Value) (A : Option Addr) (w : World) (h : Stm w base g l v) (hr : Rd w B A nn m) (hB : B ≤ w.heap.size) (hc : nn ≤ c) (hnil : A = none → c = 0) (hg : ∀ x o, A = some ⟨x, o, none⟩ → 0 < nn → x ≠ g ∧ v.ownBlock ≠ some x)
    (hm : l.length + nn ≤ 140737488351000) (hge : 64 ≤ l.length % 64 + nn) (hb : base ≤ w.heap.size) (hbg : base ≤ g) (hK : TabK w) (hS : TabS w) (hk0 : 0 < base) (hs0 : 1 < base) :
    Calls Tryd.prog 8 #[.pointer (some ⟨g, 0, none⟩), .slice A nn c] w fun e w' => e = .returned (.int .i64 0) ∧ ∃ v', Stm w' base g (l ++ m) v' ∧ Frm g v v' w w' := by
  obtain ⟨rest, hst, hrest⟩ := h
  have hl := hr.1
  have hr64 := Nat.mod_lt l.length (show 0 < 64 by omega)
  obtain ⟨k, hk⟩ : ∃ k, k = 64 - l.length % 64 := ⟨_, rfl⟩
  have hvb := hst.ownB
  obtain ⟨w2, hcp, hst2, hg2⟩ := write_first (c := c) hst hr (fun x o e h0 => (hg x o e h0).1) hr64 (k := k) (by omega)
  have h64 := hst.len
  have erest : rest.take (l.length % 64) ++ (m.take k ++ rest.drop (l.length % 64 + k)) = restOf l ++ m.take k := by
    rw [hrest, List.drop_of_length_le (by omega), List.append_nil]
  rw [erest] at hst2
  have hf2 : Frm g v v w w2 := (Frm.refl g v w).grownG hg2
  have hB2 : Below base w w2 := hf2.below hb hbg (fun k e => (hvb k e).1)
  have hwl : (wordsAll l).length ≤ l.length / 64 := by rw [wordsAll_length]; exact Nat.le_refl _
  have hs2 := hf2.size
  -- the block that is filled up
  have T1 := callsIn_wide.1 (take_in base g (l.length + nn) 64 64 w2.heap.size (wordsAll l) (restOf l ++ m.take k) v (some ⟨g, 1, none⟩) (restOf l ++ m.take k) w2 hst2 (by omega) hst2.rd (Nat.le_refl _) (Nat.le_refl _) (fun h => nomatch h) (by omega)
    (fun x o e h0 => by cases e; exact ⟨hst.ne, fun _ => Nat.le_refl _⟩) (hK.keptB hB2 hk0) (hS.keptB hB2 hs0) hbg hk0 hs0)
  rw [show 64 / 64 = 1 from rfl, ← wordsAll_fill l (m.take k) (by rw [List.length_take]; omega)] at T1
  obtain ⟨A', c', hs3, hr3, hn3, hc3, hA3⟩ := slice_from2 A nn c B k m w hr hc hnil (by omega)
  obtain ⟨q, hq⟩ : ∃ q, q = (nn - k) - (nn - k) % 64 := ⟨_, rfl⟩
  obtain ⟨A'', c'', hs4, hr4, hn4, hc4, hA4⟩ := slice_from2 A' (nn - k) c' B q (m.drop k) w hr3 hc3 hn3 (by omega)
  have hL1 : (l ++ m.take k).length % 64 = 0 := by rw [List.length_append, List.length_take]; omega
  have hL2 : l ++ m = (l ++ m.take k) ++ m.drop k := by rw [List.append_assoc, List.take_append_drop]
  -- the rest
  have T2 : Hid (∀ (v1 : Value) (w3 : World), St w3 base g (wordsAll (l ++ m.take k)) (restOf l ++ m.take k) (l.length + nn) v1 → Frm g v v1 w2 w3 →
      Calls Tryd.prog 19 #[.pointer (some ⟨g, 0, none⟩), .slice A' (nn - k) c'] w3 fun e w' => e = .returned (.tuple #[]) ∧ ∃ v', St w' base g (wordsAll (l ++ m)) (restOf l ++ m.take k) (l.length + nn) v' ∧ Frm g v v' w w') := by
    show ∀ (v1 : Value) (w3 : World), _ → _ → Calls _ _ _ _ _
    intro v1 w3 h3 f3
    have f13 : Frm g v v1 w w3 := hf2.trans f3
    have hs3' := f3.size
    have hB3 : Below base w w3 := f13.below hb hbg (fun k e => (hvb k e).1)
    have hap : ∀ x o, A' = some ⟨x, o, none⟩ → 0 < nn - k → x ≠ g ∧ v1.ownBlock ≠ some x := by
      intro x o e h0
      obtain ⟨o', e'⟩ := hA3 x o e h0
      obtain ⟨a1, a2⟩ := hg x o' e' (by omega)
      exact ⟨a1, frm_apart f13 (rd_at hr hB x o' e' (by omega)) a2⟩
    have hrd3 : Rd w3 B A' (nn - k) (m.drop k) := rd_frm hr3 f13 hB (fun x o e h0 => by
      obtain ⟨o', e'⟩ := hA3 x o e h0
      exact hg x o' e' (by omega))
    have T := callsIn_wide.1 (take_in base g (l.length + nn) (nn - k) c' B (wordsAll (l ++ m.take k)) (restOf l ++ m.take k) v1 A' (m.drop k) w3 h3 (by omega) hrd3 (by omega) hc3 hn3 (by rw [wordsAll_length, List.length_append, List.length_take]; omega)
      (fun x o e h0 => ⟨(hap x o e h0).2, fun e' => absurd e' (hap x o e h0).1⟩) (hK.keptB hB3 hk0) (hS.keptB hB3 hs0) hbg hk0 hs0)
    have e : (m.drop k).length / 64 = (nn - k) / 64 := by rw [List.length_drop, hl]
    rw [← e, ← wordsAll_more _ _ hL1, ← hL2] at T
    refine T.mono ?_
    rintro e w' ⟨rfl, v', h', f'⟩
    exact ⟨rfl, v', h', f13.trans f'⟩
  have T3 : Hid (∀ (v1 : Value) (w4 : World), St w4 base g (wordsAll (l ++ m)) (restOf l ++ m.take k) (l.length + nn) v1 → Frm g v v1 w w4 →
      ∃ w5, (Builtin.copy_ #[25, 25] 3 #[.slice (some ⟨g, 1, none⟩) 64 64, .slice A'' (nn - k - q) c'']).run Tryd.prog w4.drew = .ok (goInt ((nn - k) % 64 : Nat)) w5 ∧ ∃ v', Stm w5 base g (l ++ m) v' ∧ Frm g v v' w w5) := by
    show ∀ (v1 : Value) (w4 : World), _ → _ → ∃ _, _
    intro v1 w4 h4 f4
    have hrd4 : Rd w4.drew B A'' (nn - k - q) ((m.drop k).drop q) := (rd_frm hr4 f4 hB (fun x o e h0 => by
      obtain ⟨o', e'⟩ := hA4 x o e h0
      obtain ⟨o'', e''⟩ := hA3 x o' e' (by omega)
      exact hg x o'' e'' (by omega))).drewN 1
    have hbk : Blk w4.drew g 44 (stCells v1 (restOf l ++ m.take k) (l.length + nn)) := h4.blk
    obtain ⟨w5, r5, b5, g5⟩ := copy_into hbk 1 64 64 c'' hrd4 ((nn - k) % 64) (by omega) (by rw [stCells_length, h4.len]; omega)
    have hx := stCells_copy v1 (restOf l ++ m.take k) ((m.drop k).drop q) (l.length + nn) 0 ((nn - k) % 64) h4.len (by omega) (by rw [List.length_drop, List.length_drop]; omega)
    rw [Nat.add_zero] at hx
    rw [hx] at b5
    have g5' : w4.grownBy w5 (some g) := ⟨g5.os, g5.tape, g5.output, g5.size, g5.block⟩
    have hd : (m.drop k).drop q = restOf (l ++ m) := by
      rw [hL2, restOf_more _ _ hL1]
      unfold restOf
      rw [List.length_drop, hl]
      congr 1
      omega
    have hlen : (l ++ m).length = l.length + nn := by rw [List.length_append, hl]
    have hmod : (l ++ m).length % 64 = (nn - k) % 64 := by rw [hlen]; omega
    have hdl : ((m.drop k).drop q).length = (nn - k) % 64 := by rw [List.length_drop, List.length_drop]; omega
    refine ⟨w5, r5, v1, ⟨(List.take 0 (restOf l ++ m.take k) ++ (((m.drop k).drop q).take ((nn - k) % 64) ++ List.drop (0 + (nn - k) % 64) (restOf l ++ m.take k))), ⟨?_, ?_, h4.own.grown g5' (.inr h4.ne), h4.ne, h4.ok⟩, ?_⟩, f4.grownG g5'⟩
    · rw [hlen]
      exact b5
    · have := h4.len
      rw [List.length_append, List.length_append, List.length_take, List.length_take, hdl, List.length_drop, this]
      omega
    · rw [hmod, List.take_zero, List.nil_append, List.take_append_of_le_length (by rw [List.length_take, hdl]; omega), List.take_take, Nat.min_self, List.take_of_length_le (by omega)]
      exact hd
  have c65 := hst.size
  have f65 := hst.blk.frozen 65
  have HE := Lib.hid (held_any g l.length w c65 (by omega))
  have T1H := Lib.hid T1
  have HF2 := Lib.hid hf2
  obtain ⟨n, hn⟩ : ∃ n, n = l.length := ⟨_, rfl⟩
  rw [← hn] at HE c65 hcp hm hge hk
  obtain ⟨r, hr0⟩ : ∃ r, r = n % 64 := ⟨_, rfl⟩
  rw [← hr0] at HE hge hcp hk
  have HW := Lib.hid (fun W => whole_any (nn - k) W (by omega))
  rw [← hq] at HW
  have i0 : (0 : Int) ≤ (r : Int) := by omega
  have i1 : (r : Int) ≤ 64 := by omega
  have i2 : ¬ (64 = r) := by omega
  have i3 : ¬ ((64 : Int) = (r : Int)) := by omega
  have i4 : ¬ ((r : Int) + (k : Int) < 64) := by omega
  have i5 : k ≤ nn := by omega
  have i6 : k ≤ 64 := by omega
  have i7 : q ≤ nn - k := by omega
  clear hst hst2 hr hg2 hrest hn hr0 hg T1 hf2 hB2 hwl hr3 hr4 hA3 hA4 hL1 hL2 hK hS hvb erest hn3 hn4 h64 hl hk hq
  go_enter Tryd.func8, Tryd.ntmps8
  go_wp2_with (go_at_call 18; refine HE.out.mono ?_; rintro e w' ⟨rfl, rfl⟩)
  refine T1H.out.mono ?_
  rintro e w3 ⟨rfl, v1, hst3, hf3⟩
  have T2' := Lib.hid (T2.out v1 w3 hst3 hf3)
  clear hst3 hf3
  go_wp2_with fail
  refine T2'.out.mono ?_
  rintro e w4 ⟨rfl, v2, hst4, hf4⟩
  obtain ⟨w5, hr5, hpost⟩ := T3.out v2 w4 hst4 hf4
  have HR5 := Lib.hid hr5
  have HP := Lib.hid hpost
  clear hst4 hf4 hr5 hpost
  trace "T3"
  have q0 : (0 : Int) ≤ (q : Int) := by omega
  have q1 : (q : Int) ≤ ((nn - k : Nat) : Int) := by omega
  go_wp2_with fail
  trace "T4"
  go_region_law (first
    | (go_simp; go_at_call_of 20 (Value.int .i64 ((nn - k : Nat) : Int)); refine (HW.out _).mono ?_; rintro e w' ⟨rfl, rfl⟩)
    | (refine step_copy rfl (.tmp 46) (.tmp 51) rfl _ _ rfl rfl _ _ HR5.out ?_))
  all_goals go_wp2
  trace "T5"
  all_goals go_ret
  all_goals exact ⟨rfl, HP.out⟩
end Go.Proofs.YtnlhjlmjbmaipaaDoor
