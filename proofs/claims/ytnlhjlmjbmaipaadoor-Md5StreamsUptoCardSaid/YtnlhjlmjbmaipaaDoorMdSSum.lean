/-
  (*md5.Stream).Sum: the digest of what has come.
-/
import Derived.Test.YtnlhjlmjbmaipaaDoorMdLast
namespace Go.Proofs.YtnlhjlmjbmaipaaDoor
open Go.RowKit
set_option maxRecDepth 100000
set_option maxHeartbeats 4000000
set_option linter.unusedSimpArgs false
set_option linter.unusedVariables false

theorem last_any (base g n : Nat) (vs : List W4) (rest : List UInt8) (v : Value) (W : World) (h : St W base g vs rest n v) (hk : vs.length ≤ 1152921504606846976) :
    Calls Tryd.prog 22 #[.pointer (some ⟨g, 0, none⟩)] W fun e w' => e = .returned (.agg (cells4 (lastW vs)).toArray) ∧ Below W.heap.size W w' := by
  rcases List.eq_nil_or_concat vs with rfl | ⟨vs', x, e0⟩
  · exact last_none base g n rest v W h
  · rw [List.concat_eq_append] at e0
    subst e0
    have e : lastW (vs' ++ [x]) = x := by simp [lastW]
    rw [e]
    exact last_some base g n vs' x rest v W h (by simp at hk; omega)
theorem lastW_ok {vs : List W4} (h : ∀ x ∈ vs, x.ok) : (lastW vs).ok := by
  rcases List.eq_nil_or_concat vs with rfl | ⟨vs', x, e0⟩
  · exact begin_ok
  · rw [List.concat_eq_append] at e0
    subst e0
    have e : lastW (vs' ++ [x]) = x := by simp [lastW]
    rw [e]
    exact h x (by simp)
theorem ssum_any (base g n : Nat) (vs : List W4) (rest : List UInt8) (v : Value) (w : World) (h : St w base g vs rest n v) (hk : vs.length ≤ 1152921504606846976) (hn : n ≤ 140737488351240) (hK : TabK w) (hS : TabS w) :
    Calls Tryd.prog 11 #[.pointer (some ⟨g, 0, none⟩)] w fun e w' => e = .returned (.agg (partB (mdEnd (lastW vs) (rest.take (n % 64)) n) 16).toArray) ∧ Below w.heap.size w w' := by
  obtain ⟨V, hV⟩ : ∃ V, V = mdEnd (lastW vs) (rest.take (n % 64)) n := ⟨_, rfl⟩
  have HV := Lib.hid hV
  rw [← hV]
  clear hV
  obtain ⟨W1, hW1⟩ : ∃ W1, W1 = w.alloc (.cells (zeros 16).toArray 31) := ⟨_, rfl⟩
  have hs1 : W1.heap.size = w.heap.size + 1 := by rw [hW1, World.size_alloc]
  have hB1 : Below w.heap.size w W1 := by rw [hW1]; exact (Below.refl _ _).alloc (Nat.le_refl _) _
  have hz : Blk W1 w.heap.size 31 (zeros 16) := by rw [hW1]; exact blk_new w _ _
  have h1 : St W1 base g vs rest n v := h.later hB1
  have hgl := Blk.lt h.blk
  have hok := lastW_ok h.ok
  have hK1 := hK.kept hB1
  have hS1 := hS.kept hB1
  obtain ⟨L, hL⟩ : ∃ L, L = lastW vs := ⟨_, rfl⟩
  obtain ⟨r, hr⟩ : ∃ r, r = n % 64 := ⟨_, rfl⟩
  have hr64 : r < 64 := by omega
  have LA := Lib.hid (fun W (hB : Below W1.heap.size W1 W) => last_any base g n vs rest v W (h1.later hB) hk)
  have HA := Lib.hid (fun W (hB : Below W1.heap.size W1 W) => held_any g n W ((h1.later hB).size) (by omega))
  rw [← hL] at LA
  rw [← hr] at HA
  have hrd : Rd W1 W1.heap.size (some ⟨g, 1, none⟩) r (rest.take r) := by
    have hf := h1.rd
    refine ⟨by rw [List.length_take, h1.len]; omega, fun h0 => ⟨g, 1, rfl, by omega, fun j hj => ?_⟩⟩
    rw [h1.rest j (by omega)]
    congr 2
    unfold byteAt
    rw [List.getD_eq_getElem?_getD, List.getD_eq_getElem?_getD, List.getElem?_take_of_lt hj]
  have EA := Lib.hid (fun W (hB : Below W1.heap.size W1 W) => callsIn_wide.1 (end_any L (some ⟨g, 1, none⟩) r 64 W1.heap.size n (rest.take r) W (by rw [hL]; exact hok) (hrd.later (Nat.le_refl _) hB) hB.size (fun h => nomatch h) hr64 (by omega) (hK1.kept hB) (hS1.kept hB)))
  rw [hL, hr, ← HV.out, ← hr, ← hL] at EA
  have c65 := h1.size
  have S1 := Lib.hid h1
  have Z := Lib.hid hz
  have HB1 := Lib.hid hB1
  have iu : IntKind.u64.wrap (n : Int) = (n : Int) := by simp [IntKind.wrap, IntKind.bits, IntKind.signed]; omega
  have ir0 : (0 : Int) ≤ (r : Int) := by omega
  have ir1 : (r : Int) ≤ 64 := by omega
  have BD := Lib.hid (Below.drew (Below.refl W1.heap.size W1))
  clear h h1 hz hB1 hrd hok hK hS hK1 hS1 hL hr
  go_enter Tryd.func11, Tryd.ntmps11
  go_wp2
  rw [show zeros 16 = [.int .u8 0, .int .u8 0, .int .u8 0, .int .u8 0, .int .u8 0, .int .u8 0, .int .u8 0, .int .u8 0, .int .u8 0, .int .u8 0, .int .u8 0, .int .u8 0, .int .u8 0, .int .u8 0, .int .u8 0, .int .u8 0] from rfl] at hW1
  rw [← hW1]
  clear hW1
  go_region_with (first
    | (go_at_call 22; refine (LA.out _ ?_).mono ?_; exact BD.out; rintro e w2 ⟨rfl, hb2⟩; have hb3 : Below W1.heap.size W1 w2 := BD.out.trans hb2; have c652 : w2.cell? ⟨g, 65, none⟩ = some (.int .i64 n) := (hb3.cell (p := ⟨g, 65, none⟩) (by show g < _; omega)).trans c65)
    | (go_at_call 18; refine (HA.out _ ?_).mono ?_; (first | exact BD.out | exact hb3); rintro e w' ⟨rfl, rfl⟩)
    | (go_at_call 23; refine (EA.out _ ?_).mono ?_; exact hb3; rintro e w5 ⟨rfl, hb5⟩; have hb6 : Below W1.heap.size W1 w5 := hb3.trans (hb5.mono hb3.size); have c655 : w5.cell? ⟨g, 65, none⟩ = some (.int .i64 n) := (hb6.cell (p := ⟨g, 65, none⟩) (by show g < _; omega)).trans c65; obtain ⟨W6, hst, hbk, hgw⟩ := store_all2 (show Blk w5 w.heap.size 31 (zeros 16) from (hb6.block _ (by omega)).trans Z.out) (show (partB V 16).length = _ by simp [partB, zeros]) (partB_one V 16); have c656 : W6.cell? ⟨g, 65, none⟩ = some (.int .i64 n) := (World.cell?_of_block (w := w5) (hgw.block g (by have := hb6.size; omega) (by intro e; injection e with e; omega))).trans c655))
  all_goals (
    have hs6 := hgw.size
    have hs5 := hb6.size
    have BF : Below w.heap.size w W6 := (HB1.out.trans (hb6.mono (by omega))).grown hgw (by omega) (fun k e => by cases e; omega)
    have HBF := Lib.hid BF
    have HBK := Lib.hid hbk
    clear hbk BF hgw hst
    go_wp2
    exact bodyPost_ret (results_cell_row rfl _ _ w.heap.size 31 _ (0, 0) _ rfl HBK.out Tryd.underlying31 rfl info16) rfl ⟨rfl, HBF.out⟩)
end Go.Proofs.YtnlhjlmjbmaipaaDoor
