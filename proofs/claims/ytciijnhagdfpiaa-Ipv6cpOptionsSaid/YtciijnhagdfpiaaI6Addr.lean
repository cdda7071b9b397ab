/-
  ipv6cp.Address and the reference's: the link's own address of an identifier.
-/
import Derived.Test.YtciijnhagdfpiaaI6Num
import Derived.BigQuiet
import Derived.Deep.Cut
import Derived.Deep.Light
import Derived.Outline
namespace Go.Proofs.Ytciijnhagdfpiaa
open Go.RowKit
set_option maxRecDepth 100000
set_option maxHeartbeats 4000000
set_option linter.unusedSimpArgs false
set_option linter.unusedVariables false

def addrH : List Value := [.int .u8 254, .int .u8 128, .int .u8 0, .int .u8 0, .int .u8 0, .int .u8 0, .int .u8 0, .int .u8 0]
def addrC (x : Int) : List Value := addrH ++ (putB x.toNat 8).map cellOf
theorem addrC_length (x : Int) : (addrC x).length = 16 := by unfold addrC; simp [addrH, putB_length]
theorem addrC_one (x : Int) : ∀ v ∈ addrC x, v.oneCell' = true := by
  intro v hv
  unfold addrC at hv
  rcases List.mem_append.1 hv with h | h
  · simp only [addrH, List.mem_cons, List.not_mem_nil, or_false] at h
    rcases h with rfl | rfl | rfl | rfl | rfl | rfl | rfl | rfl <;> rfl
  · exact cells_one _ v h
theorem store_row6 {w : World} {g t : Nat} {cs vs : List Value} (h : Blk w g t cs) (hl : vs.length = cs.length) (h1 : ∀ v ∈ vs, v.oneCell' = true) :
    ∃ w', (storeCells ⟨g, 0, none⟩ vs).run Try.prog w = .ok () w' ∧ Blk w' g t vs ∧ w.grownBy w' (some g) := by
  have h2 := run_storeCells_from (P := Try.prog) g t vs 0 cs.toArray w h (by simp [hl]) h1
  exact ⟨w.setRow g vs.toArray, by simpa using h2, setRow_heap w g _ _ t _ h, grown_setRow _⟩
theorem info16 : (Try.prog.info? 47).map (·.size) = some 16 := by kernel_rfl
theorem address_any (x : Int) (w : World) (h0 : 0 ≤ x) (h1 : x < 18446744073709551616) : Calls Try.prog 28 #[.int .u64 x] w fun e w' => e = .returned (.agg (addrC x).toArray) ∧ Below w.heap.size w w' := by
  have HWR := Lib.hid (show Calls Try.prog 30 #[.slice (some ⟨w.heap.size + 1, 8, none⟩) 8 8, .int .u64 x] ((w.alloc (.cells (zeros 16).toArray 47)).alloc (.cells (addrH ++ zeros 8).toArray 47)) fun e w3 => e = .returned (.tuple #[]) ∧ Hid (w3.heap[w.heap.size + 1]? = some (.cells (addrC x).toArray 47 (0, 0))) ∧ ∃ w4, (storeCells ⟨w.heap.size, 0, none⟩ (addrC x)).run Try.prog w3 = .ok () w4 ∧ Hid (w4.heap[w.heap.size]? = some (.cells (addrC x).toArray 47 (0, 0))) ∧ Hid (Below w.heap.size w w4) from by
    obtain ⟨W1, hW1⟩ : ∃ W1, w.alloc (.cells (zeros 16).toArray 47) = W1 := ⟨_, rfl⟩
    have k1 : Blk W1 w.heap.size 47 (zeros 16) := by rw [← hW1]; exact blk_new w _ _
    have B1 : Below w.heap.size w W1 := by rw [← hW1]; exact (Below.refl _ _).alloc (Nat.le_refl _) _
    have s1 : W1.heap.size = w.heap.size + 1 := by rw [← hW1]; simp
    rw [hW1]
    have k2 := blk_new W1 47 (addrH ++ zeros 8)
    have B2 : Below W1.heap.size W1 (W1.alloc (.cells (addrH ++ zeros 8).toArray 47)) := (Below.refl _ _).alloc (Nat.le_refl _) _
    rw [s1] at k2
    generalize W1.alloc (.cells (addrH ++ zeros 8).toArray 47) = W2 at k2 B2 ⊢
    have s2 := B2.size
    have k1' := (B2.block _ (by omega)).trans k1
    refine (write_any (w.heap.size + 1) 8 8 _ x W2 _ k2 (by decide) h0 h1).mono ?_
    rintro e w3 ⟨rfl, rfl⟩
    have k3 := wset_blk (w.heap.size + 1) 47 ((putB x.toNat 8).map cellOf) W2 8 _ k2 (by rw [List.length_map, putB_length]; decide)
    have g3 := wset_grown (w.heap.size + 1) ((putB x.toNat 8).map cellOf) W2 8
    have e3 : (addrH ++ zeros 8).take 8 ++ ((putB x.toNat 8).map cellOf ++ (addrH ++ zeros 8).drop (8 + ((putB x.toNat 8).map cellOf).length)) = addrC x := by
      rw [List.length_map, putB_length, show (addrH ++ zeros 8).take 8 = addrH from rfl, show (addrH ++ zeros 8).drop (8 + 8) = [] from rfl, List.append_nil]
      rfl
    rw [e3] at k3
    generalize wset W2 (w.heap.size + 1) 8 ((putB x.toNat 8).map cellOf) = W3 at k3 g3 ⊢
    have k13 := (g3.block _ (Blk.lt k1') (fun e => by injection e; omega)).trans k1'
    obtain ⟨w4, hst, hbk, hgw⟩ := store_row6 (vs := addrC x) k13 (by rw [addrC_length]; rfl) (addrC_one x)
    have B3 : Below w.heap.size w W3 := (B1.trans (B2.mono (by omega))).grown g3 (by omega) (fun q e => by injection e; omega)
    have s3 := g3.size
    exact ⟨rfl, Lib.hid k3, w4, hst, Lib.hid hbk, Lib.hid (B3.grown hgw (by omega) (fun q e => by injection e; omega))⟩)
  simp only [zeros, List.replicate, addrH, List.cons_append, List.nil_append] at HWR
  have hsz : (addrC x).toArray.size = 16 := by simp [addrC_length]
  have HI : Hid ((Try.prog.info? 47).map (·.size) = some (addrC x).toArray.size) := by show _ = _; rw [hsz]; exact info16
  have hl16 := addrC_length x
  clear hsz
  generalize addrC x = vs at *
  go_enter Try.func28, Try.ntmps28
  go_wp2_with (first
    | (go_at_call 30; (with_reducible refine HWR.out.mono ?_); rintro e w3 ⟨rfl, HBK, w4, hst, HB4, HBW⟩)
    | (refine wpList_load_row rfl 47 (.tmp 3) rfl (w.heap.size + 1) rfl 47 vs.toArray (0, 0) _ HBK.out Try.underlying47 rfl HI.out ?_))
  exact bodyPost_ret (results_cell_row rfl _ _ w.heap.size _ vs.toArray (0,0) _ rfl HB4.out Try.underlying47 rfl HI.out) rfl ⟨rfl, HBW.out⟩
/-- the reference writes the bytes from behind -/
def rowA (x : Int) (k : Nat) : List Value := (addrH ++ zeros 8).take (16 - k) ++ ((putB x.toNat 8).drop (8 - k)).map cellOf
theorem rowA_length (x : Int) (k : Nat) (h : k ≤ 8) : (rowA x k).length = 16 := by
  unfold rowA
  simp [addrH, zeros, putB_length]
  omega
theorem rowA_step (x : Int) (k : Nat) (h : k < 8) (h0 : 0 ≤ x) : (rowA x k).set (15 - k) (.int .u8 (x / 2 ^ (8 * k) % 256)) = rowA x (k + 1) := by
  have hs := shr_cell x (7 - k) (by omega) h0
  rw [show 7 - (7 - k) = k by omega] at hs
  unfold rowA
  obtain ⟨b0, b1, b2, b3, b4, b5, b6, b7, hb⟩ : ∃ b0 b1 b2 b3 b4 b5 b6 b7, putB x.toNat 8 = [b0, b1, b2, b3, b4, b5, b6, b7] := ⟨_, _, _, _, _, _, _, _, rfl⟩
  rw [hb] at hs ⊢
  generalize x / 2 ^ (8 * k) % 256 = y at hs ⊢
  rcases (show k = 0 ∨ k = 1 ∨ k = 2 ∨ k = 3 ∨ k = 4 ∨ k = 5 ∨ k = 6 ∨ k = 7 by omega) with rfl | rfl | rfl | rfl | rfl | rfl | rfl | rfl <;> (simp at hs; simp [hs, addrH, zeros])
theorem rowA_end (x : Int) : rowA x 8 = addrC x := rfl
theorem raddress_any (x : Int) (w : World) (h0 : 0 ≤ x) (h1 : x < 18446744073709551616) : Calls Try.prog 29 #[.int .u64 x] w fun e w' => e = .returned (.agg (addrC x).toArray) ∧ Below w.heap.size w w' := by
  obtain ⟨W1, hW1⟩ : ∃ W1, (w.alloc (.cells (zeros 16).toArray 47)).alloc (.cells (addrH ++ zeros 8).toArray 47) = W1 := ⟨_, rfl⟩
  have HJ0 : Hid (Blk W1 (w.heap.size + 1) 47 (rowA x 0) ∧ Blk W1 w.heap.size 47 (zeros 16) ∧ Below w.heap.size w W1) := by
    have k1 := blk_new w 47 (zeros 16)
    have B1 : Below w.heap.size w (w.alloc (.cells (zeros 16).toArray 47)) := (Below.refl _ _).alloc (Nat.le_refl _) _
    have s1 : (w.alloc (.cells (zeros 16).toArray 47)).heap.size = w.heap.size + 1 := by simp
    rw [← hW1]
    generalize w.alloc (.cells (zeros 16).toArray 47) = W at k1 B1 s1 ⊢
    have k2 := blk_new W 47 (addrH ++ zeros 8)
    have B2 : Below W.heap.size W (W.alloc (.cells (addrH ++ zeros 8).toArray 47)) := (Below.refl _ _).alloc (Nat.le_refl _) _
    rw [s1] at k2
    exact ⟨k2, (B2.block _ (by omega)).trans k1, B1.trans (B2.mono (by omega))⟩
  simp only [zeros, List.replicate, addrH, List.cons_append, List.nil_append] at hW1
  have HW := Lib.hid hW1
  clear hW1
  have hsz : (addrC x).toArray.size = 16 := by simp [addrC_length]
  have HI : Hid ((Try.prog.info? 47).map (·.size) = some (addrC x).toArray.size) := by show _ = _; rw [hsz]; exact info16
  have hl16 := addrC_length x
  clear hsz
  go_enter Try.func29, Try.ntmps29
  go_upto_region 2 with (fail)
  rw [HW.out]
  clear HW
  go_wp2
  go_loopw [4] (fun i wr => ∃ (V : World) (k : Nat), V = wr ∧ k ≤ 8 ∧ i = .int .i64 k ∧ Hid (Blk V (w.heap.size + 1) 47 (rowA x k) ∧ Blk V w.heap.size 47 (zeros 16) ∧ Below w.heap.size w V)) (fun i _ => 8 - (intOf i).toNat)
  case atStart => exact ⟨_, 0, rfl, by omega, rfl, HJ0⟩
  case round =>
    obtain ⟨V, k, rfl, hk, rfl, hJ⟩ := hrel
    obtain ⟨hb, hb0, hB⟩ := hJ.out
    by_cases hlt : k < 8
    · have hcc : V.cell? ⟨w.heap.size + 1, 15 - k, none⟩ = some ((rowA x k)[15 - k]'(by rw [rowA_length x k hk]; omega)) := by rw [Blk.cell hb (15 - k)]; exact List.getElem?_eq_getElem _
      generalize (rowA x k)[15 - k]'(by rw [rowA_length x k hk]; omega) = v0 at hcc
      have hf := Blk.frozen hb (15 - k)
      have hset := Blk.set_ hb (15 - k) (.int .u8 (x / 2 ^ (8 * k) % 256))
      rw [rowA_step x k hlt h0] at hset
      have g : V.grownBy (V.setCell ⟨w.heap.size + 1, 15 - k, none⟩ (.int .u8 (x / 2 ^ (8 * k) % 256))) (some (w.heap.size + 1)) := only_set (p := ⟨w.heap.size + 1, 15 - k, none⟩) _
      have HN := Lib.hid (And.intro hset (And.intro ((g.block _ (Blk.lt hb0) (fun e => by injection e; omega)).trans hb0) (hB.grown g hB.size (fun q e => by injection e; omega))))
      have e15 : (15 : Int) - (k : Int) = ((15 - k : Nat) : Int) := by omega
      clear hset g hb hb0 hB hJ
      go_wp2
      go_roundw
      case rel => exact ⟨_, k + 1, rfl, by omega, by go_num, HN.out⟩
      case measure => simp [intOf]; omega
    · have : k = 8 := by omega
      subst this
      obtain ⟨w4, hst, hbk, hgw⟩ := store_row6 (vs := addrC x) hb0 (by rw [addrC_length]; rfl) (addrC_one x)
      have HBK : Hid (V.heap[w.heap.size + 1]? = some (.cells (addrC x).toArray 47 (0, 0))) := hb
      have HB4 : Hid (w4.heap[w.heap.size]? = some (.cells (addrC x).toArray 47 (0, 0))) := hbk
      have HBW := Lib.hid (hB.grown hgw hB.size (fun q e => by injection e; omega))
      clear hbk hgw hb hb0 hB hJ HJ0
      obtain ⟨vs, hvs⟩ : ∃ vs, addrC x = vs := ⟨_, rfl⟩
      rw [hvs] at hst HBK HB4 HI hl16
      have HV := Lib.hid hvs
      clear hvs
      go_wp2_with (refine wpList_load_row rfl 47 (.tmp 3) rfl (w.heap.size + 1) rfl 47 vs.toArray (0, 0) _ HBK.out Try.underlying47 rfl HI.out ?_)
      exact bodyPost_ret (results_cell_row rfl _ _ w.heap.size _ vs.toArray (0,0) _ rfl HB4.out Try.underlying47 rfl HI.out) rfl ⟨by rw [HV.out], HBW.out⟩
end Go.Proofs.Ytciijnhagdfpiaa
