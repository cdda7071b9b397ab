/-
  tetherref01.Spoil, of a slice whose block other slices may lie in too: what bytes lay in it are bytes behind it.
-/
import Derived.Test.YtlpboleclehilaaDoorSpoilB
import Derived.Test.YtlpboleclehilaaDoorOpList
namespace Go.Proofs.YtlpboleclehilaaDoor
open Go.RowKit
set_option maxRecDepth 100000
set_option maxHeartbeats 2000000
set_option linter.unusedSimpArgs false
set_option linter.unusedVariables false

/-- as many cells, and bytes where bytes were -/
def U8 (L M : List Value) : Prop := M.length = L.length ∧ ∀ (j : Nat) (c : UInt8), L[j]? = some (cellOf c) → ∃ c', M[j]? = some (cellOf c')
theorem U8.refl (L : List Value) : U8 L L := ⟨rfl, fun _ c h => ⟨c, h⟩⟩
theorem U8.set {L M : List Value} (h : U8 L M) (i : Nat) (c : UInt8) : U8 L (M.set i (cellOf c)) := by
  refine ⟨by rw [List.length_set]; exact h.1, fun j d hj => ?_⟩
  obtain ⟨e, he⟩ := h.2 j d hj
  by_cases hij : i = j
  · subst hij
    have hl : i < M.length := (List.getElem?_eq_some_iff.1 he).1
    exact ⟨c, by rw [List.getElem?_set_self hl]⟩
  · exact ⟨e, by rw [List.getElem?_set_ne hij]; exact he⟩
theorem U8.trans {L M N : List Value} (h : U8 L M) (k : U8 M N) : U8 L N := ⟨k.1.trans h.1, fun j c hj => by
  obtain ⟨c', h'⟩ := h.2 j c hj
  exact k.2 j c' h'⟩
/-- an owned slice is one behind it too -/
theorem own_shape {W W' : World} {base g n cap : Nat} {l : List UInt8} {L M : List Value} (h : Own W base (.slice (some ⟨g, 0, none⟩) n cap) l) (hL : Blk W g 5 L) (hM : Blk W' g 5 M) (hu : U8 L M) :
    ∃ l', l'.length = l.length ∧ Own W' base (.slice (some ⟨g, 0, none⟩) n cap) l' := by
  obtain ⟨h0, h1⟩ := h
  rcases h1 with ⟨e, _⟩ | ⟨g', cap', cur, e, hb, hg, hnc, hcm, hcs, ht⟩
  · cases e
  · injection e with e1 e2 e3
    injection e1 with e1
    injection e1 with e1
    subst e1 e2 e3
    have hcur : cur = L.toArray := by
      unfold Blk at hL
      rw [hL] at hg
      injection hg with hg
      injection hg with hg
      exact hg.symm
    subst hcur
    simp only [List.size_toArray] at hcs
    simp only [Nat.mul_one] at *
    have hall : ∀ j, j < l.length → ∃ c : UInt8, M[j]? = some (cellOf c) := by
      intro j hj
      have hLj : L[j]? = some (cellOf (l[j])) := by
        have : (L.take l.length)[j]? = (l.map cellOf)[j]? := by rw [ht]
        rw [List.getElem?_take, if_pos hj, List.getElem?_map, List.getElem?_eq_getElem hj] at this
        exact this
      exact hu.2 j _ hLj
    have hex : ∀ m, m ≤ l.length → ∃ l' : List UInt8, l'.length = m ∧ M.take m = l'.map cellOf := by
      intro m
      induction m with
      | zero => intro _; exact ⟨[], rfl, by simp⟩
      | succ m ih =>
        intro hm
        obtain ⟨l', e1, e2⟩ := ih (by omega)
        obtain ⟨c, hc⟩ := hall m (by omega)
        have hml : m < M.length := (List.getElem?_eq_some_iff.1 hc).1
        refine ⟨l' ++ [c], by simp [e1], ?_⟩
        rw [List.take_succ_eq_append_getElem hml, e2, List.map_append]
        have : M[m] = cellOf c := by rw [List.getElem?_eq_getElem hml] at hc; injection hc
        rw [this]
        rfl
    obtain ⟨l', e1, e2⟩ := hex l.length (Nat.le_refl _)
    refine ⟨l', e1, ⟨by simp, .inr ⟨g, cap, M.toArray, by rw [e1], hb, hM, by rw [e1]; exact hnc, hcm, ?_, ?_⟩⟩⟩
    · simp only [List.size_toArray, Nat.mul_one]; rw [hu.1]; exact hcs
    · simp only [Nat.mul_one, e1]; exact e2
/-- the append at Spoil's end, and what lies then -/
theorem spoil_app {w wr : World} {g n cap : Nat} {L M : List Value} (hM : Blk wr g 5 M) (hu : U8 L M) (hg : w.grownBy wr (some g)) (hL : L.length = cap) (hn : n ≤ cap) (hm : n ≤ 140737488351240) :
    ∃ g' cap' w2 N, (Builtin.append_ #[51, 51] 51 #[.slice (some ⟨g, 0, none⟩) n cap, .slice (some ⟨wr.heap.size, 0, none⟩) 1 1]).run Tryd.prog (wr.alloc (.cells #[.int .u8 99] 5)) = .ok (.slice (some ⟨g', 0, none⟩) (n + 1) cap') w2 ∧
      w2.cell? ⟨g', n, none⟩ = some (.int .u8 99) ∧ w2.frozen? ⟨g', n, none⟩ = false ∧ n + 1 ≤ cap' ∧ Blk (w2.setCell ⟨g', n, none⟩ (.int .u8 98)) g 5 N ∧ U8 L N ∧ w.grownBy (w2.setCell ⟨g', n, none⟩ (.int .u8 98)) (some g) := by
  obtain ⟨i, hi, hz, h1, h2⟩ := info_parts byte_info
  have hglt := hM.lt
  have hMW : Blk (wr.alloc (.cells #[.int .u8 99] 5)) g 5 M := (Below.heap_alloc wr _ g hglt).trans hM
  have hnew := blk_new wr 5 [.int .u8 99]
  have hnews : ∀ j u, ([Value.int .u8 99])[j]? = some u → (wr.alloc (.cells #[.int .u8 99] 5)).cell? ((⟨wr.heap.size, 0, none⟩ : Addr).add j) = some u := by
    intro j u hj
    rw [addr_add]
    exact (Blk.cell hnew j).trans hj
  have hgA : w.grownBy (wr.alloc (.cells #[.int .u8 99] 5)) (some g) := only_alloc hg _
  obtain ⟨W1, hW1⟩ : ∃ W1, W1 = wr.alloc (.cells #[.int .u8 99] 5) := ⟨_, rfl⟩
  have sW1 : W1.heap.size = wr.heap.size + 1 := by rw [hW1]; simp
  rw [← hW1] at hMW hnews hgA ⊢
  have hML : M.length = cap := hu.1.trans hL
  by_cases hroom : n + 1 ≤ cap
  · have hr := run_append_room (P := Tryd.prog) W1 51 51 5 i Tryd.underlying51 hi g n cap M.toArray hMW ⟨wr.heap.size, 0, none⟩ 1 1 [.int .u8 99] (by rw [h1]; rfl) hnews (by simp [Value.oneCell']) hroom (by rw [h1]; simp; omega)
    rw [h1] at hr
    have hB : Blk (W1.setRow g (M.toArray.toList.take (n * 1) ++ [Value.int .u8 99] ++ M.toArray.toList.drop (n * 1 + [Value.int .u8 99].length)).toArray) g 5 (M.take n ++ [Value.int .u8 99] ++ M.drop (n + 1)) := by
      have h := setRow_heap W1 g M.toArray (M.toArray.toList.take (n * 1) ++ [Value.int .u8 99] ++ M.toArray.toList.drop (n * 1 + [Value.int .u8 99].length)).toArray 5 (0, 0) hMW
      unfold Blk
      rw [h]
      simp
    have hset : (M.take n ++ [Value.int .u8 99] ++ M.drop (n + 1)) = M.set n (cellOf 99) := by
      rw [List.set_eq_take_append_cons_drop, if_pos (by omega)]
      simp [cellOf]
    rw [hset] at hB
    have hgs : w.grownBy (W1.setRow g (M.toArray.toList.take (n * 1) ++ [Value.int .u8 99] ++ M.toArray.toList.drop (n * 1 + [Value.int .u8 99].length)).toArray) (some g) := only_then hgA (grown_setRow _) (fun q hq => .inl hq)
    refine ⟨g, cap, _, (M.set n (cellOf 99)).set n (cellOf 98), hr, ?_, hB.frozen n, hroom, ?_, (hu.set n 99).set n 98, ?_⟩
    · rw [hB.cell n, List.getElem?_set_self (by omega)]; rfl
    · exact hB.set_ n (.int .u8 98)
    · exact only_then hgs (only_set (p := ⟨g, n, none⟩) _) (fun q hq => .inl hq)
  · have hnc : n = cap := by omega
    have holds : ∀ j v, (M.take n)[j]? = some v → W1.cell? ((⟨g, 0, none⟩ : Addr).add j) = some v := by
      intro j v hj
      rw [addr_add]
      rw [List.getElem?_take] at hj
      split at hj
      · exact (hMW.cell j).trans hj
      · cases hj
    have hle := nextslicecap_le (need := n + 1) (old := cap) (by omega)
    have hr := run_append_grow (P := Tryd.prog) W1 51 51 5 i (.int .u8 0) Tryd.underlying51 hi hz ⟨g, 0, none⟩ n cap (M.take n) (by rw [h1, List.length_take]; omega) holds ⟨wr.heap.size, 0, none⟩ 1 1 [.int .u8 99] (by rw [h1]; rfl) hnews (by omega) (by omega) (by rw [h2]; omega)
    obtain ⟨cap', hcap'⟩ : ∃ x, grownCap W1 (n + 1) cap 5 = x := ⟨_, rfl⟩
    have hcl : n + 1 ≤ cap' := by rw [← hcap']; exact grownCap_ge _ _ _ _
    rw [hcap'] at hr
    obtain ⟨cs, hcs⟩ : ∃ x : Array Value, (M.take n).toArray ++ [Value.int .u8 99].toArray ++ Builtin.zeroCells (Value.int .u8 0).cells (cap' - (n + 1)) = x := ⟨_, rfl⟩
    have hcn : cs[n]? = some (.int .u8 99) := by
      rw [← hcs]
      have hl : (M.take n).toArray.size = n := by simp; omega
      rw [Array.getElem?_append_left (by simp; omega), Array.getElem?_append_right (by omega), hl, Nat.sub_self]
      rfl
    rw [hcs] at hr
    have hN : Blk (W1.drew.alloc (.cells cs 5)) W1.heap.size 5 cs.toList := by
      have h := blk_new W1.drew 5 cs.toList
      unfold Blk at h ⊢
      simpa using h
    have hK : Blk (W1.drew.alloc (.cells cs 5)) g 5 M := (Below.heap_alloc W1.drew _ g (by show g < W1.heap.size; omega)).trans hMW
    have hs := hg.size
    have hgd : w.grownBy W1.drew (some g) := ⟨hgA.os, hgA.tape, hgA.output, hgA.size, hgA.block⟩
    have hgD : w.grownBy (W1.drew.alloc (.cells cs 5)) (some g) := only_alloc hgd _
    refine ⟨W1.heap.size, cap', _, M, hr, ?_, hN.frozen n, hcl, ?_, hu, ?_⟩
    · rw [hN.cell n]; simpa using hcn
    · exact (Below.heap_setCell _ ⟨W1.heap.size, n, none⟩ _ g (by show g ≠ W1.heap.size; omega)).trans hK
    · exact only_then hgD (only_set (p := ⟨W1.heap.size, n, none⟩) _) (fun q hq => .inr (by cases hq; show w.heap.size ≤ W1.heap.size; omega))
theorem spoil_shape (g n cap : Nat) (L : List Value) (w : World) (hL : Blk w g 5 L) (hc : L.length = cap) (hn : n ≤ cap) (hm : n ≤ 140737488351240) (hb : ∀ j, j < n → ∃ c : UInt8, L[j]? = some (cellOf c)) :
    Calls Tryd.prog 35 #[.slice (some ⟨g, 0, none⟩) n cap] w fun e w' => e = .returned (.tuple #[]) ∧ w.grownBy w' (some g) ∧ ∃ M, Blk w' g 5 M ∧ U8 L M := by
  have HB := Lib.hid hb
  have HL := Lib.hid hL
  clear hb hL
  go_enter Tryd.func35, Tryd.ntmps35
  go_wp2
  go_loopw [2] (fun i wr => ∃ (V : World) (k : Nat), V = wr ∧ k ≤ n ∧ i = .int .i64 k ∧ Hid (∃ M, Blk V g 5 M ∧ U8 L M ∧ w.grownBy V (some g))) (fun i _ => n - (intOf i).toNat)
  case atStart => exact ⟨_, 0, rfl, Nat.zero_le _, rfl, L, HL.out, U8.refl L, World.grownBy.refl _ _⟩
  case round =>
    obtain ⟨V, k, rfl, hk, rfl, hJ⟩ := hrel
    obtain ⟨M, hM, hu, hg⟩ := hJ.out
    by_cases hlt : k < n
    · obtain ⟨c0, hc0⟩ := HB.out k hlt
      obtain ⟨cc, hcc⟩ := hu.2 k c0 hc0
      have x0 : V.cell? ⟨g, k, none⟩ = some (.int .u8 (cc.toNat : Int)) := (hM.cell k).trans hcc
      have f0 := hM.frozen k
      have HN : Hid (∃ M', Blk (V.setCell ⟨g, k, none⟩ (.int .u8 (bits .xor .u8 (cc.toNat : Int) 90))) g 5 M' ∧ U8 L M' ∧ w.grownBy (V.setCell ⟨g, k, none⟩ (.int .u8 (bits .xor .u8 (cc.toNat : Int) 90))) (some g)) := by
        refine ⟨M.set k (cellOf (cc ^^^ 90)), ?_, hu.set k _, only_then hg (only_set (p := ⟨g, k, none⟩) _) (fun q hq => .inl hq)⟩
        have h := hM.set_ k (.int .u8 (bits .xor .u8 (cc.toNat : Int) 90))
        rw [xor_byte cc] at h ⊢
        exact h
      clear hM hu hg hJ hc0 hcc
      go_wp2
      go_roundw
      case rel => exact ⟨_, k + 1, rfl, by omega, by go_num, HN.out⟩
      case measure => simp [intOf]; omega
    · have hk' : k = n := by omega
      subst hk'
      obtain ⟨g', cap', w2, N, hr, hx, hf, hcl, hN, huN, hgN⟩ := spoil_app hM hu hg hc hn hm
      have R2 := Lib.hid hr
      have HN := Lib.hid (And.intro hN (And.intro huN hgN))
      clear hr hN huN hgN hM hu hg hJ
      go_wp2_with (at_builtin; refine wpList_app rfl (.tmp 17) (.tmp 18) rfl _ _ rfl rfl _ _ R2.out ?_)
      go_end0
      exact ⟨rfl, HN.out.2.2, N, HN.out.1, HN.out.2.1⟩
/-- of any slice of the call's own -/
theorem spoil_any (v : Value) (base : Nat) (l : List UInt8) (w : World) (ho : Own w base v l) (hb : base ≤ w.heap.size) (hm : l.length ≤ 140737488351240) :
    Calls Tryd.prog 35 #[v] w fun e w' => e = .returned (.tuple #[]) ∧ w.grownBy w' v.ownBlock ∧ ∀ g L, v.ownBlock = some g → Blk w g 5 L → ∃ M, Blk w' g 5 M ∧ U8 L M := by
  have ho1 := ho
  rcases ho.2 with ⟨rfl, _⟩ | ⟨g, cap, cur, rfl, hbg, hg, hnc, hcm, hcs, ht⟩
  · refine (spoil_own _ base l w ho1 hb hm).mono ?_
    rintro e w' ⟨rfl, hg⟩
    exact ⟨rfl, hg, fun g L h => by simp [Value.ownBlock] at h⟩
  · have hL : Blk w g 5 cur.toList := by unfold Blk; simpa using hg
    refine (spoil_shape g l.length cap cur.toList w hL (by simpa using hcs) hnc hm ?_).mono ?_
    · intro j hj
      refine ⟨l[j], ?_⟩
      have : (cur.toList.take (l.length * 1))[j]? = (l.map cellOf)[j]? := by rw [ht]
      rw [Nat.mul_one, List.getElem?_take, if_pos hj, List.getElem?_map, List.getElem?_eq_getElem hj] at this
      exact this
    · rintro e w' ⟨rfl, hG, M, hM, hu⟩
      refine ⟨rfl, hG, fun g' L hg' hL' => ?_⟩
      have : g = g' := by simpa [Value.ownBlock] using hg'
      subst this
      have hLL : L = cur.toList := by
        unfold Blk at hL hL'
        rw [hL] at hL'
        injection hL' with h
        injection h with h
        have := congrArg Array.toList h
        simpa using this.symm
      subst hLL
      exact ⟨M, hM, hu⟩
end Go.Proofs.YtlpboleclehilaaDoor
