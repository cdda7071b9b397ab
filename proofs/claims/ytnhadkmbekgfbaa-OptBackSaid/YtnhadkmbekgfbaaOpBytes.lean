/-
  opt.Bytes of any list.
-/
import Derived.Test.YtnhadkmbekgfbaaOpEnc
import Derived.LoopTactic
namespace Go.Proofs.Ytnhadkmbekgfbaa
open Go.RowKit
set_option maxRecDepth 100000
set_option maxHeartbeats 4000000
set_option linter.unusedSimpArgs false
set_option linter.unusedVariables false

def ByPost (w : World) (s : List Opt) (e : Ending) (w' : World) : Prop := ∃ D m c E, e = .returned (.tuple #[.slice D m c, .int .i64 E]) ∧ Below w.heap.size w w' ∧
  (E = 0 → okS s ∧ s.length ≤ 32 ∧ Own w' w.heap.size (.slice D m c) (enc s)) ∧ (okS s → s.length ≤ 32 → E = 0)
theorem cell_int {C : Int} (h : 0 ≤ C ∧ C ≤ 255) : cellOf (UInt8.ofNat C.toNat) = .int .u8 C := cellOf_int h
theorem blk_rd {w : World} {g : Nat} {l : List UInt8} (h : Blk w g 5 (l.map cellOf)) : Rd w (g + 1) (some ⟨g, 0, none⟩) l.length l := by
  refine ⟨rfl, fun _ => ⟨g, 0, rfl, by omega, fun j hj => ?_⟩⟩
  rw [Nat.zero_add, h.cell j]
  exact cells_at l j hj
theorem okS_take {s : List Opt} {k : Nat} (h : k < s.length) (h1 : ∀ o ∈ s.take k, okO o) (h2 : okO s[k]) : ∀ o ∈ s.take (k + 1), okO o := by
  rw [List.take_succ_eq_append_getElem h]
  exact okS_snoc h1 h2
/-- an option more, in two appends -/
theorem bytes_step {w wr : World} {base : Nat} {v : Value} {t : List UInt8} (ho : Own wr base v t) (hb : Below w.heap.size w wr) (hbase : w.heap.size = base) (K : Int) (E : Option Addr) (kk cc : Nat) (l : List UInt8) (hr : Rd w base E kk l) (hE : E = none → cc = 0) (hK : okO (K, l)) (ht : t.length ≤ 100000) :
    ∃ v1 w1, (Builtin.append_ #[52, 52] 52 #[v, .slice (some ⟨wr.heap.size + 1, 0, none⟩) 2 2]).run Try.prog ((wr.alloc (.cells #[.int .i64 K, .slice E kk cc] 70)).alloc (.cells #[.int .u8 K, .int .u8 (2 + (kk : Int))] 5)) = .ok v1 w1 ∧
      w1.cell? ⟨wr.heap.size, 1, none⟩ = some (.slice E kk cc) ∧
      ∃ v2 w2, (Builtin.append_ #[52, 52] 52 #[v1, .slice E kk cc]).run Try.prog w1 = .ok v2 w2 ∧ Own w2 base v2 (t ++ encO (K, l)) ∧ Below w.heap.size w w2 := by
  subst hbase
  have hl := hr.1
  have hk2 : l.length ≤ 253 := hK.2
  obtain ⟨W2, hW2⟩ : ∃ W2, W2 = (wr.alloc (.cells #[.int .i64 K, .slice E kk cc] 70)).alloc (.cells #[.int .u8 K, .int .u8 (2 + (kk : Int))] 5) := ⟨_, rfl⟩
  have s0 := hb.size
  have hs2 : W2.heap.size = wr.heap.size + 1 + 1 := by rw [hW2]; simp
  have hB2 : Below wr.heap.size wr W2 := by rw [hW2]; exact ((Below.refl _ _).alloc (Nat.le_refl _) _).alloc (by simp) _
  have hbx : Blk W2 wr.heap.size 70 [.int .i64 K, .slice E kk cc] := by
    rw [hW2]
    exact (Below.heap_alloc _ _ _ (by simp)).trans (blk_new wr _ _)
  have hb2 : Blk W2 (wr.heap.size + 1) 5 ([UInt8.ofNat K.toNat, UInt8.ofNat (l.length + 2)].map cellOf) := by
    rw [hW2]
    have h := blk_new (wr.alloc (.cells #[.int .i64 K, .slice E kk cc] 70)) 5 [.int .u8 K, .int .u8 (2 + (kk : Int))]
    rw [World.size_alloc] at h
    rw [List.map_cons, List.map_cons, List.map_nil, cell_int hK.1, show cellOf (UInt8.ofNat (l.length + 2)) = .int .u8 (2 + (kk : Int)) from (cell_int (C := ((l.length + 2 : Nat) : Int)) ⟨by omega, by omega⟩).trans (by congr 1; omega)]
    exact h
  rw [← hW2]
  have ho2 := ho.later hB2
  obtain ⟨v1, w1, r1, o1, g1, b1⟩ := append_run ho2 2 (blk_rd hb2) (fun e => by cases e) (by simp; omega) (by omega)
  have hlo := fun q hq => (ho2.block q hq)
  have hne : v.ownBlock = none ∨ some wr.heap.size ≠ v.ownBlock := by
    rcases e : v.ownBlock with _ | q
    · exact .inl rfl
    · have := (ho.block q e).2
      exact .inr (fun e => by injection e; omega)
  have x1 : Blk w1 wr.heap.size 70 [.int .i64 K, .slice E kk cc] := by
    refine (g1.block _ hbx.lt ?_).trans hbx
    rcases hne with h | h
    · rw [h]; simp
    · exact h
  have B1 : Below w.heap.size w w1 := below_own (hb.trans (hB2.mono s0)) ho2 g1 (Nat.le_refl _) (by omega)
  have s1 := B1.size
  obtain ⟨v2, w2, r2, o2, g2, b2⟩ := append_run o1 cc (hr.below B1) hE (by simp; omega) (by omega)
  refine ⟨v1, w1, r1, x1.cell 1, v2, w2, r2, ?_, below_own B1 o1 g2 (Nat.le_refl _) s1⟩
  rw [List.append_assoc] at o2
  exact o2
theorem enc_take (s : List Opt) (k : Nat) (h : k < s.length) : enc (s.take (k + 1)) = enc (s.take k) ++ encO s[k] := by
  rw [List.take_succ_eq_append_getElem h, enc_snoc]
theorem bytes_any (A : Option Addr) (n c B : Nat) (s : List Opt) (w : World) (hr : OptRd w B A n s) (hB : B ≤ w.heap.size) (hn : n ≤ 4398046511104) :
    Calls Try.prog 31 #[.slice A n c] w fun e w' => ByPost w s e w' := by
  have HR := Lib.hid (hr.wide hB)
  clear hr
  go_enter Try.func31, Try.ntmps31
  go_wp2
  go_loopw [11] (fun i wr => ∃ k : Nat, k ≤ n ∧ i = .int .i64 k ∧ Hid (Below w.heap.size w wr ∧ ∀ o ∈ s.take k, okO o)) (fun i _ => n - (intOf i).toNat)
  case atStart => exact ⟨0, Nat.zero_le _, rfl, Below.refl _ _, fun o ho => by simp at ho⟩
  case round =>
    rename_i wr
    obtain ⟨k, hkn, rfl, hJ⟩ := hrel
    have hlen := HR.out.1
    obtain ⟨hBw, hok⟩ := hJ.out
    have s1 := hBw.size
    by_cases hlt : k < n
    · obtain ⟨b, off, rfl, hbl, hc⟩ := HR.out.2 (by omega)
      obtain ⟨x1, E, kk, cc, x2, hRd, hE, hkc, hkb⟩ := hc k (by omega)
      have hbz : b < w.heap.size := by omega
      obtain ⟨y, hy⟩ : ∃ y, s[k]'(by omega) = y := ⟨_, rfl⟩
      have hin : y ∈ s := by rw [← hy]; exact List.getElem_mem _
      have hst := fun (h : okO y) => okS_take (s := s) (k := k) (by omega) hok (by rw [hy]; exact h)
      rw [hy] at x1 hRd
      obtain ⟨K, l⟩ := y
      have d1 : wr.cell? ⟨b, off + k * 2, none⟩ = some (.int .i64 K) := (hBw.cell hbz).trans x1
      have d2 : wr.cell? ⟨b, off + k * 2 + 1, none⟩ = some (.slice E kk cc) := (hBw.cell hbz).trans x2
      have BW : Below w.heap.size w (wr.alloc (.cells #[.int .i64 K, .slice E kk cc] 70)) := hBw.alloc s1 _
      have hl : l.length = kk := hRd.1
      have HBW := Lib.hid BW
      by_cases hK : 0 ≤ K ∧ K ≤ 255
      · have IB := Lib.hid fun W => isByte_yes K W hK
        by_cases hL : l.length ≤ 253
        · have HN := Lib.hid (hst ⟨hK, hL⟩)
          have t1 : ¬ (253 : Int) < (kk : Int) := by omega
          clear hc x1 x2 hy hJ hBw hok BW hRd hlen hin hst hl hL hK
          go_wp2_with (go_at_call 87; ((with_reducible refine (IB.out _).mono ?_); rintro e w2 ⟨rfl, rfl⟩))
          go_roundw
          case rel => exact ⟨k + 1, by omega, by go_num, HBW.out, HN.out⟩
          case measure => simp [intOf]; omega
        · have HNO : Hid (¬ okS s) := fun h => hL (h _ hin).2
          have t1 : (253 : Int) < (kk : Int) := by omega
          clear hc x1 x2 hy hJ hBw hok BW hRd hlen hin hst hl hL hK
          go_wp2_with (go_at_call 87; ((with_reducible refine (IB.out _).mono ?_); rintro e w2 ⟨rfl, rfl⟩))
          go_ret2
          exact ⟨none, 0, 0, 91, rfl, HBW.out, fun h => by omega, fun h => absurd h HNO.out⟩
      · have IB := Lib.hid fun W => isByte_no K W hK
        have HNO : Hid (¬ okS s) := fun h => hK (h _ hin).1
        clear hc x1 x2 hy hJ hBw hok BW hRd hlen hin hst hl hK
        go_wp2_with (go_at_call 87; ((with_reducible refine (IB.out _).mono ?_); rintro e w2 ⟨rfl, rfl⟩))
        go_ret2
        exact ⟨none, 0, 0, 91, rfl, HBW.out, fun h => by omega, fun h => absurd h HNO.out⟩
    · obtain rfl : k = n := by omega
      rw [List.take_of_length_le (by omega)] at hok
      have HB1 := Lib.hid hBw
      have HOK := Lib.hid hok
      by_cases h32 : 32 < k
      · have h32' : (32 : Int) < (k : Int) := by omega
        have HNO : Hid (¬ s.length ≤ 32) := by show ¬ _; omega
        clear hJ hBw hok hlen
        go_wp2
        go_ret2
        exact ⟨none, 0, 0, 7, rfl, HB1.out, fun h => by omega, fun _ h => absurd h HNO.out⟩
      · have h32' : ¬ (32 : Int) < (k : Int) := by omega
        clear hJ hBw hok hlen
        go_wp2
        go_loopw [6, 31] (fun v i w2 => ∃ (j : Nat) (W : World), W = w2 ∧ j ≤ k ∧ i = .int .i64 j ∧ Hid (Own w2 w.heap.size v (enc (s.take j)) ∧ Below w.heap.size w w2)) (fun _ i _ => k - (intOf i).toNat)
        case atStart => exact ⟨0, _, rfl, Nat.zero_le _, rfl, Own.nil _ _, HB1.out⟩
        case round =>
          obtain ⟨j, w2, rfl, hjn, rfl, hJ⟩ := hrel
          have hlen := HR.out.1
          obtain ⟨hOw, hBw⟩ := hJ.out
          have s2 := hBw.size
          by_cases hjt : j < k
          · obtain ⟨b, off, rfl, hbl, hc⟩ := HR.out.2 (by omega)
            obtain ⟨x1, E, kk, cc, x2, hRd, hE, hkc, hkb⟩ := hc j (by omega)
            have hbz : b < w.heap.size := by omega
            obtain ⟨y, hy⟩ : ∃ y, s[j]'(by omega) = y := ⟨_, rfl⟩
            have hin : okO y := HOK.out _ (by rw [← hy]; exact List.getElem_mem _)
            have hst := enc_take s j (by omega)
            rw [hy] at x1 hRd hst
            have hel := enc_len (s.take j) (fun o ho => HOK.out o (List.mem_of_mem_take ho))
            have htl := List.length_take_le j s
            obtain ⟨K, l⟩ := y
            have d1 : w2.cell? ⟨b, off + j * 2, none⟩ = some (.int .i64 K) := (hBw.cell hbz).trans x1
            have d2 : w2.cell? ⟨b, off + j * 2 + 1, none⟩ = some (.slice E kk cc) := (hBw.cell hbz).trans x2
            obtain ⟨v1, w3, r1, y1, v2, w4, r2, o2, b2⟩ := bytes_step hOw hBw rfl K E kk cc l hRd hE hin (by omega)
            rw [← hst] at o2
            have R1 := Lib.hid r1
            have R2 := Lib.hid r2
            have HN := Lib.hid (And.intro o2 b2)
            have hl : l.length = kk := hRd.1
            obtain ⟨⟨k1, k2⟩, k3⟩ := hin
            have k1' : 0 ≤ K := k1
            have k2' : K ≤ 255 := k2
            have k3' : (kk : Int) ≤ 253 := by have : l.length ≤ 253 := k3; omega
            clear hc x1 x2 hy hJ hBw hOw hRd hlen hst hel htl r1 r2 o2 b2 hl k1 k2 k3
            go_wp2_with (first
              | (at_builtin; refine wpList_app rfl (.tmp 35) (.tmp 44) rfl _ _ rfl rfl _ _ R1.out ?_)
              | (at_builtin; refine wpList_app rfl (.tmp 46) (.tmp 48) rfl _ _ rfl rfl _ _ R2.out ?_))
            go_roundw
            case rel => exact ⟨j + 1, _, rfl, by omega, by go_num, HN.out⟩
            case measure => simp [intOf]; omega
          · obtain rfl : j = k := by omega
            rw [List.take_of_length_le (by omega)] at hOw
            have HL : Hid (s.length ≤ 32) := by show _ ≤ _; omega
            have HBW := Lib.hid hBw
            obtain ⟨D, cc, rfl, _⟩ := own_rdv1 hOw
            have HOW := Lib.hid hOw
            obtain ⟨m, hm⟩ : ∃ m, (enc s).length = m := ⟨_, rfl⟩
            rw [hm] at HOW ⊢
            clear hJ hBw hOw hlen hm
            go_wp2
            go_ret2
            exact ⟨D, m, cc, 0, rfl, HBW.out, fun _ => ⟨HOK.out, HL.out, HOW.out⟩, fun _ _ => rfl⟩
end Go.Proofs.Ytnhadkmbekgfbaa
