/-
  opt.Without of any list, with any types.
-/
import Derived.Test.YtlpboleclehilaaDoorOpList
import Derived.LoopTactic
namespace Go.Proofs.YtlpboleclehilaaDoor
open Go.RowKit
set_option maxRecDepth 100000
set_option maxHeartbeats 4000000
set_option linter.unusedSimpArgs false
set_option linter.unusedVariables false

theorem woo_step (ks : List Int) (s : List Opt) (k : Nat) (h : k < s.length) : woo ks (s.take (k + 1)) = woo ks (s.take k) ++ if ks.contains s[k].1 then [] else [s[k]] := by
  unfold woo
  rw [List.take_succ_eq_append_getElem h, List.filter_append]
  congr 1
  by_cases e : s[k].1 ∈ ks <;> simp [e]
theorem woo_len (ks : List Int) (s : List Opt) (k : Nat) : (woo ks (s.take k)).length ≤ k := by
  have := (List.filter_sublist (p := fun o : Opt => !ks.contains o.1) (l := s.take k)).length_le
  have h2 := List.length_take_le k s
  unfold woo
  omega
theorem app_set {w : World} {base : Nat} {v : Value} {s : List Opt} (h : OwnL w base v s) (K : Int) (E : Option Addr) (k c : Nat) (l : List UInt8) (ho : Own w base (.slice E k c) l) (hn : s.length < 4398046511104) (hb : base ≤ w.heap.size) (a : World) (hB : Below a.heap.size a w) (ha : a.heap.size ≤ base) :
    ∃ v' w', (Builtin.append_ #[28, 28] 28 #[v, .slice (some ⟨w.heap.size, 0, none⟩) 1 1]).run Tryd.prog (w.alloc (.cells #[.int .i64 K, .slice E k c] 61)) = .ok v' w' ∧ OwnL w' base v' (s ++ [(K, l)]) ∧ Below a.heap.size a w' := by
  have hB1 : Below w.heap.size w (w.alloc (.cells #[.int .i64 K, .slice E k c] 61)) := (Below.refl _ _).alloc (Nat.le_refl _) _
  have hb1 := blk_new w 61 [.int .i64 K, .slice E k c]
  have hs := hB.size
  have hL := h.later hB1
  obtain ⟨v', w', hrun, h4, h5, h6⟩ := appL_run hL w.heap.size K E k c l (hb1.cell 0) (hb1.cell 1) (ho.later hB1) hn (by simp; omega)
  refine ⟨v', w', hrun, h4, (hB.alloc (by omega) _).grown h5 (by simp; omega) fun q hq => ?_⟩
  have := (hL.block q hq).1
  omega
theorem without_any (A : Option Addr) (n c B : Nat) (s : List Opt) (D : Option Addr) (m d : Nat) (ks : List Int) (w : World) (hr : OptRd w B A n s) (hB : B ≤ w.heap.size) (hn : n ≤ 4398046511103) (hk : RdI w B D m ks) (hm : m ≤ 1152921504606846976) :
    Calls Tryd.prog 47 #[.slice A n c, .slice D m d] w fun e w' => ∃ v, e = .returned v ∧ OwnL w' w.heap.size v (woo ks s) ∧ Below w.heap.size w w' := by
  have HR := Lib.hid hr
  have HK := Lib.hid hk
  clear hr hk
  go_enter Tryd.func47, Tryd.ntmps47
  go_wp2
  go_loopw [5, 10] (fun v i wr => ∃ k : Nat, k ≤ n ∧ i = .int .i64 k ∧ Hid (OwnL wr w.heap.size v (woo ks (s.take k)) ∧ Below w.heap.size w wr)) (fun _ i _ => n - (intOf i).toNat)
  case atStart => exact ⟨0, Nat.zero_le _, rfl, OwnL.nil _ _, Below.refl _ _⟩
  case round =>
    rename_i wr
    obtain ⟨k, hkn, rfl, hJ⟩ := hrel
    by_cases hlt : k < n
    · have hlen := HR.out.1
      obtain ⟨b, off, rfl, hbl, hc⟩ := HR.out.2 (by omega)
      obtain ⟨c1, E, kk, cc, c2, hRd, hE, hkc, hkb⟩ := hc k (by omega)
      have hbz : b < w.heap.size := by omega
      obtain ⟨x, hx⟩ : ∃ x, s[k]'(by omega) = x := ⟨_, rfl⟩
      have hstep := woo_step ks s k (by omega)
      rw [hx] at c1 hRd hstep
      obtain ⟨K, l⟩ := x
      have hJ1 := hJ.out
      obtain ⟨hL, hBw⟩ := hJ1
      have s1 := hBw.size
      have d1 : wr.cell? ⟨b, off + k * 2, none⟩ = some (.int .i64 K) := (hBw.cell hbz).trans c1
      have d2 : wr.cell? ⟨b, off + k * 2 + 1, none⟩ = some (.slice E kk cc) := (hBw.cell hbz).trans c2
      have BA : Below wr.heap.size wr (wr.alloc (.cells #[.int .i64 K, .slice E kk cc] 61)) := (Below.refl _ _).alloc (Nat.le_refl _) _
      have BW : Below w.heap.size w (wr.alloc (.cells #[.int .i64 K, .slice E kk cc] 61)) := hBw.alloc s1 _
      have CT := Lib.hid (contains_any D m d B ks K (wr.alloc (.cells #[.int .i64 K, .slice E kk cc] 61)) (HK.out.below BW hB) hm)
      have hL1 := hL.later BA
      have hwl := woo_len ks s k
      by_cases hin : ks.contains K = true
      · rw [if_pos hin, List.append_nil] at hstep
        rw [hin] at CT
        have HN := Lib.hid (show OwnL _ _ _ _ ∧ Below _ _ _ from ⟨hstep ▸ hL1, BW⟩)
        clear hc c1 c2 hx hstep hJ hL hBw BA BW hL1 hin hRd hlen
        go_wp2_with (go_at_call 56; ((with_reducible refine CT.out.mono ?_); rintro e w2 ⟨rfl, rfl⟩))
        go_roundw
        case rel => exact ⟨k + 1, by omega, by go_num, HN.out⟩
        case measure => simp [intOf]; omega
      · rw [if_neg hin] at hstep
        rw [show ks.contains K = false by simpa using hin] at CT
        have CL : Hid (Calls Tryd.prog 57 #[.agg #[.int .i64 K, .slice E kk cc]] (wr.alloc (.cells #[.int .i64 K, .slice E kk cc] 61)) fun e w3 => ∃ F ff, e = .returned (.agg #[.int .i64 K, .slice F kk ff]) ∧
            ∃ v' w', (Builtin.append_ #[28, 28] 28 #[u5, .slice (some ⟨w3.heap.size, 0, none⟩) 1 1]).run Tryd.prog (w3.alloc (.cells #[.int .i64 K, .slice F kk ff] 61)) = .ok v' w' ∧ OwnL w' w.heap.size v' (woo ks (s.take (k + 1))) ∧ Below w.heap.size w w') := by
          refine (oclone_any K E kk cc B l _ (hRd.below (BW.mono hB)) (by simp; omega) hE (by omega)).mono ?_
          rintro e w3 ⟨F, ff, rfl, ho, hb3⟩
          have s3 := hb3.size
          have hb0 : Below w.heap.size w w3 := BW.trans (hb3.mono (by simp; omega))
          rw [hstep]
          exact ⟨F, ff, rfl, app_set (hL1.later hb3) K F kk ff l (ho.base_le (by simp; omega)) (by omega) (by simp at s3; omega) w hb0 (Nat.le_refl _)⟩
        clear hc c1 c2 hx hstep hJ hL hBw BA BW hL1 hin hRd hlen
        go_wp2_with (first
          | (go_at_call 56; ((with_reducible refine CT.out.mono ?_); rintro e w2 ⟨rfl, rfl⟩))
          | (go_at_call 57; ((with_reducible refine CL.out.mono ?_); rintro e w3 ⟨F, ff, rfl, v', w', hrun, hl2, hb2⟩; have HR := Lib.hid hrun; have HN := Lib.hid (And.intro hl2 hb2); clear hrun hl2 hb2))
          | (at_builtin; refine wpList_appO 28 28 rfl (.tmp 19) (.tmp 22) rfl _ _ rfl rfl _ _ HR.out ?_))
        go_roundw
        case rel => exact ⟨k + 1, by omega, by go_num, HN.out⟩
        case measure => simp [intOf]; omega
    · have hlen := HR.out.1
      rw [List.take_of_length_le (by omega)] at hJ
      clear hlen
      go_wp2
      go_ret
      exact ⟨_, rfl, hJ.out⟩
end Go.Proofs.YtlpboleclehilaaDoor
