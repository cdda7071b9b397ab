/-
  ipv6cp.those: the options of which a function tells that they are so, copied.
-/
import Derived.Test.YtciijnhagdfpiaaI6Look
import Derived.Test.YtciijnhagdfpiaaOpWithout
namespace Go.Proofs.Ytciijnhagdfpiaa
open Go.RowKit
set_option maxRecDepth 100000
set_option maxHeartbeats 4000000
set_option linter.unusedSimpArgs false
set_option linter.unusedVariables false

/-- of the first k options those that are so -/
def pick (q : Nat → Bool) (s : List Opt) : Nat → List Opt
  | 0 => []
  | k + 1 => pick q s k ++ if q k then [s.getD k (0, [])] else []
theorem pick_len (q : Nat → Bool) (s : List Opt) : ∀ k, (pick q s k).length ≤ k
  | 0 => Nat.le_refl _
  | k + 1 => by
    have := pick_len q s k
    rw [pick, List.length_append]
    split <;> simp <;> omega
theorem pick_step (q : Nat → Bool) (s : List Opt) (k : Nat) (h : k < s.length) : pick q s (k + 1) = pick q s k ++ if q k then [s[k]] else [] := by
  rw [pick, List.getD_eq_getElem?_getD, List.getElem?_eq_getElem h]
  rfl
theorem gb_far {w V W : World} {z : Nat} {r : Option Nat} (h1 : w.grownBy V (some z)) (h2 : V.grownBy W r) (hr : ∀ g, r = some g → w.heap.size ≤ g) : w.grownBy W (some z) :=
  ⟨h2.os.trans h1.os, h2.tape.trans h1.tape, h2.output.trans h1.output, Nat.le_trans h1.size h2.size, fun i hi hne => (h2.block i (Nat.lt_of_lt_of_le hi h1.size) (fun e => by have := hr i e.symm; omega)).trans (h1.block i hi hne)⟩
/-- what a function tells of one option, as the look goes on -/
def SoC (f z B : Nat) (mine : Int) (s : List Opt) (q m : Nat → Bool) : Prop := ∀ (i : Nat) (hi : i < s.length) (W : World) (E : Option Addr) (kk cc : Nat), B ≤ W.heap.size → Blk W z 58 (lookC mine (m i)) → Rd W B E kk (s[i]'hi).2 → kk ≤ cc →
  Calls Try.prog f #[.pointer (some ⟨z, 0, none⟩), .agg #[.int .i64 (s[i]'hi).1, .slice E kk cc]] W fun e W' => e = .returned (.bool (q i)) ∧ Blk W' z 58 (lookC mine (m (i + 1))) ∧ W.grownBy W' (some z)
def ThJ (w V : World) (z B : Nat) (mine : Int) (s : List Opt) (q m : Nat → Bool) (k : Nat) (v : Value) : Prop := OwnR V w.heap.size B v (pick q s k) ∧ Blk V z 58 (lookC mine (m k)) ∧ w.grownBy V (some z)
theorem those_any (f z B : Nat) (mine : Int) (s : List Opt) (q m : Nat → Bool) (A : Option Addr) (n c : Nat) (w : World) (hcf : ∀ X K' E' k' c', (callFunc f #[.pointer (some ⟨z, 0, none⟩), .agg #[.int .i64 K', .slice E' k' c']]).run Try.prog X = .ok (.enter f #[.pointer (some ⟨z, 0, none⟩), .agg #[.int .i64 K', .slice E' k' c']]) X)
    (hS : SoC f z B mine s q m) (hr : OptRd w B A n s) (hB : B ≤ w.heap.size) (hz : Blk w z 58 (lookC mine (m 0))) (hBz : B ≤ z) (hn : n ≤ 4398046511103) :
    Calls Try.prog 37 #[.slice A n c, .func (.func f) #[.pointer (some ⟨z, 0, none⟩)] #[]] w fun e w' => ∃ F d, e = .returned (.slice F (pick q s n).length d) ∧ OwnL w' w.heap.size (.slice F (pick q s n).length d) (pick q s n) ∧ Blk w' z 58 (lookC mine (m n)) ∧ w.grownBy w' (some z) := by
  have HR := Lib.hid hr
  have HS := Lib.hid hS
  have HZ := Lib.hid hz.lt
  have hlen := hr.1
  have H0 : Hid (ThJ w w z B mine s q m 0 (.slice none 0 0)) := ⟨OwnR.nil _ _ _, hz, World.grownBy.refl _ _⟩
  clear hr hS hz
  go_enter Try.func37, Try.ntmps37
  go_wp2
  go_loopw [5, 10] (fun v i wr => ∃ (V : World) (k : Nat), V = wr ∧ k ≤ n ∧ i = .int .i64 k ∧ Hid (ThJ w V z B mine s q m k v)) (fun _ i _ => n - (intOf i).toNat)
  case atStart => exact ⟨_, 0, rfl, Nat.zero_le _, rfl, H0⟩
  case round =>
    rename_i wr
    obtain ⟨V, k, rfl, hkn, rfl, hJ⟩ := hrel
    by_cases hlt : k < n
    · obtain ⟨b, off, rfl, hbl, hc⟩ := HR.out.2 (by omega)
      obtain ⟨c1, E, kk, cc, c2, hRd, hE, hkc, hkb⟩ := hc k (by omega)
      have hk : k < s.length := by omega
      have hstep := pick_step q s k hk
      have hso := HS.out k hk
      obtain ⟨x, hx⟩ : ∃ x, s[k]'hk = x := ⟨_, rfl⟩
      rw [hx] at c1 hRd hstep hso
      obtain ⟨K, l⟩ := x
      obtain ⟨hL, hbz, hgw⟩ := hJ.out
      have s1 := hgw.size
      have hzl := HZ.out
      have d1 : V.cell? ⟨b, off + k * 2, none⟩ = some (.int .i64 K) := hgw.cell c1 (fun e => absurd (show b = z by injection e) (by omega))
      have d2 : V.cell? ⟨b, off + k * 2 + 1, none⟩ = some (.slice E kk cc) := hgw.cell c2 (fun e => absurd (show b = z by injection e) (by omega))
      have hRV : Rd V B E kk l := hRd.grown hgw hB (fun g e => by injection e; omega)
      have hpl := pick_len q s k
      have CH := Lib.hid (show ∀ v, OwnR V w.heap.size B v (pick q s k) → Calls Try.prog f #[.pointer (some ⟨z, 0, none⟩), .agg #[.int .i64 K, .slice E kk cc]] (V.alloc (.cells #[.int .i64 K, .slice E kk cc] 54)) fun e W2 => e = .returned (.bool (q k)) ∧
          (W2.cell? ⟨V.heap.size, 0, none⟩ = some (.int .i64 K) ∧ W2.cell? ⟨V.heap.size, 1, none⟩ = some (.slice E kk cc)) ∧ Hid (q k = false → ThJ w W2 z B mine s q m (k + 1) v) ∧
          (q k = true → ∃ v' w', Hid ((Builtin.append_ #[23, 23] 23 #[v, .slice (some ⟨W2.heap.size, 0, none⟩) 1 1]).run Try.prog (W2.alloc (.cells #[.int .i64 K, .slice E kk cc] 54)) = .ok v' w') ∧ Hid (ThJ w w' z B mine s q m (k + 1) v')) from by
        intro v hv
        have BA : Below V.heap.size V (V.alloc (.cells #[.int .i64 K, .slice E kk cc] 54)) := (Below.refl _ _).alloc (Nat.le_refl _) _
        have kn := blk_new V 54 [.int .i64 K, .slice E kk cc]
        have hzV : z < V.heap.size := by omega
        refine (hso _ E kk cc (by have := BA.size; omega) ((BA.block _ hzV).trans hbz) (hRV.below (BA.mono (by omega))) hkc).mono ?_
        rintro e W2 ⟨rfl, hz2, hg2⟩
        have k2 := (hg2.block _ (Blk.lt kn) (fun e => by injection e; omega)).trans kn
        have hv0 : ∀ g, v.ownBlock = some g → w.heap.size ≤ g := fun g e => (hv.block g e).1
        have gV2 : V.grownBy W2 (some z) := gb_trans (only_of_below BA _) hg2
        have hvz : v.ownBlock = none ∨ v.ownBlock ≠ some z := by
          rcases hvo : v.ownBlock with _ | g
          · exact .inl rfl
          · have := hv0 g hvo
            exact .inr (fun e => by injection e; omega)
        have hv2 := hv.grown gV2 hvz (by omega) (fun g e => by injection e; omega)
        have gw2 := gb_trans hgw gV2
        refine ⟨rfl, ⟨Blk.cell k2 0, Blk.cell k2 1⟩, Lib.hid (fun hq => ⟨by rw [hstep, hq, if_neg (by simp), List.append_nil]; exact hv2, hz2, gw2⟩), fun hq => ?_⟩
        have BA2 : Below W2.heap.size W2 (W2.alloc (.cells #[.int .i64 K, .slice E kk cc] 54)) := (Below.refl _ _).alloc (Nat.le_refl _) _
        have kn2 := blk_new W2 54 [.int .i64 K, .slice E kk cc]
        have hvn : v.ownBlock = none ∨ v.ownBlock ≠ none := by
          rcases hvo : v.ownBlock with _ | g
          · exact .inl rfl
          · exact .inr (by simp)
        have hs2 := gV2.size
        have hv3 := hv2.grown (only_of_below BA2 none) hvn (by omega) (fun g e => by simp at e)
        have hR2 : Rd W2 B E kk l := hRV.grown gV2 (by omega) (fun g e => by injection e; omega)
        obtain ⟨v', w', h1, h2, h3, h4⟩ := appR_run hv3 W2.heap.size K E kk cc l (kn2.cell 0) (kn2.cell 1) (hR2.below (BA2.mono (by omega))) hE hkc hkb (by omega) (by have := BA2.size; omega) hB
        have hz3 := (BA2.block _ (Blk.lt hz2)).trans hz2
        have hz4 := (h3.block _ (Blk.lt hz3) (fun e => by have := hv0 z e.symm; omega)).trans hz3
        refine ⟨v', w', Lib.hid h1, Lib.hid ⟨by rw [hstep, hq, if_pos rfl]; exact h2, hz4, ?_⟩⟩
        exact gb_far (gb_trans gw2 (only_of_below BA2 _)) h3 hv0)
      have CV := Lib.hid (CH.out _ hL)
      clear CH hc c1 c2 hx hstep hso hL hbz hgw hJ hRd hRV hE hkc
      rcases hqk : q k with _ | _
      · rw [hqk] at CV
        go_wp2_with fail
        refine CV.out.mono ?_
        rintro e W2 ⟨rfl, ⟨x0, x1⟩, HN, -⟩
        clear CV
        go_wp2
        go_roundw
        case rel => exact ⟨_, k + 1, rfl, by omega, by go_num, HN.out trivial⟩
        case measure => simp [intOf]; omega
      · rw [hqk] at CV
        go_wp2_with fail
        refine CV.out.mono ?_
        rintro e W2 ⟨rfl, ⟨x0, x1⟩, -, HT⟩
        clear CV
        obtain ⟨v', w', HR7, HN⟩ := HT trivial
        clear HT
        go_wp2_with (at_builtin; refine wpList_appO 23 23 rfl (.tmp 17) (.tmp 19) rfl _ _ rfl rfl _ _ HR7.out ?_)
        go_roundw
        case rel => exact ⟨_, k + 1, rfl, by omega, by go_num, HN⟩
        case measure => simp [intOf]; omega
    · have hk' : k = n := by omega
      subst hk'
      have WO := Lib.hid (show ∃ A2 d2, u5 = .slice A2 (pick q s k).length d2 ∧ Calls Try.prog 40 #[.slice A2 (pick q s k).length d2, .slice none 0 0] V fun e w' => ∃ F d, e = .returned (.slice F (pick q s k).length d) ∧ OwnL w' w.heap.size (.slice F (pick q s k).length d) (pick q s k) ∧ Blk w' z 58 (lookC mine (m k)) ∧ w.grownBy w' (some z) from by
        obtain ⟨hL, hbz, hgw⟩ := hJ.out
        have s1 := hgw.size
        obtain ⟨A2, d2, e2, hrd, _⟩ := hL.rd (by omega)
        refine ⟨A2, d2, e2, (without_any A2 _ d2 V.heap.size (pick q s k) none 0 0 [] V hrd (Nat.le_refl _) (by have := pick_len q s k; omega) RdI.nil (by omega)).mono ?_⟩
        rintro e w' ⟨v, rfl, ho, hb⟩
        rw [show woo [] (pick q s k) = pick q s k by unfold woo; simp] at ho
        obtain ⟨F, d, rfl⟩ := ho.shape
        exact ⟨F, d, rfl, ho.base_le s1, (hb.block _ (Blk.lt hbz)).trans hbz, gb_trans hgw (only_of_below hb _)⟩)
      obtain ⟨A2, d2, rfl, WC⟩ := WO.out
      have WC := Lib.hid WC
      clear hJ WO
      go_wp2_with (go_at_call 40; (with_reducible refine WC.out.mono ?_); rintro e w' ⟨F, d, rfl, hf⟩; have HF := Lib.hid hf; clear hf)
      go_ret
      exact ⟨F, d, rfl, HF.out⟩
end Go.Proofs.Ytciijnhagdfpiaa
