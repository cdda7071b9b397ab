/-
  eap: what a message is: its bytes' bounds, kinds, what is wrong of it.
  eap: what a message is as bytes (written by gen_eadata.py).
  eap: what is wrong of a message (written by gen_eafault.py).
  eap: the methods of a message's kind (written by gen_eawrite.py).
  eap.Write of any message (written by gen_eawrite.py).
-/
import Derived.Test.YtjimoegegigoiaaDoorPkBase
namespace Go.Proofs.YtjimoegegigoiaaDoor
open Go.RowKit Go.Shelf
set_option maxRecDepth 100000
set_option maxHeartbeats 800000
set_option linter.unusedSimpArgs false
set_option linter.unusedVariables false

abbrev msV (C I T : Int) (A : Option Addr) (n c : Nat) (t : ByteArray) : Value := .agg #[.int .i64 C, .int .i64 I, .int .i64 T, .slice A n c, .string t]
theorem byteRight_any (z : Int) (w : World) : Calls Tryd.prog 38 #[.int .i64 z] w fun e w' => e = .returned (.bool (idB z)) ∧ w = w' := by
  unfold idB
  by_cases h0 : 0 ≤ z
  · rw [decide_eq_true h0]
    by_cases h1 : z ≤ 255
    · rw [decide_eq_true h1]
      go_enter Tryd.func38, Tryd.ntmps38
      go_wp2
      go_ret
      exact ⟨rfl, rfl⟩
    · rw [decide_eq_false h1]
      go_enter Tryd.func38, Tryd.ntmps38
      go_wp2
      go_ret
      exact ⟨rfl, rfl⟩
  · rw [decide_eq_false h0]
    go_enter Tryd.func38, Tryd.ntmps38
    go_wp2
    go_ret
    exact ⟨rfl, rfl⟩
def cdB (z : Int) : Bool := decide (1 ≤ z) && decide (z ≤ 4)
theorem codeRight_any (z : Int) (w : World) : Calls Tryd.prog 39 #[.int .i64 z] w fun e w' => e = .returned (.bool (cdB z)) ∧ w = w' := by
  unfold cdB
  by_cases h0 : 1 ≤ z
  · rw [decide_eq_true h0]
    by_cases h1 : z ≤ 4
    · rw [decide_eq_true h1]
      go_enter Tryd.func39, Tryd.ntmps39
      go_wp2
      go_ret
      exact ⟨rfl, rfl⟩
    · rw [decide_eq_false h1]
      go_enter Tryd.func39, Tryd.ntmps39
      go_wp2
      go_ret
      exact ⟨rfl, rfl⟩
  · rw [decide_eq_false h0]
    go_enter Tryd.func39, Tryd.ntmps39
    go_wp2
    go_ret
    exact ⟨rfl, rfl⟩
def tyB (z : Int) : Bool := decide (z = 1) || decide (z = 2)
theorem typed_any (z : Int) (w : World) : Calls Tryd.prog 41 #[.int .i64 z] w fun e w' => e = .returned (.bool (tyB z)) ∧ w = w' := by
  unfold tyB
  by_cases h0 : z = 1
  · subst h0
    go_enter Tryd.func41, Tryd.ntmps41
    go_wp2
    go_ret
    exact ⟨rfl, rfl⟩
  · rw [decide_eq_false h0]
    have e0 : (z == 1) = false := by simpa using h0
    by_cases h1 : z = 2
    · subst h1
      clear h0
      go_enter Tryd.func41, Tryd.ntmps41
      go_wp2
      go_ret
      exact ⟨rfl, rfl⟩
    · rw [decide_eq_false h1]
      have e1 : (z == 2) = false := by simpa using h1
      clear h0 h1
      go_enter Tryd.func41, Tryd.ntmps41
      go_wp2
      go_ret
      exact ⟨rfl, rfl⟩
theorem formed_any (b : Bool) (w : World) : Calls Tryd.prog 166 #[.bool b] w fun e w' => e = .returned (.int .i64 (if b then 0 else 3)) ∧ w = w' := by
  cases b
  · go_enter Tryd.func166, Tryd.ntmps166
    go_wp2
    go_ret
    exact ⟨rfl, rfl⟩
  · go_enter Tryd.func166, Tryd.ntmps166
    go_wp2
    go_ret
    exact ⟨rfl, rfl⟩
def chB (n : Nat) : Bool := decide (1 ≤ (n : Int)) && decide ((n : Int) ≤ 255)
theorem challengeRight_any (A : Option Addr) (n c : Nat) (w : World) : Calls Tryd.prog 55 #[.slice A n c] w fun e w' => e = .returned (.bool (chB n)) ∧ w = w' := by
  unfold chB
  by_cases h0 : 1 ≤ (n : Int)
  · rw [decide_eq_true h0]
    by_cases h1 : (n : Int) ≤ 255
    · rw [decide_eq_true h1]
      go_enter Tryd.func55, Tryd.ntmps55
      go_wp2
      go_ret
      exact ⟨rfl, rfl⟩
    · rw [decide_eq_false h1]
      go_enter Tryd.func55, Tryd.ntmps55
      go_wp2
      go_ret
      exact ⟨rfl, rfl⟩
  · rw [decide_eq_false h0]
    go_enter Tryd.func55, Tryd.ntmps55
    go_wp2
    go_ret
    exact ⟨rfl, rfl⟩
/-- its kind -/
def knT (C T : Int) : Nat := if tyB C = false then 119 else if T = 1 then 122 else if T = 2 then 123 else if T = 3 then 124 else if T = 4 then 125 else 126
theorem ekindOf_any (C I T : Int) (A : Option Addr) (n c : Nat) (t : ByteArray) (w : World) : Calls Tryd.prog 44 #[msV C I T A n c t] w fun e w' => e = .returned (.iface (knT C T) (msV C I T A n c t)) ∧ w' = w.alloc (.cells #[.int .i64 C, .int .i64 I, .int .i64 T, .slice A n c, .string t] 26) := by
  unfold knT
  have TY := Lib.hid (fun W => typed_any C W)
  cases hb : tyB C
  · rw [hb] at TY
    rw [if_pos rfl]
    clear hb
    go_enter Tryd.func44, Tryd.ntmps44
    go_wp2_with (go_at_call 41; ((with_reducible refine (TY.out _).mono ?_); rintro e w' ⟨rfl, rfl⟩))
    go_ret
    exact ⟨rfl, rfl⟩
  · rw [hb] at TY
    rw [if_neg (by decide)]
    clear hb
    by_cases h1 : T = 1
    · subst h1
      rw [if_pos rfl]
      go_enter Tryd.func44, Tryd.ntmps44
      go_wp2_with (go_at_call 41; ((with_reducible refine (TY.out _).mono ?_); rintro e w' ⟨rfl, rfl⟩))
      go_ret
      exact ⟨rfl, rfl⟩
    · rw [if_neg h1]
      have e1 : (T == 1) = false := by simpa using h1
      by_cases h2 : T = 2
      · subst h2
        rw [if_pos rfl]
        clear h1
        go_enter Tryd.func44, Tryd.ntmps44
        go_wp2_with (go_at_call 41; ((with_reducible refine (TY.out _).mono ?_); rintro e w' ⟨rfl, rfl⟩))
        go_ret
        exact ⟨rfl, rfl⟩
      · rw [if_neg h2]
        have e2 : (T == 2) = false := by simpa using h2
        by_cases h3 : T = 3
        · subst h3
          rw [if_pos rfl]
          clear h1 h2
          go_enter Tryd.func44, Tryd.ntmps44
          go_wp2_with (go_at_call 41; ((with_reducible refine (TY.out _).mono ?_); rintro e w' ⟨rfl, rfl⟩))
          go_ret
          exact ⟨rfl, rfl⟩
        · rw [if_neg h3]
          have e3 : (T == 3) = false := by simpa using h3
          by_cases h4 : T = 4
          · subst h4
            rw [if_pos rfl]
            clear h1 h2 h3
            go_enter Tryd.func44, Tryd.ntmps44
            go_wp2_with (go_at_call 41; ((with_reducible refine (TY.out _).mono ?_); rintro e w' ⟨rfl, rfl⟩))
            go_ret
            exact ⟨rfl, rfl⟩
          · rw [if_neg h4]
            have e4 : (T == 4) = false := by simpa using h4
            clear h1 h2 h3 h4
            go_enter Tryd.func44, Tryd.ntmps44
            go_wp2_with (go_at_call 41; ((with_reducible refine (TY.out _).mono ?_); rintro e w' ⟨rfl, rfl⟩))
            go_ret
            exact ⟨rfl, rfl⟩
end Go.Proofs.YtjimoegegigoiaaDoor
namespace Go.Proofs.YtjimoegegigoiaaDoor
open Go.RowKit Go.Shelf
set_option maxRecDepth 100000
set_option maxHeartbeats 800000
set_option linter.unusedSimpArgs false
set_option linter.unusedVariables false

def DaR (w : World) (L : List UInt8) (e : Ending) (w' : World) : Prop := Below w.heap.size w w' ∧ ∃ D k d, e = .returned (.slice D k d) ∧ Own w' w.heap.size (.slice D k d) L
theorem own_two (w : World) (base : Nat) (c d : UInt8) (x y : Int) (hx : x = (c.toNat : Int)) (hy : y = (d.toNat : Int)) (hb : base ≤ w.heap.size) : Own (w.alloc (.cells #[.int .u8 x, .int .u8 y] 5)) base (.slice (some ⟨w.heap.size, 0, none⟩) 2 2) [c, d] := by
  subst hx hy
  exact ⟨by simp, .inr ⟨w.heap.size, 2, _, rfl, hb, heap_alloc_new w _, Nat.le_refl _, by unfold maxLen; omega, by simp, by simp [cellOf]⟩⟩
theorem eown_wide {w : World} {b b' : Nat} {v : Value} {l : List UInt8} (h : Own w b v l) (hb : b' ≤ b) : Own w b' v l := by
  rcases h.2 with h0 | ⟨g', cap, cur, e, hb', hr'⟩
  · exact ⟨h.1, .inl h0⟩
  · exact ⟨h.1, .inr ⟨g', cap, cur, e, Nat.le_trans hb hb', hr'⟩⟩
theorem own_sliced {w : World} {base : Nat} {v : Value} {l : List UInt8} (h : Own w base v l) : ∃ D k d, v = .slice D k d := by
  rcases h.form with ⟨e, _⟩ | ⟨g, cap, e, _⟩
  · exact ⟨_, _, _, e⟩
  · exact ⟨_, _, _, e⟩
theorem byte_of {T : Int} (h0 : 0 ≤ T) (h1 : T ≤ 255) : T = ((UInt8.ofNat T.toNat).toNat : Int) ∧ IntKind.u8.wrap T = T := by
  constructor
  · simp; omega
  · rw [IntKind.wrap_u8']; omega
theorem vdata_any (C I T : Int) (A : Option Addr) (n c : Nat) (t : ByteArray) (w : World) : Calls Tryd.prog 163 #[msV C I T A n c t] w (DaR w []) := by
  have b := (Below.refl w.heap.size w).alloc (Nat.le_refl _) (.cells #[.int .i64 C, .int .i64 I, .int .i64 T, .slice A n c, .string t] 119)
  have F : Hid (DaR w [] (.returned (.slice none 0 0)) (w.alloc (.cells #[.int .i64 C, .int .i64 I, .int .i64 T, .slice A n c, .string t] 119))) := ⟨b, none, 0, 0, rfl, Own.nil _ _⟩
  clear b
  go_enter Tryd.func163, Tryd.ntmps163
  go_wp2
  go_ret
  exact F.out
theorem past_blk {W W' : World} {g t : Nat} {cs : List Value} (h : Blk W g t cs) (hb : Below W.heap.size W W') : Blk W' g t cs := (hb.block _ (Blk.lt h)).trans h
theorem wdata_any (C I T : Int) (A : Option Addr) (n c B : Nat) (l : List UInt8) (t : ByteArray) (w : World) (t0 : 0 ≤ T) (t1 : T ≤ 255) (hm : t.size ≤ 140737488351232) : Calls Tryd.prog 167 #[msV C I T A n c t] w (DaR w ([UInt8.ofNat T.toNat] ++ t.data.toList)) := by
  obtain ⟨V, hV⟩ : ∃ V, w.alloc (.cells #[.int .i64 C, .int .i64 I, .int .i64 T, .slice A n c, .string t] 120) = V := ⟨_, rfl⟩
  have bV : Below w.heap.size w V := by rw [← hV]; exact (Below.refl _ _).alloc (Nat.le_refl _) _
  have h0 : Blk V w.heap.size 120 [.int .i64 C, .int .i64 I, .int .i64 T, .slice A n c, .string t] := by rw [← hV]; exact heap_alloc_new w _
  have c2 := h0.cell 2
  have c3 := h0.cell 3
  have sV := bV.size
  obtain ⟨hT, w8⟩ := byte_of t0 t1
  obtain ⟨V1, hV1⟩ : ∃ V1, V.alloc (.cells #[.int .u8 T] 5) = V1 := ⟨_, rfl⟩
  have bV1 : Below V.heap.size V V1 := by rw [← hV1]; exact (Below.refl _ _).alloc (Nat.le_refl _) _
  have o1 : Own V1 V.heap.size (.slice (some ⟨V.heap.size, 0, none⟩) 1 1) [UInt8.ofNat T.toNat] := by rw [← hV1]; exact own_one V V.heap.size _ T hT (Nat.le_refl _)
  have x4 := Blk.cell (past_blk h0 bV1) 4
  obtain ⟨v3, w3, R3, o3, g3⟩ := append_str o1 t (by simp; omega) bV1.size
  have B3 : Below V.heap.size V w3 := bV1.grown g3 bV1.size (fun q e => (o1.block q e).1)
  obtain ⟨D, k, d, rfl⟩ := own_sliced o3
  have F : Hid (DaR w ([UInt8.ofNat T.toNat] ++ t.data.toList) (.returned (.slice D k d)) w3) := ⟨bV.trans (B3.mono sV), D, k, d, rfl, eown_wide o3 sV⟩
  have HV := Lib.hid hV
  have HV1 := Lib.hid hV1
  have R3H := Lib.hid R3
  clear hV bV h0 hV1 bV1 o1 R3 o3 g3 B3 hT sV
  go_enter Tryd.func167, Tryd.ntmps167
  go_wp2_with (first
    | (rw [HV.out])
    | (rw [HV1.out])
    | (at_builtin; refine wpList_appT rfl (.tmp 7) (.tmp 10) #[22, 9] rfl _ _ rfl rfl _ _ R3H.out ?_))
  go_ret
  exact F.out
theorem idata_any (C I T : Int) (A : Option Addr) (n c B : Nat) (l : List UInt8) (t : ByteArray) (w : World) (t0 : 0 ≤ T) (t1 : T ≤ 255) (hr : Rd w B A n l) (hB : B ≤ w.heap.size) (hnil : A = none → c = 0) (hm : n ≤ 140737488351232) : Calls Tryd.prog 171 #[msV C I T A n c t] w (DaR w ([UInt8.ofNat T.toNat] ++ l)) := by
  obtain ⟨V, hV⟩ : ∃ V, w.alloc (.cells #[.int .i64 C, .int .i64 I, .int .i64 T, .slice A n c, .string t] 124) = V := ⟨_, rfl⟩
  have bV : Below w.heap.size w V := by rw [← hV]; exact (Below.refl _ _).alloc (Nat.le_refl _) _
  have h0 : Blk V w.heap.size 124 [.int .i64 C, .int .i64 I, .int .i64 T, .slice A n c, .string t] := by rw [← hV]; exact heap_alloc_new w _
  have c2 := h0.cell 2
  have c3 := h0.cell 3
  have sV := bV.size
  obtain ⟨hT, w8⟩ := byte_of t0 t1
  obtain ⟨V1, hV1⟩ : ∃ V1, V.alloc (.cells #[.int .u8 T] 5) = V1 := ⟨_, rfl⟩
  have bV1 : Below V.heap.size V V1 := by rw [← hV1]; exact (Below.refl _ _).alloc (Nat.le_refl _) _
  have o1 : Own V1 V.heap.size (.slice (some ⟨V.heap.size, 0, none⟩) 1 1) [UInt8.ofNat T.toNat] := by rw [← hV1]; exact own_one V V.heap.size _ T hT (Nat.le_refl _)
  have x4 := Blk.cell (past_blk h0 bV1) 3
  obtain ⟨v3, w3, R3, o3, g3, -⟩ := append_run o1 c ((hr.below (bV.mono hB)).below (bV1.mono (Nat.le_trans hB sV))) hnil (by simp; omega) bV1.size
  have B3 : Below V.heap.size V w3 := bV1.grown g3 bV1.size (fun q e => (o1.block q e).1)
  obtain ⟨D, k, d, rfl⟩ := own_sliced o3
  have F : Hid (DaR w ([UInt8.ofNat T.toNat] ++ l) (.returned (.slice D k d)) w3) := ⟨bV.trans (B3.mono sV), D, k, d, rfl, eown_wide o3 sV⟩
  have HV := Lib.hid hV
  have HV1 := Lib.hid hV1
  have R3H := Lib.hid R3
  clear hV bV h0 hV1 bV1 o1 R3 o3 g3 B3 hT sV hr
  go_enter Tryd.func171, Tryd.ntmps171
  go_wp2_with (first
    | (rw [HV.out])
    | (rw [HV1.out])
    | (at_builtin; refine wpList_appT rfl (.tmp 7) (.tmp 10) #[22, 22] rfl _ _ rfl rfl _ _ R3H.out ?_))
  go_ret
  exact F.out
theorem sdata_any (C I T : Int) (A : Option Addr) (n c B : Nat) (l : List UInt8) (t : ByteArray) (w : World) (t0 : 0 ≤ T) (t1 : T ≤ 255) (hr : Rd w B A n l) (hB : B ≤ w.heap.size) (hnil : A = none → c = 0) (hm : n ≤ 140737488351232) : Calls Tryd.prog 177 #[msV C I T A n c t] w (DaR w ([UInt8.ofNat T.toNat] ++ l)) := by
  obtain ⟨V, hV⟩ : ∃ V, w.alloc (.cells #[.int .i64 C, .int .i64 I, .int .i64 T, .slice A n c, .string t] 126) = V := ⟨_, rfl⟩
  have bV : Below w.heap.size w V := by rw [← hV]; exact (Below.refl _ _).alloc (Nat.le_refl _) _
  have h0 : Blk V w.heap.size 126 [.int .i64 C, .int .i64 I, .int .i64 T, .slice A n c, .string t] := by rw [← hV]; exact heap_alloc_new w _
  have c2 := h0.cell 2
  have c3 := h0.cell 3
  have sV := bV.size
  obtain ⟨hT, w8⟩ := byte_of t0 t1
  obtain ⟨V1, hV1⟩ : ∃ V1, V.alloc (.cells #[.int .u8 T] 5) = V1 := ⟨_, rfl⟩
  have bV1 : Below V.heap.size V V1 := by rw [← hV1]; exact (Below.refl _ _).alloc (Nat.le_refl _) _
  have o1 : Own V1 V.heap.size (.slice (some ⟨V.heap.size, 0, none⟩) 1 1) [UInt8.ofNat T.toNat] := by rw [← hV1]; exact own_one V V.heap.size _ T hT (Nat.le_refl _)
  have x4 := Blk.cell (past_blk h0 bV1) 3
  obtain ⟨v3, w3, R3, o3, g3, -⟩ := append_run o1 c ((hr.below (bV.mono hB)).below (bV1.mono (Nat.le_trans hB sV))) hnil (by simp; omega) bV1.size
  have B3 : Below V.heap.size V w3 := bV1.grown g3 bV1.size (fun q e => (o1.block q e).1)
  obtain ⟨D, k, d, rfl⟩ := own_sliced o3
  have F : Hid (DaR w ([UInt8.ofNat T.toNat] ++ l) (.returned (.slice D k d)) w3) := ⟨bV.trans (B3.mono sV), D, k, d, rfl, eown_wide o3 sV⟩
  have HV := Lib.hid hV
  have HV1 := Lib.hid hV1
  have R3H := Lib.hid R3
  clear hV bV h0 hV1 bV1 o1 R3 o3 g3 B3 hT sV hr
  go_enter Tryd.func177, Tryd.ntmps177
  go_wp2_with (first
    | (rw [HV.out])
    | (rw [HV1.out])
    | (at_builtin; refine wpList_appT rfl (.tmp 7) (.tmp 10) #[22, 22] rfl _ _ rfl rfl _ _ R3H.out ?_))
  go_ret
  exact F.out
theorem pdata_any (C I T : Int) (A : Option Addr) (n c B : Nat) (l : List UInt8) (t : ByteArray) (w : World) (t0 : 0 ≤ T) (t1 : T ≤ 255) (hr : Rd w B A n l) (hB : B ≤ w.heap.size) (hnil : A = none → c = 0) (hn : n ≤ 255) (hm : t.size ≤ 140737488351232) : Calls Tryd.prog 174 #[msV C I T A n c t] w (DaR w ([UInt8.ofNat T.toNat, UInt8.ofNat n] ++ l ++ t.data.toList)) := by
  obtain ⟨V, hV⟩ : ∃ V, w.alloc (.cells #[.int .i64 C, .int .i64 I, .int .i64 T, .slice A n c, .string t] 125) = V := ⟨_, rfl⟩
  have bV : Below w.heap.size w V := by rw [← hV]; exact (Below.refl _ _).alloc (Nat.le_refl _) _
  have h0 : Blk V w.heap.size 125 [.int .i64 C, .int .i64 I, .int .i64 T, .slice A n c, .string t] := by rw [← hV]; exact heap_alloc_new w _
  have c2 := h0.cell 2
  have c3 := h0.cell 3
  have sV := bV.size
  obtain ⟨hT, w8⟩ := byte_of t0 t1
  have hl := hr.1
  have n8 : IntKind.u8.wrap (n : Int) = n := by rw [IntKind.wrap_u8']; omega
  obtain ⟨V1, hV1⟩ : ∃ V1, V.alloc (.cells #[.int .u8 T, .int .u8 (n : Int)] 5) = V1 := ⟨_, rfl⟩
  have bV1 : Below V.heap.size V V1 := by rw [← hV1]; exact (Below.refl _ _).alloc (Nat.le_refl _) _
  have o1 : Own V1 V.heap.size (.slice (some ⟨V.heap.size, 0, none⟩) 2 2) [UInt8.ofNat T.toNat, UInt8.ofNat n] := by rw [← hV1]; exact own_two V V.heap.size _ _ T n hT (by simp; omega) (Nat.le_refl _)
  have x3 := Blk.cell (past_blk h0 bV1) 3
  obtain ⟨v2, w2, R2, o2, g2, -⟩ := append_run o1 c ((hr.below (bV.mono hB)).below (bV1.mono (Nat.le_trans hB sV))) hnil (by simp; omega) bV1.size
  have B2 : Below V.heap.size V w2 := bV1.grown g2 bV1.size (fun q e => (o1.block q e).1)
  have x4 := Blk.cell (past_blk h0 B2) 4
  obtain ⟨v3, w3, R3, o3, g3⟩ := append_str o2 t (by simp [hl]; omega) B2.size
  have B3 : Below V.heap.size V w3 := B2.grown g3 B2.size (fun q e => (o2.block q e).1)
  obtain ⟨D, k, d, rfl⟩ := own_sliced o3
  have F : Hid (DaR w ([UInt8.ofNat T.toNat, UInt8.ofNat n] ++ l ++ t.data.toList) (.returned (.slice D k d)) w3) := ⟨bV.trans (B3.mono sV), D, k, d, rfl, eown_wide o3 sV⟩
  have HV := Lib.hid hV
  have HV1 := Lib.hid hV1
  have R2H := Lib.hid R2
  have R3H := Lib.hid R3
  clear hV bV h0 hV1 bV1 o1 R3 o3 g3 B3 hT sV hr R2 o2 g2 B2
  go_enter Tryd.func174, Tryd.ntmps174
  go_wp2_with (first
    | (rw [HV.out])
    | (rw [HV1.out])
    | (at_builtin; refine wpList_appT rfl (.tmp 13) (.tmp 16) #[22, 22] rfl _ _ rfl rfl _ _ R2H.out ?_)
    | (at_builtin; refine wpList_appT rfl (.tmp 18) (.tmp 21) #[22, 9] rfl _ _ rfl rfl _ _ R3H.out ?_))
  go_ret
  exact F.out
end Go.Proofs.YtjimoegegigoiaaDoor
namespace Go.Proofs.YtjimoegegigoiaaDoor
open Go.RowKit Go.Shelf
set_option maxRecDepth 100000
set_option maxHeartbeats 800000
set_option linter.unusedSimpArgs false
set_option linter.unusedVariables false

def noT (t : ByteArray) : Bool := t.toList.isEmpty
def FaR (w : World) (er : Int) (e : Ending) (w' : World) : Prop := e = .returned (.int .i64 er) ∧ Below w.heap.size w w'
theorem wfault_any (C I T : Int) (A : Option Addr) (n c : Nat) (t : ByteArray) (w : World) : Calls Tryd.prog 168 #[msV C I T A n c t] w (FaR w (if n = 0 then 0 else 3)) := by
  have b : Below w.heap.size w (w.alloc (.cells #[.int .i64 C, .int .i64 I, .int .i64 T, .slice A n c, .string t] 120)) := (Below.refl w.heap.size w).alloc (Nat.le_refl _) _
  have FB := Lib.hid b
  have FO := Lib.hid (fun b W => formed_any b W)
  have CH := Lib.hid (fun W => challengeRight_any A n c W)
  clear b
  by_cases h : n = 0
  · subst h
    rw [if_pos rfl]
    go_enter Tryd.func168, Tryd.ntmps168
    go_wp2_with (first
      | (go_at_call 55; ((with_reducible refine (CH.out _).mono ?_); rintro e w' ⟨rfl, rfl⟩))
      | (go_at_call 166; ((with_reducible refine (FO.out _ _).mono ?_); rintro e w' ⟨rfl, rfl⟩)))
    exact bodyPost_ret (v := .int .i64 0) (by simp [results, Tryd.results168, go_sem]) rfl ⟨rfl, FB.out⟩
  · have e1 : ((n : Int) == 0) = false := by simpa using h
    rw [if_neg h]
    clear h
    go_enter Tryd.func168, Tryd.ntmps168
    go_wp2_with (first
      | (go_at_call 55; ((with_reducible refine (CH.out _).mono ?_); rintro e w' ⟨rfl, rfl⟩))
      | (go_at_call 166; ((with_reducible refine (FO.out _ _).mono ?_); rintro e w' ⟨rfl, rfl⟩)))
    exact bodyPost_ret (v := .int .i64 3) (by simp [results, Tryd.results168, go_sem]) rfl ⟨rfl, FB.out⟩
theorem pfault_any (C I T : Int) (A : Option Addr) (n c : Nat) (t : ByteArray) (w : World) : Calls Tryd.prog 175 #[msV C I T A n c t] w (FaR w (if chB n = true then 0 else 3)) := by
  have b : Below w.heap.size w (w.alloc (.cells #[.int .i64 C, .int .i64 I, .int .i64 T, .slice A n c, .string t] 125)) := (Below.refl w.heap.size w).alloc (Nat.le_refl _) _
  have FB := Lib.hid b
  have FO := Lib.hid (fun b W => formed_any b W)
  have CH := Lib.hid (fun W => challengeRight_any A n c W)
  clear b
  cases h : chB n
  · rw [h] at CH
    rw [if_neg (by simp)]
    clear h
    go_enter Tryd.func175, Tryd.ntmps175
    go_wp2_with (first
      | (go_at_call 55; ((with_reducible refine (CH.out _).mono ?_); rintro e w' ⟨rfl, rfl⟩))
      | (go_at_call 166; ((with_reducible refine (FO.out _ _).mono ?_); rintro e w' ⟨rfl, rfl⟩)))
    exact bodyPost_ret (v := .int .i64 3) (by simp [results, Tryd.results175, go_sem]) rfl ⟨rfl, FB.out⟩
  · rw [h] at CH
    rw [if_pos rfl]
    clear h
    go_enter Tryd.func175, Tryd.ntmps175
    go_wp2_with (first
      | (go_at_call 55; ((with_reducible refine (CH.out _).mono ?_); rintro e w' ⟨rfl, rfl⟩))
      | (go_at_call 166; ((with_reducible refine (FO.out _ _).mono ?_); rintro e w' ⟨rfl, rfl⟩)))
    exact bodyPost_ret (v := .int .i64 0) (by simp [results, Tryd.results175, go_sem]) rfl ⟨rfl, FB.out⟩
theorem sfault_any (C I T : Int) (A : Option Addr) (n c : Nat) (t : ByteArray) (w : World) : Calls Tryd.prog 178 #[msV C I T A n c t] w (FaR w (if noT t = true then 0 else 3)) := by
  have b : Below w.heap.size w (w.alloc (.cells #[.int .i64 C, .int .i64 I, .int .i64 T, .slice A n c, .string t] 126)) := (Below.refl w.heap.size w).alloc (Nat.le_refl _) _
  have FB := Lib.hid b
  have FO := Lib.hid (fun b W => formed_any b W)
  have CH := Lib.hid (fun W => challengeRight_any A n c W)
  clear b
  unfold noT
  cases h : t.toList.isEmpty
  · rw [if_neg (by simp)]
    go_enter Tryd.func178, Tryd.ntmps178
    go_wp2_with (first
      | (go_at_call 55; ((with_reducible refine (CH.out _).mono ?_); rintro e w' ⟨rfl, rfl⟩))
      | (go_at_call 166; ((with_reducible refine (FO.out _ _).mono ?_); rintro e w' ⟨rfl, rfl⟩)))
    exact bodyPost_ret (v := .int .i64 3) (by simp [results, Tryd.results178, go_sem]) rfl ⟨rfl, FB.out⟩
  · rw [if_pos rfl]
    go_enter Tryd.func178, Tryd.ntmps178
    go_wp2_with (first
      | (go_at_call 55; ((with_reducible refine (CH.out _).mono ?_); rintro e w' ⟨rfl, rfl⟩))
      | (go_at_call 166; ((with_reducible refine (FO.out _ _).mono ?_); rintro e w' ⟨rfl, rfl⟩)))
    exact bodyPost_ret (v := .int .i64 0) (by simp [results, Tryd.results178, go_sem]) rfl ⟨rfl, FB.out⟩
theorem ifault_any (C I T : Int) (A : Option Addr) (n c : Nat) (t : ByteArray) (w : World) : Calls Tryd.prog 172 #[msV C I T A n c t] w (FaR w (if C = 1 then 90 else if 0 < n ∧ noT t = true then 0 else 3)) := by
  have b : Below w.heap.size w (w.alloc (.cells #[.int .i64 C, .int .i64 I, .int .i64 T, .slice A n c, .string t] 124)) := (Below.refl w.heap.size w).alloc (Nat.le_refl _) _
  have FB := Lib.hid b
  have FO := Lib.hid (fun b W => formed_any b W)
  have CH := Lib.hid (fun W => challengeRight_any A n c W)
  clear b
  unfold noT
  by_cases h1 : C = 1
  · subst h1
    rw [if_pos rfl]
    go_enter Tryd.func172, Tryd.ntmps172
    go_wp2_with (first
      | (go_at_call 55; ((with_reducible refine (CH.out _).mono ?_); rintro e w' ⟨rfl, rfl⟩))
      | (go_at_call 166; ((with_reducible refine (FO.out _ _).mono ?_); rintro e w' ⟨rfl, rfl⟩)))
    exact bodyPost_ret (v := .int .i64 90) (by simp [results, Tryd.results172, go_sem]) rfl ⟨rfl, FB.out⟩
  · rw [if_neg h1]
    have e1 : (C == 1) = false := by simpa using h1
    clear h1
    by_cases h2 : 0 < n
    · have e2 : (0 : Int) < (n : Int) := by omega
      cases h : t.toList.isEmpty
      · rw [if_neg (by simp)]
        clear h2
        go_enter Tryd.func172, Tryd.ntmps172
        go_wp2_with (first
          | (go_at_call 55; ((with_reducible refine (CH.out _).mono ?_); rintro e w' ⟨rfl, rfl⟩))
          | (go_at_call 166; ((with_reducible refine (FO.out _ _).mono ?_); rintro e w' ⟨rfl, rfl⟩)))
        exact bodyPost_ret (v := .int .i64 3) (by simp [results, Tryd.results172, go_sem]) rfl ⟨rfl, FB.out⟩
      · rw [if_pos ⟨h2, rfl⟩]
        clear h2
        go_enter Tryd.func172, Tryd.ntmps172
        go_wp2_with (first
          | (go_at_call 55; ((with_reducible refine (CH.out _).mono ?_); rintro e w' ⟨rfl, rfl⟩))
          | (go_at_call 166; ((with_reducible refine (FO.out _ _).mono ?_); rintro e w' ⟨rfl, rfl⟩)))
        exact bodyPost_ret (v := .int .i64 0) (by simp [results, Tryd.results172, go_sem]) rfl ⟨rfl, FB.out⟩
    · have e2 : ¬ (0 : Int) < (n : Int) := by omega
      rw [if_neg (fun h => h2 h.1)]
      clear h2
      go_enter Tryd.func172, Tryd.ntmps172
      go_wp2_with (first
        | (go_at_call 55; ((with_reducible refine (CH.out _).mono ?_); rintro e w' ⟨rfl, rfl⟩))
        | (go_at_call 166; ((with_reducible refine (FO.out _ _).mono ?_); rintro e w' ⟨rfl, rfl⟩)))
      exact bodyPost_ret (v := .int .i64 3) (by simp [results, Tryd.results172, go_sem]) rfl ⟨rfl, FB.out⟩
theorem vfault_any (C I T : Int) (A : Option Addr) (n c : Nat) (t : ByteArray) (w : World) : Calls Tryd.prog 164 #[msV C I T A n c t] w (FaR w (if T = 0 ∧ n = 0 ∧ noT t = true then 0 else 3)) := by
  have b : Below w.heap.size w (w.alloc (.cells #[.int .i64 C, .int .i64 I, .int .i64 T, .slice A n c, .string t] 119)) := (Below.refl w.heap.size w).alloc (Nat.le_refl _) _
  have FB := Lib.hid b
  have FO := Lib.hid (fun b W => formed_any b W)
  have CH := Lib.hid (fun W => challengeRight_any A n c W)
  clear b
  unfold noT
  by_cases h1 : T = 0
  · subst h1
    by_cases h2 : n = 0
    · subst h2
      cases h : t.toList.isEmpty
      · rw [if_neg (by simp)]
        go_enter Tryd.func164, Tryd.ntmps164
        go_wp2_with (first
          | (go_at_call 55; ((with_reducible refine (CH.out _).mono ?_); rintro e w' ⟨rfl, rfl⟩))
          | (go_at_call 166; ((with_reducible refine (FO.out _ _).mono ?_); rintro e w' ⟨rfl, rfl⟩)))
        exact bodyPost_ret (v := .int .i64 3) (by simp [results, Tryd.results164, go_sem]) rfl ⟨rfl, FB.out⟩
      · rw [if_pos ⟨rfl, rfl, rfl⟩]
        go_enter Tryd.func164, Tryd.ntmps164
        go_wp2_with (first
          | (go_at_call 55; ((with_reducible refine (CH.out _).mono ?_); rintro e w' ⟨rfl, rfl⟩))
          | (go_at_call 166; ((with_reducible refine (FO.out _ _).mono ?_); rintro e w' ⟨rfl, rfl⟩)))
        exact bodyPost_ret (v := .int .i64 0) (by simp [results, Tryd.results164, go_sem]) rfl ⟨rfl, FB.out⟩
    · have e2 : ((n : Int) == 0) = false := by simpa using h2
      rw [if_neg (fun h => h2 h.2.1)]
      clear h2
      go_enter Tryd.func164, Tryd.ntmps164
      go_wp2_with (first
        | (go_at_call 55; ((with_reducible refine (CH.out _).mono ?_); rintro e w' ⟨rfl, rfl⟩))
        | (go_at_call 166; ((with_reducible refine (FO.out _ _).mono ?_); rintro e w' ⟨rfl, rfl⟩)))
      exact bodyPost_ret (v := .int .i64 3) (by simp [results, Tryd.results164, go_sem]) rfl ⟨rfl, FB.out⟩
  · have e1 : (T == 0) = false := by simpa using h1
    rw [if_neg (fun h => h1 h.1)]
    clear h1
    go_enter Tryd.func164, Tryd.ntmps164
    go_wp2_with (first
      | (go_at_call 55; ((with_reducible refine (CH.out _).mono ?_); rintro e w' ⟨rfl, rfl⟩))
      | (go_at_call 166; ((with_reducible refine (FO.out _ _).mono ?_); rintro e w' ⟨rfl, rfl⟩)))
    exact bodyPost_ret (v := .int .i64 3) (by simp [results, Tryd.results164, go_sem]) rfl ⟨rfl, FB.out⟩
end Go.Proofs.YtjimoegegigoiaaDoor
namespace Go.Proofs.YtjimoegegigoiaaDoor
open Go.RowKit Go.Shelf
set_option maxRecDepth 100000
set_option maxHeartbeats 800000
set_option linter.unusedSimpArgs false
set_option linter.unusedVariables false

theorem inv_fault_verdict (C I T : Int) (A : Option Addr) (n c : Nat) (t : ByteArray) (k : Nat) (W : World) : ((method (k + 1) 119 (msV C I T A n c t) "tether/eap.fault").run Tryd.prog W).andThen (fun a w' => (callFunc a.fst #[a.snd]).run Tryd.prog w') = .ok (.enter 164 #[msV C I T A n c t]) W := by
  kernel_rfl
theorem inv_fault_identity (C I T : Int) (A : Option Addr) (n c : Nat) (t : ByteArray) (k : Nat) (W : World) : ((method (k + 1) 122 (msV C I T A n c t) "tether/eap.fault").run Tryd.prog W).andThen (fun a w' => (callFunc a.fst #[a.snd]).run Tryd.prog w') = .ok (.enter 168 #[msV C I T A n c t]) W := by
  kernel_rfl
theorem inv_fault_notice (C I T : Int) (A : Option Addr) (n c : Nat) (t : ByteArray) (k : Nat) (W : World) : ((method (k + 1) 123 (msV C I T A n c t) "tether/eap.fault").run Tryd.prog W).andThen (fun a w' => (callFunc a.fst #[a.snd]).run Tryd.prog w') = .ok (.enter 168 #[msV C I T A n c t]) W := by
  kernel_rfl
theorem inv_fault_wishes (C I T : Int) (A : Option Addr) (n c : Nat) (t : ByteArray) (k : Nat) (W : World) : ((method (k + 1) 124 (msV C I T A n c t) "tether/eap.fault").run Tryd.prog W).andThen (fun a w' => (callFunc a.fst #[a.snd]).run Tryd.prog w') = .ok (.enter 172 #[msV C I T A n c t]) W := by
  kernel_rfl
theorem inv_fault_proof (C I T : Int) (A : Option Addr) (n c : Nat) (t : ByteArray) (k : Nat) (W : World) : ((method (k + 1) 125 (msV C I T A n c t) "tether/eap.fault").run Tryd.prog W).andThen (fun a w' => (callFunc a.fst #[a.snd]).run Tryd.prog w') = .ok (.enter 175 #[msV C I T A n c t]) W := by
  kernel_rfl
theorem inv_fault_strange (C I T : Int) (A : Option Addr) (n c : Nat) (t : ByteArray) (k : Nat) (W : World) : ((method (k + 1) 126 (msV C I T A n c t) "tether/eap.fault").run Tryd.prog W).andThen (fun a w' => (callFunc a.fst #[a.snd]).run Tryd.prog w') = .ok (.enter 178 #[msV C I T A n c t]) W := by
  kernel_rfl
theorem inv_data_verdict (C I T : Int) (A : Option Addr) (n c : Nat) (t : ByteArray) (k : Nat) (W : World) : ((method (k + 1) 119 (msV C I T A n c t) "tether/eap.data").run Tryd.prog W).andThen (fun a w' => (callFunc a.fst #[a.snd]).run Tryd.prog w') = .ok (.enter 163 #[msV C I T A n c t]) W := by
  kernel_rfl
theorem inv_data_identity (C I T : Int) (A : Option Addr) (n c : Nat) (t : ByteArray) (k : Nat) (W : World) : ((method (k + 1) 122 (msV C I T A n c t) "tether/eap.data").run Tryd.prog W).andThen (fun a w' => (callFunc a.fst #[a.snd]).run Tryd.prog w') = .ok (.enter 167 #[msV C I T A n c t]) W := by
  kernel_rfl
theorem inv_data_notice (C I T : Int) (A : Option Addr) (n c : Nat) (t : ByteArray) (k : Nat) (W : World) : ((method (k + 1) 123 (msV C I T A n c t) "tether/eap.data").run Tryd.prog W).andThen (fun a w' => (callFunc a.fst #[a.snd]).run Tryd.prog w') = .ok (.enter 167 #[msV C I T A n c t]) W := by
  kernel_rfl
theorem inv_data_wishes (C I T : Int) (A : Option Addr) (n c : Nat) (t : ByteArray) (k : Nat) (W : World) : ((method (k + 1) 124 (msV C I T A n c t) "tether/eap.data").run Tryd.prog W).andThen (fun a w' => (callFunc a.fst #[a.snd]).run Tryd.prog w') = .ok (.enter 171 #[msV C I T A n c t]) W := by
  kernel_rfl
theorem inv_data_proof (C I T : Int) (A : Option Addr) (n c : Nat) (t : ByteArray) (k : Nat) (W : World) : ((method (k + 1) 125 (msV C I T A n c t) "tether/eap.data").run Tryd.prog W).andThen (fun a w' => (callFunc a.fst #[a.snd]).run Tryd.prog w') = .ok (.enter 174 #[msV C I T A n c t]) W := by
  kernel_rfl
theorem inv_data_strange (C I T : Int) (A : Option Addr) (n c : Nat) (t : ByteArray) (k : Nat) (W : World) : ((method (k + 1) 126 (msV C I T A n c t) "tether/eap.data").run Tryd.prog W).andThen (fun a w' => (callFunc a.fst #[a.snd]).run Tryd.prog w') = .ok (.enter 177 #[msV C I T A n c t]) W := by
  kernel_rfl
def fkE (C T : Int) (n : Nat) (t : ByteArray) : Int := if tyB C = false then (if T = 0 ∧ n = 0 ∧ noT t = true then 0 else 3) else if T = 1 then (if n = 0 then 0 else 3) else if T = 2 then (if n = 0 then 0 else 3) else if T = 3 then (if C = 1 then 90 else if 0 < n ∧ noT t = true then 0 else 3) else if T = 4 then (if chB n = true then 0 else 3) else (if noT t = true then 0 else 3)
def dtL (C T : Int) (l : List UInt8) (t : ByteArray) : List UInt8 := if tyB C = false then [] else if T = 1 then [UInt8.ofNat T.toNat] ++ t.data.toList else if T = 2 then [UInt8.ofNat T.toNat] ++ t.data.toList else if T = 3 then [UInt8.ofNat T.toNat] ++ l else if T = 4 then [UInt8.ofNat T.toNat, UInt8.ofNat l.length] ++ l ++ t.data.toList else [UInt8.ofNat T.toNat] ++ l
/-- a method of a kind: what it enters, and what that answers -/
def MethC (kt : Nat) (v : Value) (nm : String) (Q : World → Ending → World → Prop) (ok : World → Prop) : Prop :=
  ∃ F, (∀ k W, ((method (k + 1) kt v nm).run Tryd.prog W).andThen (fun a w' => (callFunc a.fst #[a.snd]).run Tryd.prog w') = .ok (.enter F #[v]) W) ∧ ∀ W, ok W → Calls Tryd.prog F #[v] W (Q W)
theorem kind_fault (C I T : Int) (A : Option Addr) (n c : Nat) (t : ByteArray) : MethC (knT C T) (msV C I T A n c t) "tether/eap.fault" (fun W => FaR W (fkE C T n t)) (fun _ => True) := by
  unfold knT fkE
  by_cases h0 : tyB C = false
  · rw [if_pos h0, if_pos h0]
    exact ⟨_, inv_fault_verdict C I T A n c t, fun W _ => vfault_any C I T A n c t W⟩
  rw [if_neg h0, if_neg h0]
  by_cases h1 : T = 1
  · rw [if_pos h1, if_pos h1]
    exact ⟨_, inv_fault_identity C I T A n c t, fun W _ => wfault_any C I T A n c t W⟩
  rw [if_neg h1, if_neg h1]
  by_cases h2 : T = 2
  · rw [if_pos h2, if_pos h2]
    exact ⟨_, inv_fault_notice C I T A n c t, fun W _ => wfault_any C I T A n c t W⟩
  rw [if_neg h2, if_neg h2]
  by_cases h3 : T = 3
  · rw [if_pos h3, if_pos h3]
    exact ⟨_, inv_fault_wishes C I T A n c t, fun W _ => ifault_any C I T A n c t W⟩
  rw [if_neg h3, if_neg h3]
  by_cases h4 : T = 4
  · rw [if_pos h4, if_pos h4]
    exact ⟨_, inv_fault_proof C I T A n c t, fun W _ => pfault_any C I T A n c t W⟩
  rw [if_neg h4, if_neg h4]
  exact ⟨_, inv_fault_strange C I T A n c t, fun W _ => sfault_any C I T A n c t W⟩
theorem kind_data (C I T : Int) (A : Option Addr) (n c B : Nat) (l : List UInt8) (t : ByteArray) (t0 : 0 ≤ T) (t1 : T ≤ 255) (hl : l.length = n) (hnil : A = none → c = 0) (hn : n ≤ 140737488351232) (hm : t.size ≤ 140737488351232) (hf : fkE C T n t = 0) : MethC (knT C T) (msV C I T A n c t) "tether/eap.data" (fun W => DaR W (dtL C T l t)) (fun W => Rd W B A n l ∧ B ≤ W.heap.size) := by
  unfold fkE at hf
  unfold knT dtL
  by_cases h0 : tyB C = false
  · rw [if_pos h0, if_pos h0]
    exact ⟨_, inv_data_verdict C I T A n c t, fun W _ => vdata_any C I T A n c t W⟩
  rw [if_neg h0] at hf
  rw [if_neg h0, if_neg h0]
  by_cases h1 : T = 1
  · rw [if_pos h1, if_pos h1]
    exact ⟨_, inv_data_identity C I T A n c t, fun W _ => wdata_any C I T A n c B l t W t0 t1 hm⟩
  rw [if_neg h1] at hf
  rw [if_neg h1, if_neg h1]
  by_cases h2 : T = 2
  · rw [if_pos h2, if_pos h2]
    exact ⟨_, inv_data_notice C I T A n c t, fun W _ => wdata_any C I T A n c B l t W t0 t1 hm⟩
  rw [if_neg h2] at hf
  rw [if_neg h2, if_neg h2]
  by_cases h3 : T = 3
  · rw [if_pos h3, if_pos h3]
    exact ⟨_, inv_data_wishes C I T A n c t, fun W h => idata_any C I T A n c B l t W t0 t1 h.1 h.2 hnil hn⟩
  rw [if_neg h3] at hf
  rw [if_neg h3, if_neg h3]
  by_cases h4 : T = 4
  · rw [if_pos h4] at hf
    rw [if_pos h4, if_pos h4]
    have hc : chB n = true := by
      cases h : chB n
      · rw [h] at hf; simp at hf
      · rfl
    unfold chB at hc
    simp at hc
    rw [hl]
    exact ⟨_, inv_data_proof C I T A n c t, fun W h => pdata_any C I T A n c B l t W t0 t1 h.1 h.2 hnil (by omega) hm⟩
  rw [if_neg h4, if_neg h4]
  exact ⟨_, inv_data_strange C I T A n c t, fun W h => sdata_any C I T A n c B l t W t0 t1 h.1 h.2 hnil hn⟩
end Go.Proofs.YtjimoegegigoiaaDoor
namespace Go.Proofs.YtjimoegegigoiaaDoor
open Go.RowKit Go.Shelf
set_option maxRecDepth 100000
set_option maxHeartbeats 800000
set_option linter.unusedSimpArgs false
set_option linter.unusedVariables false

def wrE (C I T : Int) (n : Nat) (l : List UInt8) (t : ByteArray) : Int := if idB I = false ∨ idB T = false then 1 else if cdB C = false then 90 else if fkE C T n t ≠ 0 then fkE C T n t else if 16380 < (dtL C T l t).length then 4 else 0
theorem write_any (C I T : Int) (A : Option Addr) (n c B : Nat) (l : List UInt8) (t : ByteArray) (w : World) (hr : Rd w B A n l) (hB : B ≤ w.heap.size) (hnil : A = none → c = 0) (hn : n ≤ 140737488351232) (hm : t.size ≤ 140737488351232) :
    Calls Tryd.prog 14 #[msV C I T A n c t] w (PktZ w C I (dtL C T l t) (wrE C I T n l t)) := by
  have hl := hr.1
  obtain ⟨V1, hV1⟩ : ∃ V1, w.alloc (.cells #[.int .i64 C, .int .i64 I, .int .i64 T, .slice A n c, .string t] 26) = V1 := ⟨_, rfl⟩
  have bV1 : Below w.heap.size w V1 := by rw [← hV1]; exact (Below.refl _ _).alloc (Nat.le_refl _) _
  have hm1 : Blk V1 w.heap.size 26 [.int .i64 C, .int .i64 I, .int .i64 T, .slice A n c, .string t] := by rw [← hV1]; exact heap_alloc_new w _
  obtain ⟨V, hV⟩ : ∃ V, V1.alloc (.cells #[.int .i64 0, .int .i64 0, .slice none 0 0] 24) = V := ⟨_, rfl⟩
  have bV : Below V1.heap.size V1 V := by rw [← hV]; exact (Below.refl _ _).alloc (Nat.le_refl _) _
  have h0 : Blk V V1.heap.size 24 [.int .i64 0, .int .i64 0, .slice none 0 0] := by rw [← hV]; exact heap_alloc_new V1 _
  have hm2 := past_blk hm1 bV
  have s1 := bV1.size
  have BV := step_to bV1 bV
  have m0 := hm2.cell 0
  have m1 := hm2.cell 1
  have m2 := hm2.cell 2
  have m3 := hm2.cell 3
  have m4 := hm2.cell 4
  have r0 := h0.cell 0
  have r1 := h0.cell 1
  have r2 := h0.cell 2
  have e0 := h0.frozen 0
  have e1 := h0.frozen 1
  have e2 := h0.frozen 2
  have lr := Blk.lt h0
  have hb4 := blk3 (x := .int .i64 0) (y := .int .i64 0) (z := .slice none 0 0) h0
  have p0 := hb4.cell 0
  have p1 := hb4.cell 1
  have p2 := hb4.cell 2
  have BE : Below w.heap.size w (((V.setCell ⟨V1.heap.size, 0, none⟩ (.int .i64 0)).setCell ⟨V1.heap.size, 1, none⟩ (.int .i64 0)).setCell ⟨V1.heap.size, 2, none⟩ (.slice none 0 0)) := below_row BV (gset3 _ _ _ _ _) s1
  have F0 := Lib.hid (fun (er : Int) (h : er ≠ 0) => pktZ_no (code := C) (id := I) (l := dtL C T l t) (err := er) h BE)
  have HV1 := Lib.hid hV1
  have HV := Lib.hid hV
  have BR := Lib.hid (fun z W => byteRight_any z W)
  have CR := Lib.hid (fun W => codeRight_any C W)
  unfold wrE
  cases hi : idB I
  · rw [if_pos (.inl rfl)]
    have BI : Hid (∀ W, Calls Tryd.prog 38 #[.int .i64 I] W fun e w' => e = .returned (.bool false) ∧ W = w') := fun W => by have := byteRight_any I W; rw [hi] at this; exact this
    clear BR CR hi hV bV h0 hm2 hm1 hV1 bV1 BV BE hb4 hr s1
    go_enter Tryd.func14, Tryd.ntmps14
    go_wp2_with (first
      | (rw [HV1.out])
      | (rw [HV.out])
      | (go_at_call 38; ((with_reducible refine (BI.out _).mono ?_); rintro e w' ⟨rfl, rfl⟩)))
    exact bodyPost_ret (v := .tuple #[.agg #[.int .i64 0, .int .i64 0, .slice none 0 0], .int .i64 1]) (by simp [results, Tryd.results14, go_sem, p0, p1, p2]) rfl (F0.out 1 (by decide))
  have BI : Hid (∀ W, Calls Tryd.prog 38 #[.int .i64 I] W fun e w' => e = .returned (.bool true) ∧ W = w') := fun W => by have := byteRight_any I W; rw [hi] at this; exact this
  cases ht : idB T
  · rw [if_pos (.inr rfl)]
    have BT : Hid (∀ W, Calls Tryd.prog 38 #[.int .i64 T] W fun e w' => e = .returned (.bool false) ∧ W = w') := fun W => by have := byteRight_any T W; rw [ht] at this; exact this
    clear BR CR hi ht hV bV h0 hm2 hm1 hV1 bV1 BV BE hb4 hr s1
    go_enter Tryd.func14, Tryd.ntmps14
    go_wp2_with (first
      | (rw [HV1.out])
      | (rw [HV.out])
      | (go_at_call 38; ((with_reducible refine (BI.out _).mono ?_); rintro e w' ⟨rfl, rfl⟩))
      | (go_at_call 38; ((with_reducible refine (BT.out _).mono ?_); rintro e w' ⟨rfl, rfl⟩)))
    exact bodyPost_ret (v := .tuple #[.agg #[.int .i64 0, .int .i64 0, .slice none 0 0], .int .i64 1]) (by simp [results, Tryd.results14, go_sem, p0, p1, p2]) rfl (F0.out 1 (by decide))
  have BT : Hid (∀ W, Calls Tryd.prog 38 #[.int .i64 T] W fun e w' => e = .returned (.bool true) ∧ W = w') := fun W => by have := byteRight_any T W; rw [ht] at this; exact this
  rw [if_neg (by simp)]
  clear BR
  cases hc : cdB C
  · rw [if_pos rfl]
    rw [hc] at CR
    clear hi ht hc hV bV h0 hm2 hm1 hV1 bV1 BV BE hb4 hr s1
    go_enter Tryd.func14, Tryd.ntmps14
    go_wp2_with (first
      | (rw [HV1.out])
      | (rw [HV.out])
      | (go_at_call 38; ((with_reducible refine (BI.out _).mono ?_); rintro e w' ⟨rfl, rfl⟩))
      | (go_at_call 38; ((with_reducible refine (BT.out _).mono ?_); rintro e w' ⟨rfl, rfl⟩))
      | (go_at_call 39; ((with_reducible refine (CR.out _).mono ?_); rintro e w' ⟨rfl, rfl⟩)))
    exact bodyPost_ret (v := .tuple #[.agg #[.int .i64 0, .int .i64 0, .slice none 0 0], .int .i64 90]) (by simp [results, Tryd.results14, go_sem, p0, p1, p2]) rfl (F0.out 90 (by decide))
  rw [if_neg (by simp)]
  rw [hc] at CR
  clear p0 p1 p2 e0 e1 e2 r0 r1 r2 hb4 BE F0
  obtain ⟨f, hif, hcf⟩ := kind_fault C I T A n c t
  have KO := ekindOf_any C I T A n c t V
  obtain ⟨kt, hkt⟩ : ∃ kt, knT C T = kt := ⟨_, rfl⟩
  obtain ⟨er, her⟩ : ∃ er, fkE C T n t = er := ⟨_, rfl⟩
  obtain ⟨V3, hV3⟩ : ∃ V3, V.alloc (.cells #[.int .i64 C, .int .i64 I, .int .i64 T, .slice A n c, .string t] 26) = V3 := ⟨_, rfl⟩
  have b3 : Below V.heap.size V V3 := by rw [← hV3]; exact (Below.refl _ _).alloc (Nat.le_refl _) _
  rw [hV3, hkt] at KO
  have h3 := past_blk h0 b3
  have hm3 := past_blk hm2 b3
  have B3 := step_to BV b3
  have hf := hcf V3 trivial
  rw [her] at hf
  rw [hkt] at hif
  have HIF := Lib.hid hif
  by_cases hz : er = 0
  case neg =>
    rw [her, if_pos hz]
    have hz1 : (er != 0) = true := by simpa using hz
    have CF : Hid (Calls Tryd.prog f #[msV C I T A n c t] V3 fun e w4 => e = .returned (.int .i64 er) ∧ Blk w4 V1.heap.size 24 [.int .i64 0, .int .i64 0, .slice none 0 0] ∧ PktZ w C I (dtL C T l t) er (.returned (.tuple #[.agg #[.int .i64 0, .int .i64 0, .slice none 0 0], .int .i64 er])) (((w4.setCell ⟨V1.heap.size, 0, none⟩ (.int .i64 0)).setCell ⟨V1.heap.size, 1, none⟩ (.int .i64 0)).setCell ⟨V1.heap.size, 2, none⟩ (.slice none 0 0))) := by
      refine hf.mono ?_
      rintro e w4 ⟨rfl, b4⟩
      exact ⟨rfl, past_blk h3 b4, pktZ_no hz (below_row (step_to B3 b4) (gset3 _ _ _ _ _) s1)⟩
    have KOH := Lib.hid KO
    clear hif hcf KO hkt her hV3 b3 h3 hm3 B3 hf hz hi ht hc hV bV h0 hm2 hm1 hV1 bV1 BV hr s1
    go_enter Tryd.func14, Tryd.ntmps14
    go_wp2_with (first
      | (rw [HV1.out])
      | (rw [HV.out])
      | (go_at_call 38; ((with_reducible refine (BI.out _).mono ?_); rintro e w' ⟨rfl, rfl⟩))
      | (go_at_call 38; ((with_reducible refine (BT.out _).mono ?_); rintro e w' ⟨rfl, rfl⟩))
      | (go_at_call 39; ((with_reducible refine (CR.out _).mono ?_); rintro e w' ⟨rfl, rfl⟩))
      | (go_at_call 44; ((with_reducible refine KOH.out.mono ?_); rintro e w' ⟨rfl, rfl⟩)))
    rw [HIF.out]
    go_wp2_with fail
    refine CF.out.mono ?_
    rintro e w4 ⟨rfl, h4, FN⟩
    have FNH := Lib.hid FN
    have r0 := h4.cell 0
    have r1 := h4.cell 1
    have r2 := h4.cell 2
    have e0 := h4.frozen 0
    have e1 := h4.frozen 1
    have e2 := h4.frozen 2
    have lr := Blk.lt h4
    have hb4 := blk3 (x := .int .i64 0) (y := .int .i64 0) (z := .slice none 0 0) h4
    have p0 := hb4.cell 0
    have p1 := hb4.cell 1
    have p2 := hb4.cell 2
    clear FN h4 hb4 CF
    go_wp2
    exact bodyPost_ret (v := .tuple #[.agg #[.int .i64 0, .int .i64 0, .slice none 0 0], .int .i64 er]) (by simp [results, Tryd.results14, go_sem, p0, p1, p2]) rfl FNH.out
  subst hz
  rw [her, if_neg (by simp)]
  have tb : 0 ≤ T ∧ T ≤ 255 := by
    unfold idB at ht
    simpa using ht
  obtain ⟨G, hig, hcg⟩ := kind_data C I T A n c B l t tb.1 tb.2 hl hnil hn hm her
  rw [hkt] at hig
  have HIG := Lib.hid hig
  obtain ⟨L, hL⟩ : ∃ L, dtL C T l t = L := ⟨_, rfl⟩
  rw [hL] at hcg ⊢
  by_cases hs : 16380 < L.length
  case pos =>
    rw [if_pos hs]
    have CF : Hid (Calls Tryd.prog f #[msV C I T A n c t] V3 fun e w4 => e = .returned (.int .i64 0) ∧ Calls Tryd.prog G #[msV C I T A n c t] w4 fun e w5 => ∃ D k d, e = .returned (.slice D k d) ∧ (16380 : Int) < (k : Int) ∧ Blk w5 V1.heap.size 24 [.int .i64 0, .int .i64 0, .slice none 0 0] ∧ PktZ w C I L 4 (.returned (.tuple #[.agg #[.int .i64 0, .int .i64 0, .slice none 0 0], .int .i64 4])) (((w5.setCell ⟨V1.heap.size, 0, none⟩ (.int .i64 0)).setCell ⟨V1.heap.size, 1, none⟩ (.int .i64 0)).setCell ⟨V1.heap.size, 2, none⟩ (.slice none 0 0))) := by
      refine hf.mono ?_
      rintro e w4 ⟨rfl, b4⟩
      have B4 := step_to B3 b4
      refine ⟨rfl, (hcg w4 ⟨hr.below (B4.mono hB), Nat.le_trans hB B4.size⟩).mono ?_⟩
      rintro e w5 ⟨b5, D, k, d, rfl, ho⟩
      have hk : k = L.length := by
        rcases ho.2 with ⟨e, h⟩ | ⟨g, cap, cur, e, _⟩
        · injection e with e1 e2 e3; rw [e2]; exact h.symm
        · injection e with e1 e2 e3
      exact ⟨D, k, d, rfl, by omega, past_blk (past_blk h3 b4) b5, pktZ_no (by decide) (below_row (step_to B4 b5) (gset3 _ _ _ _ _) s1)⟩
    have KOH := Lib.hid KO
    clear hif hcf hig hcg KO hkt her hL hs tb hV3 b3 h3 hm3 B3 hf hi ht hc hV bV h0 hm2 hm1 hV1 bV1 BV hr s1
    go_enter Tryd.func14, Tryd.ntmps14
    go_wp2_with (first
      | (rw [HV1.out])
      | (rw [HV.out])
      | (go_at_call 38; ((with_reducible refine (BI.out _).mono ?_); rintro e w' ⟨rfl, rfl⟩))
      | (go_at_call 38; ((with_reducible refine (BT.out _).mono ?_); rintro e w' ⟨rfl, rfl⟩))
      | (go_at_call 39; ((with_reducible refine (CR.out _).mono ?_); rintro e w' ⟨rfl, rfl⟩))
      | (go_at_call 44; ((with_reducible refine KOH.out.mono ?_); rintro e w' ⟨rfl, rfl⟩)))
    rw [HIF.out]
    go_wp2_with fail
    refine CF.out.mono ?_
    rintro e w4 ⟨rfl, CG⟩
    go_wp2
    rw [HIG.out]
    go_wp2_with fail
    refine CG.mono ?_
    rintro e w5 ⟨D, k, d, rfl, hk, h4, FN⟩
    have FNH := Lib.hid FN
    have r0 := h4.cell 0
    have r1 := h4.cell 1
    have r2 := h4.cell 2
    have e0 := h4.frozen 0
    have e1 := h4.frozen 1
    have e2 := h4.frozen 2
    have lr := Blk.lt h4
    have hb4 := blk3 (x := .int .i64 0) (y := .int .i64 0) (z := .slice none 0 0) h4
    have p0 := hb4.cell 0
    have p1 := hb4.cell 1
    have p2 := hb4.cell 2
    clear FN h4 hb4 CF CG
    go_wp2
    exact bodyPost_ret (v := .tuple #[.agg #[.int .i64 0, .int .i64 0, .slice none 0 0], .int .i64 4]) (by simp [results, Tryd.results14, go_sem, p0, p1, p2]) rfl FNH.out
  rw [if_neg hs]
  have CF : Hid (Calls Tryd.prog f #[msV C I T A n c t] V3 fun e w4 => e = .returned (.int .i64 0) ∧ Calls Tryd.prog G #[msV C I T A n c t] w4 fun e w5 => ∃ D k d, e = .returned (.slice D k d) ∧ ¬ (16380 : Int) < (k : Int) ∧ Blk w5 w.heap.size 26 [.int .i64 C, .int .i64 I, .int .i64 T, .slice A n c, .string t] ∧ Blk w5 V1.heap.size 24 [.int .i64 0, .int .i64 0, .slice none 0 0] ∧ PktZ w C I L 0 (.returned (.tuple #[.agg #[.int .i64 C, .int .i64 I, .slice D k d], .int .i64 0])) (((w5.setCell ⟨V1.heap.size, 0, none⟩ (.int .i64 C)).setCell ⟨V1.heap.size, 1, none⟩ (.int .i64 I)).setCell ⟨V1.heap.size, 2, none⟩ (.slice D k d))) := by
    refine hf.mono ?_
    rintro e w4 ⟨rfl, b4⟩
    have B4 := step_to B3 b4
    refine ⟨rfl, (hcg w4 ⟨hr.below (B4.mono hB), Nat.le_trans hB B4.size⟩).mono ?_⟩
    rintro e w5 ⟨b5, D, k, d, rfl, ho⟩
    have hk : k = L.length := by
      rcases ho.2 with ⟨e, h⟩ | ⟨g, cap, cur, e, _⟩
      · injection e with e1 e2 e3; rw [e2]; exact h.symm
      · injection e with e1 e2 e3
    have h5 := past_blk (past_blk h3 b4) b5
    have gg := gset3 w5 V1.heap.size (.int .i64 C) (.int .i64 I) (.slice D k d)
    have l4 : V1.heap.size < w4.heap.size := Blk.lt (past_blk h3 b4)
    refine ⟨D, k, d, rfl, by omega, past_blk (past_blk hm3 b4) b5, h5, below_row (step_to B4 b5) gg s1, D, k, d, rfl, ?_⟩
    have h6 := ho.grown gg (by
      rcases hq : (Value.slice D k d).ownBlock with _ | q
      · exact .inl rfl
      · exact .inr (by have := (ho.block q hq).1; intro e; injection e with e; omega))
    exact eown_wide h6 B4.size
  have KOH := Lib.hid KO
  clear hif hcf hig hcg KO hkt her hL hs tb hV3 b3 h3 hm3 B3 hf hi ht hc hV bV h0 hm2 hm1 hV1 bV1 BV hr s1
  go_enter Tryd.func14, Tryd.ntmps14
  go_wp2_with (first
    | (rw [HV1.out])
    | (rw [HV.out])
    | (go_at_call 38; ((with_reducible refine (BI.out _).mono ?_); rintro e w' ⟨rfl, rfl⟩))
    | (go_at_call 38; ((with_reducible refine (BT.out _).mono ?_); rintro e w' ⟨rfl, rfl⟩))
    | (go_at_call 39; ((with_reducible refine (CR.out _).mono ?_); rintro e w' ⟨rfl, rfl⟩))
    | (go_at_call 44; ((with_reducible refine KOH.out.mono ?_); rintro e w' ⟨rfl, rfl⟩)))
  rw [HIF.out]
  go_wp2_with fail
  refine CF.out.mono ?_
  rintro e w4 ⟨rfl, CG⟩
  go_wp2
  rw [HIG.out]
  go_wp2_with fail
  refine CG.mono ?_
  rintro e w5 ⟨D, k, d, rfl, hk, hm5, h4, FN⟩
  have FNH := Lib.hid FN
  clear m0 m1 m2 m3 m4
  have m0 := hm5.cell 0
  have m1 := hm5.cell 1
  have r0 := h4.cell 0
  have r1 := h4.cell 1
  have r2 := h4.cell 2
  have e0 := h4.frozen 0
  have e1 := h4.frozen 1
  have e2 := h4.frozen 2
  have lr := Blk.lt h4
  have hb4 := blk3 (x := .int .i64 C) (y := .int .i64 I) (z := .slice D k d) h4
  have p0 := hb4.cell 0
  have p1 := hb4.cell 1
  have p2 := hb4.cell 2
  clear FN h4 hb4 CF CG hm5
  go_wp2
  exact bodyPost_ret (v := .tuple #[.agg #[.int .i64 C, .int .i64 I, .slice D k d], .int .i64 0]) (by simp [results, Tryd.results14, go_sem, p0, p1, p2]) rfl FNH.out
end Go.Proofs.YtjimoegegigoiaaDoor
