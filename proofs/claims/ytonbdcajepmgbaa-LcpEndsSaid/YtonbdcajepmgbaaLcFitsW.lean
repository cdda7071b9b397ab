/-
  LcpFits: the walk.
-/
import Derived.Test.YtonbdcajepmgbaaLcRFits
import Derived.Test.YtonbdcajepmgbaaLcRRead
import Derived.Test.YtonbdcajepmgbaaLcBack
import Derived.Test.YtonbdcajepmgbaaOpenRow
import Derived.Deep.MidRow
import Derived.Deep.RegionHeld3
import Derived.Deep.Cut
import Derived.BigQuiet
namespace Go.Proofs.Ytonbdcajepmgbaa
open Go.RowKit
set_option maxRecDepth 100000
set_option maxHeartbeats 4000000
set_option linter.unusedSimpArgs false
set_option linter.unusedVariables false

theorem load_conf {W : World} {z : Nat} {cv : Array Value} (h : Blk W z 102 cv.toList) (hs : cv.size = 33) :
    (Instr.loadAt 102 (.pointer (some ⟨z, 0, none⟩))).run Try.prog W = .ok (.agg cv) W := by
  have e := run_loadAt_mid (P := Try.prog) W z 0 102 cv.toList _ (fun j v hv => by rw [Nat.zero_add]; exact (h.cell j).trans hv) Try.underlying102 rfl (by rw [infoC]; simp [hs])
  simpa using e
theorem eat_length : ∀ {ys s : List Opt}, ys.foldl eat s = [] → s.length ≤ ys.length
  | [], s, h => by
    have : s = [] := h
    subst this
    exact Nat.le_refl _
  | y :: ys, s, h => by
    have := eat_length (ys := ys) (s := eat s y) h
    rcases s with _ | ⟨x, s⟩
    · simp
    · have e : (eat (x :: s) y).length = s.length ∨ (eat (x :: s) y).length = s.length + 1 := by
        show (if x = y then s else x :: s).length = s.length ∨ (if x = y then s else x :: s).length = s.length + 1
        split
        · exact .inl rfl
        · exact .inr rfl
      simp only [List.length_cons]
      omega
theorem nak_length {s N : List Opt} {p : Nat → Nat} (hp : ∀ j, j < N.length → (∃ K, (kinds N)[j]? = some K ∧ PlaceAt s K (p j)) ∧ p j < s.length ∧ ∀ i, i < j → p i < p j) : N.length ≤ s.length := by
  have h : ∀ j, j < N.length → j ≤ p j := by
    intro j
    induction j with
    | zero => intro _; omega
    | succ j ih => intro hj; have := ih (by omega); have := (hp (j + 1) hj).2.2 j (by omega); omega
  rcases Nat.eq_zero_or_pos N.length with h0 | h0
  · omega
  · have := h (N.length - 1) (by omega)
    have := (hp (N.length - 1) (by omega)).2.1
    omega
theorem range_of {W : World} {z : Nat} {cv : Array Value} (h : Blk W z 102 cv.toList) : W.rangeAt z 0 cv.toList := fun j v hv => by rw [Nat.zero_add]; exact (h.cell j).trans hv
theorem yields_conf {ops : Array Oper} {S : World → Prop} {op : Oper} {a : Act} (hw : Region.wanted op (yielded ops a.tmps) = true) (x : Operand) (ho : op.op = .load 102 x) (b : Nat) (hx : a.eval x = .pointer (some ⟨b, 0, none⟩)) (cv : Array Value) (hS : ∀ w, S w → w.rangeAt b 0 cv.toList)
    (hi : (Try.prog.info? 102).map (·.size) = some cv.toList.length) : YieldsIf Try.prog ops S op (.agg cv) a := by
  have h := yieldsIf_load_mid (P := Try.prog) (ops := ops) (S := S) hw 102 x ho b 0 hx cv.toList _ hS Try.underlying102 rfl hi
  simpa using h
theorem bool_imp {P Q : Bool} (h : P = true → Q = true) : P = false ∨ (P = true ∧ Q = true) := by
  cases P
  · exact .inl rfl
  · exact .inr ⟨rfl, h rfl⟩
theorem acc_more (l : List Int) (k : Nat) (h : k < l.length) (x : Int) : (l.take (k + 1)).contains x = ((l.take k).contains x || (numAt l k == x)) := by
  rw [List.take_succ_eq_append_getElem h, numAt_eq h]
  generalize l[k] = y
  generalize l.take k = t
  by_cases e : y = x
  · simp [e]
  · have e' : ¬ x = y := fun h => e h.symm
    simp [e, e']
/-- behind Read -/
def FtE (w W : World) (z : Nat) (cv : Array Value) (cc : CV) (o p : LOpts) : Prop := Below w.heap.size w W ∧ Blk W w.heap.size 102 cv.toList ∧ cells6 W (w.heap.size + 1) o ∧ cells6 W z p ∧ Borne cc o p
def FtC (w V : World) (cv : Array Value) (cc : CV) (o : LOpts) (A : Option Addr) (n c : Nat) (naks magic : Int) : Prop :=
  Calls Try.prog 40 #[.agg #[.int .i64 o.mru, .int .i64 o.accm, .int .i64 o.auth, .int .u32 o.magic, .bool o.pfc, .bool o.acfc]] V fun e w1 => e = .returned (.agg #[.int .i64 o.mru, .int .i64 o.accm, .int .i64 o.auth, .int .u32 o.magic, .bool o.pfc, .bool o.acfc]) ∧ Blk w1 w.heap.size 102 cv.toList ∧ cells6 w1 (w.heap.size + 1) o ∧
    Calls Try.prog 62 #[.agg cv, .agg #[.int .i64 o.mru, .int .i64 o.accm, .int .i64 o.auth, .int .u32 o.magic, .bool o.pfc, .bool o.acfc], .slice A n c, .int .i64 naks, .int .u32 magic] w1 fun e w2 => ∃ X nx cx k, e = .returned (.tuple #[.int .i64 k, .slice X nx cx]) ∧ Blk w2 w.heap.size 102 cv.toList ∧ cells6 w2 (w.heap.size + 1) o ∧
      (((k == 2) = false ∧ Calls Try.prog 63 #[.int .i64 k, .slice A n c, .slice X nx cx] w2 fun e w3 => e = .returned (.tuple #[.bool true, .int .i64 0]) ∧
          Calls Try.prog 38 #[] w3 fun e w4 => e = .returned (.bool true) ∧ Below w.heap.size w w4) ∨
       (k = 2 ∧ Calls Try.prog 63 #[.int .i64 2, .slice A n c, .slice X nx cx] w2 fun e w3 => e = .returned (.tuple #[.bool true, .int .i64 0]) ∧
          Calls Try.prog 45 #[.slice A n c] w3 fun e w4 => ∃ p W5, e = .returned (.tuple #[.agg #[.int .i64 p.mru, .int .i64 p.accm, .int .i64 p.auth, .int .u32 p.magic, .bool p.pfc, .bool p.acfc], .int .i64 0]) ∧
           w4.alloc (.cells #[.int .i64 p.mru, .int .i64 p.accm, .int .i64 p.auth, .int .u32 p.magic, .bool p.pfc, .bool p.acfc] 74) = W5 ∧ FtE w W5 w4.heap.size cv cc o p))
theorem ftc (w V : World) (cv : Array Value) (cc : CV) (o : LOpts) (A : Option Addr) (n c : Nat) (s : List Opt) (naks magic : Int) (hcf : ConfAt w w.heap.size cv cc) (hmag : 0 ≤ magic ∧ magic < 4294967296) (hr : OptRd w w.heap.size A n s) (hK : okK s) (hn : n ≤ 300)
    (hB : Below w.heap.size w V) (hs : w.heap.size + 2 ≤ V.heap.size) (hk : Blk V w.heap.size 102 cv.toList) (hm : cells6 V (w.heap.size + 1) o) : FtC w V cv cc o A n c naks magic := by
  have hlen := hr.1
  refine (given_any o V).mono ?_
  rintro e w1 ⟨rfl, b1⟩
  have s1 := b1.size
  have B1 := hB.trans (b1.mono hB.size)
  have k1 : Blk w1 w.heap.size 102 cv.toList := (b1.block _ (by omega)).trans hk
  have m1 := cells6_later hm (by omega) b1
  have r1 : OptRd w1 w.heap.size A n s := hr.below B1 (Nat.le_refl _)
  refine ⟨rfl, k1, m1, (judge_any cv cc o A n c s naks magic w1 (hcf.on B1) hmag (r1.wide (by have := B1.size; omega)) hK (by omega)).mono ?_⟩
  rintro e w2 ⟨X, nx, cx, k, x, rfl, hj, hnx, hox, b2⟩
  have s2 := b2.size
  have B2 := B1.trans (b2.mono B1.size)
  have k2 : Blk w2 w.heap.size 102 cv.toList := (b2.block _ (by omega)).trans k1
  have m2 := cells6_later m1 (by omega) b2
  have r2 : OptRd w2 w.heap.size A n s := hr.below B2 (Nat.le_refl _)
  have hF := judge_fits cc o magic naks s
  rw [hj] at hF
  simp only at hF
  have hxb := judge_short cc o magic naks s 140737488351232 (by omega) hr.bytes
  rw [hj] at hxb
  simp only at hxb
  have rx : OptRd w2 w2.heap.size X nx x := by
    obtain ⟨A', c', e, h, -⟩ := hox.rd hxb
    injection e with e1 e2 e3
    subst e1 e2
    exact h
  have r2' := r2.wide (C := w2.heap.size) (by have := B2.size; omega)
  have hx1 := rx.1
  have hxn : x.length ≤ n := by
    have := hj
    rw [← hlen]
    rcases hF with ⟨-, rfl, -⟩ | ⟨-, -, he⟩ | ⟨-, -, p, hp⟩
    · omega
    · exact eat_length he
    · exact nak_length hp
  have KN : ∀ w3, Below w2.heap.size w2 w3 → Calls Try.prog 38 #[] w3 fun e w4 => e = .returned (.bool true) ∧ Below w.heap.size w w4 := fun w3 b3 => by
    refine (known11_any w3).mono ?_
    rintro e w4 ⟨rfl, b4⟩
    have B3 := B2.trans (b3.mono B2.size)
    exact ⟨rfl, B3.trans (b4.mono B3.size)⟩
  refine ⟨X, nx, cx, k, rfl, k2, m2, ?_⟩
  rcases hF with ⟨rfl, rfl, p, hp, hbo⟩ | ⟨rfl, hx0, he⟩ | ⟨rfl, hx0, hni⟩
  · obtain rfl : nx = n := by omega
    refine .inr ⟨rfl, (rfits_ack A X nx c cx w2.heap.size x w2 r2' rx (Nat.le_refl _) (by omega)).mono ?_⟩
    rintro e w3 ⟨rfl, b3⟩
    have B3 := B2.trans (b3.mono B2.size)
    have s3 := b3.size
    have k3 : Blk w3 w.heap.size 102 cv.toList := (b3.block _ (by omega)).trans k2
    have m3 := cells6_later m2 (by omega) b3
    refine ⟨rfl, (rread_any A nx c x w3 ((hr.below B3 (Nat.le_refl _)).wide B3.size) hK (by omega)).mono ?_⟩
    obtain ⟨ro, re⟩ := readO_some hp
    rw [ro, re]
    rintro e w4 ⟨rfl, b4⟩
    have B4 := B3.trans (b4.mono B3.size)
    have s4 := b4.size
    have k4 : Blk w4 w.heap.size 102 cv.toList := (b4.block _ (by omega)).trans k3
    have m4 := cells6_later m3 (by omega) b4
    have BA : Below w4.heap.size w4 (w4.alloc (.cells #[.int .i64 p.mru, .int .i64 p.accm, .int .i64 p.auth, .int .u32 p.magic, .bool p.pfc, .bool p.acfc] 74)) := (Below.refl _ _).alloc (Nat.le_refl _) _
    exact ⟨p, _, rfl, rfl, B4.trans (BA.mono B4.size), (BA.block _ (by omega)).trans k4, cells6_later m4 (by omega) BA, cells6_new w4 _ p, hbo⟩
  · have h0 : 0 < nx := by
      rcases Nat.eq_zero_or_pos nx with h | h
      · exact absurd (List.eq_nil_of_length_eq_zero (by omega)) hx0
      · exact h
    refine .inl ⟨rfl, (rfits_rej A X n nx c cx w2.heap.size s x w2 r2' rx (Nat.le_refl _) (by omega) (by omega) h0 he).mono ?_⟩
    rintro e w3 ⟨rfl, b3⟩
    exact ⟨rfl, KN w3 b3⟩
  · have h0 : 0 < nx := by
      rcases Nat.eq_zero_or_pos nx with h | h
      · exact absurd (List.eq_nil_of_length_eq_zero (by omega)) hx0
      · exact h
    refine .inl ⟨rfl, (rfits_nak A X n nx c cx w2.heap.size s x w2 r2' rx (by omega) (by omega) h0 hni).mono ?_⟩
    rintro e w3 ⟨rfl, b3⟩
    exact ⟨rfl, KN w3 b3⟩
theorem lcpfits_walk (cv : Array Value) (cc : CV) (o : LOpts) (A : Option Addr) (n c : Nat) (s : List Opt) (naks magic : Int) (w : World) (hcf : ConfAt w w.heap.size cv cc) (hmag : 0 ≤ magic ∧ magic < 4294967296) (hr : OptRd w w.heap.size A n s) (hK : okK s) (hn : n ≤ 4398046511103) :
    Calls Try.prog 11 #[.agg cv, o.val, .slice A n c, .int .i64 naks, .int .u32 magic] w fun e w' => e = .returned (.bool true) ∧ Below w.heap.size w w' := by
  have hsz := hcf.1
  obtain ⟨W2, hW2⟩ : ∃ W2, (w.alloc (.cells cv 102)).alloc (.cells #[.int .i64 o.mru, .int .i64 o.accm, .int .i64 o.auth, .int .u32 o.magic, .bool o.pfc, .bool o.acfc] 74) = W2 := ⟨_, rfl⟩
  have B1 : Below w.heap.size w (w.alloc (.cells cv 102)) := (Below.refl _ _).alloc (Nat.le_refl _) _
  have B2 : Below w.heap.size w W2 := by rw [← hW2]; exact B1.alloc (by simp) _
  have s2 : W2.heap.size = w.heap.size + 2 := by rw [← hW2]; simp
  have k2 : Blk W2 w.heap.size 102 cv.toList := by
    rw [← hW2]
    refine (Below.heap_alloc _ _ _ (by simp)).trans ?_
    have h := blk_new w 102 cv.toList
    unfold Blk at h
    simpa using h
  have m2 : cells6 W2 (w.heap.size + 1) o := by
    rw [← hW2]
    have h := cells6_new (w.alloc (.cells cv 102)) 74 o
    rw [World.size_alloc] at h
    exact h
  have HW := Lib.hid hW2
  have HB2 := Lib.hid B2
  have KN : Hid (Calls Try.prog 38 #[] W2 fun e w4 => e = .returned (.bool true) ∧ Below w.heap.size w w4) := by
    refine (known11_any W2).mono ?_
    rintro e w4 ⟨rfl, b4⟩
    exact ⟨rfl, B2.trans (b4.mono B2.size)⟩
  unfold LOpts.val
  by_cases hbig : 300 < n
  · have hb : (300 : Int) < (n : Int) := by omega
    clear hcf hr hK hW2 B1 B2 k2 m2
    go_enter Try.func11, Try.ntmps11
    go_upto_region 1 with (fail)
    rw [HW.out]
    go_wp2_with (go_at_call 38; ((with_reducible refine KN.out.mono ?_); rintro e w4 ⟨rfl, b4⟩; have HB4 := Lib.hid b4; clear b4))
    go_ret
    exact ⟨rfl, HB4.out⟩
  · have hb : ¬ (300 : Int) < (n : Int) := by omega
    have FC := ftc w W2.drew cv cc o A n c s naks magic hcf hmag hr hK (by omega) (below_drewN B2 1) (by show _ ≤ W2.heap.size; omega) k2 m2
    have hS : W2.drew.rangeAt w.heap.size 0 cv.toList ∧ cells6 W2.drew (w.heap.size + 1) o := ⟨range_of k2, m2⟩
    have IC : (Try.prog.info? 102).map (·.size) = some cv.toList.length := by rw [infoC]; simp [hsz]
    have HS := Lib.hid hS
    have HIC := Lib.hid IC
    unfold FtC at FC
    have HF := Lib.hid FC
    obtain ⟨-, ⟨C, m, d, e3, hri, hmb⟩, e6, e7, e8, -⟩ := hcf
    have HRI := Lib.hid hri
    clear hr hK hW2 B1 B2 k2 FC KN hri hS IC m2
    go_enter Try.func11, Try.ntmps11
    go_upto_region 1 with (fail)
    rw [HW.out]
    go_upto_region 3 with (fail)
    refine wp_region_held_drew (S := fun w' => w'.rangeAt w.heap.size 0 cv.toList ∧ cells6 w' (w.heap.size + 1) o) (by kernel_rfl) HS.out (fun hHeld => ?_)
    refine wpAnyH_take (i := 0) (oi := { dst := some 24, op := .load 102 (.tmp 5), type := 102, pos := "law.go:115", after := #[], guard := none }) (v := .agg cv) rfl (by kernel_rfl) (by kernel_rfl) (by kernel_rfl) (fun _ _ _ h => h) (yields_conf (by rfl) (.tmp 5) rfl w.heap.size rfl cv (fun _ h => h.1) HIC.out) hHeld ?_
    try simp only [Act.put, List.setIfInBounds_toArray, List.set_cons_zero, List.set_cons_succ]
    refine wpAnyH_take (i := 1) (oi := { dst := some 25, op := .load 74 (.tmp 6), type := 74, pos := "law.go:115", after := #[], guard := none }) (v := .agg #[.int .i64 o.mru, .int .i64 o.accm, .int .i64 o.auth, .int .u32 o.magic, .bool o.pfc, .bool o.acfc]) rfl (by kernel_rfl) (by kernel_rfl) (by kernel_rfl) (fun _ _ _ h => h) (.inl ⟨by rfl, fun W h => by obtain ⟨-, a0, a1, a2, a3, a4, a5⟩ := h; go_simp⟩) hHeld ?_
    try simp only [Act.put, List.setIfInBounds_toArray, List.set_cons_zero, List.set_cons_succ]
    refine wpAnyH_take (i := 3) (oi := { dst := some 27, op := .move (.tmp 2), type := 55, pos := "law.go:115", after := #[], guard := none }) (v := .slice A n c) rfl (by kernel_rfl) (by kernel_rfl) (by kernel_rfl) (fun _ _ _ h => h) (.inl ⟨by rfl, fun _ _ => rfl⟩) hHeld ?_
    try simp only [Act.put, List.setIfInBounds_toArray, List.set_cons_zero, List.set_cons_succ]
    refine wpAnyH_take (i := 4) (oi := { dst := some 28, op := .move (.tmp 3), type := 3, pos := "law.go:115", after := #[], guard := none }) (v := .int .i64 naks) rfl (by kernel_rfl) (by kernel_rfl) (by kernel_rfl) (fun _ _ _ h => h) (.inl ⟨by rfl, fun _ _ => rfl⟩) hHeld ?_
    try simp only [Act.put, List.setIfInBounds_toArray, List.set_cons_zero, List.set_cons_succ]
    refine wpAnyH_take (i := 5) (oi := { dst := some 29, op := .move (.tmp 4), type := 72, pos := "law.go:115", after := #[], guard := none }) (v := .int .u32 magic) rfl (by kernel_rfl) (by kernel_rfl) (by kernel_rfl) (fun _ _ _ h => h) (.inl ⟨by rfl, fun _ _ => rfl⟩) hHeld ?_
    try simp only [Act.put, List.setIfInBounds_toArray, List.set_cons_zero, List.set_cons_succ]
    refine wpAnyH_ready (rs := [2]) (by kernel_rfl) (by simp) (AllReadyH.cons (o := { dst := some 26, op := .call { callee := .value (.func 40), args := #[.tmp 25], argTypes := #[74] }, type := 76, pos := "law.go:115", after := #[{ on := 1, ground := .data }], guard := none }) rfl (fun K hK => ?_) AllReadyH.nil)
    go_simp
    go_at_call 40
    with_reducible refine HF.out.mono ?_
    rintro e w1 ⟨rfl, l4, m4, f1⟩
    have F1 := Lib.hid f1
    clear f1
    refine hK.out _ _ ⟨range_of l4, m4⟩ (fun hHeld => ?_)
    clear hK K
    try simp only [Act.put, List.setIfInBounds_toArray, List.set_cons_zero, List.set_cons_succ]
    refine wpAnyH_ready (rs := [6]) (by kernel_rfl) (by simp) (AllReadyH.cons (o := { dst := some 30, op := .call { callee := .value (.func 62), args := #[.tmp 24, .tmp 26, .tmp 27, .tmp 28, .tmp 29], argTypes := #[102, 76, 55, 3, 72] }, type := 103, pos := "law.go:115", after := #[{ on := 0, ground := .data }, { on := 2, ground := .data }, { on := 3, ground := .data }, { on := 4, ground := .data }, { on := 5, ground := .data }, { on := 2, ground := .chain }], guard := none }) rfl (fun K hK => ?_) AllReadyH.nil)
    go_simp
    go_at_call 62
    with_reducible refine F1.out.mono ?_
    rintro e w2 ⟨X, nx, cx, k, rfl, l5, m5, f2⟩
    have F2 := Lib.hid f2
    clear f2
    refine hK.out _ _ ⟨range_of l5, m5⟩ (fun hHeld => ?_)
    clear hK K
    try simp only [Act.put, List.setIfInBounds_toArray, List.set_cons_zero, List.set_cons_succ]
    refine wpAnyH_take (i := 7) (oi := { dst := some 23, op := .move (.tmp 30), type := 103, pos := "law.go:115", after := #[{ on := 6, ground := .data }], guard := none }) (v := .tuple #[.int .i64 k, .slice X nx cx]) rfl (by kernel_rfl) (by kernel_rfl) (by kernel_rfl) (fun _ _ _ h => h) (.inl ⟨by rfl, fun _ _ => rfl⟩) hHeld ?_
    try simp only [Act.put, List.setIfInBounds_toArray, List.set_cons_zero, List.set_cons_succ]
    refine wpAnyH_take (i := 8) (oi := { dst := some 31, op := .extract (.tmp 23) 0, type := 3, pos := "law.go:115", after := #[{ on := 7, ground := .data }], guard := none }) (v := .int .i64 k) rfl (by kernel_rfl) (by kernel_rfl) (by kernel_rfl) (fun _ _ _ h => h) (.inl ⟨by rfl, fun _ _ => rfl⟩) hHeld ?_
    try simp only [Act.put, List.setIfInBounds_toArray, List.set_cons_zero, List.set_cons_succ]
    refine wpAnyH_take (i := 9) (oi := { dst := some 32, op := .extract (.tmp 23) 1, type := 55, pos := "law.go:115", after := #[{ on := 7, ground := .data }, { on := 10, ground := .gcOnly .lateStores }], guard := none }) (v := .slice X nx cx) rfl (by kernel_rfl) (by kernel_rfl) (by kernel_rfl) (fun _ _ _ h => h) (.inl ⟨by rfl, fun _ _ => rfl⟩) hHeld ?_
    try simp only [Act.put, List.setIfInBounds_toArray, List.set_cons_zero, List.set_cons_succ]
    refine wpAnyH_take (i := 10) (oi := { dst := some 11, op := .assign (.tmp 31), type := 3, pos := "law.go:115", after := #[{ on := 8, ground := .data }, { on := 6, ground := .chain }, { on := 0, ground := .phase }, { on := 1, ground := .phase }, { on := 2, ground := .phase }, { on := 3, ground := .phase }, { on := 4, ground := .phase }, { on := 5, ground := .phase }, { on := 6, ground := .phase }, { on := 7, ground := .phase }, { on := 8, ground := .phase }, { on := 9, ground := .textOnly .lateStores }], guard := none }) (v := .int .i64 k) rfl (by kernel_rfl) (by kernel_rfl) (by kernel_rfl) (fun _ _ _ h => h) (.inl ⟨by rfl, fun _ _ => rfl⟩) hHeld ?_
    try simp only [Act.put, List.setIfInBounds_toArray, List.set_cons_zero, List.set_cons_succ]
    refine wpAnyH_take (i := 11) (oi := { dst := some 12, op := .assign (.tmp 32), type := 55, pos := "law.go:115", after := #[{ on := 9, ground := .data }, { on := 10, ground := .chain }, { on := 0, ground := .phase }, { on := 1, ground := .phase }, { on := 2, ground := .phase }, { on := 3, ground := .phase }, { on := 4, ground := .phase }, { on := 5, ground := .phase }, { on := 6, ground := .phase }, { on := 7, ground := .phase }, { on := 8, ground := .phase }, { on := 9, ground := .phase }, { on := 10, ground := .phase }], guard := none }) (v := .slice X nx cx) rfl (by kernel_rfl) (by kernel_rfl) (by kernel_rfl) (fun _ _ _ h => h) (.inl ⟨by rfl, fun _ _ => rfl⟩) hHeld ?_
    try simp only [Act.put, List.setIfInBounds_toArray, List.set_cons_zero, List.set_cons_succ]
    refine wpAnyH_done (by kernel_rfl) ?_ _
    clear hHeld HS HF F1 HIC l4 m4 l5 m5
    rcases F2.out with ⟨hk, f3⟩ | ⟨rfl, f3⟩
    · have F3 := Lib.hid f3
      clear f3 F2
      go_wp2_with (first
        | (go_at_call 63; ((with_reducible refine F3.out.mono ?_); rintro e w3 ⟨rfl, f4⟩; have F4 := Lib.hid f4; clear f4))
        | (go_at_call 38; ((with_reducible refine F4.out.mono ?_); rintro e w4 ⟨rfl, f5⟩; have F5 := Lib.hid f5; clear f5)))
      go_ret
      exact ⟨rfl, F5.out⟩
    · have F3 := Lib.hid f3
      clear f3 F2
      go_upto_region 10 with (first
        | (go_at_call 63; ((with_reducible refine F3.out.mono ?_); rintro e w3 ⟨rfl, f4⟩; have F4 := Lib.hid f4; clear f4))
        | (go_at_call 45; ((with_reducible refine F4.out.mono ?_); rintro e w4 ⟨p, W5, rfl, hw5, f5⟩; have HW5 := Lib.hid hw5; have F5 := Lib.hid f5; clear hw5 f5))
        | (rw [HW5.out]))
      obtain ⟨hB5, hk5, ⟨-, -, -, x3, -, -⟩, ⟨-, -, y2, y3, y4, y5⟩, hb1, hb2, hb3, hb4⟩ := F5.out
      have c3 : W5.cell? ⟨w.heap.size, 3, none⟩ = some (.slice C m d) := (hk5.cell 3).trans (by simpa using e3)
      have c6 : W5.cell? ⟨w.heap.size, 6, none⟩ = some (.bool cc.pfc) := (hk5.cell 6).trans (by simpa using e6)
      have c7 : W5.cell? ⟨w.heap.size, 7, none⟩ = some (.bool cc.acfc) := (hk5.cell 7).trans (by simpa using e7)
      have c8 : W5.cell? ⟨w.heap.size, 8, none⟩ = some (.bool cc.mg) := (hk5.cell 8).trans (by simpa using e8)
      have hz4 := (show w4.heap.size < W5.heap.size by rw [← HW5.out]; simp)
      have H4 := Lib.hid hb4
      have HB5 := Lib.hid hB5
      have hwz := hk5.lt
      clear hB5 hk5 F5 F3 F4 HW5 e3 e6 e7 e8
      generalize w4.heap.size = z at *
      go_cut [90] from 54 (fun v W => v = .bool false ∧ W5 = W)
      case first =>
        rcases bool_imp hb1 with g1 | ⟨g1, g1'⟩ <;> rcases bool_imp hb2 with g2 | ⟨g2, g2'⟩ <;> rcases Classical.em (p.magic = 0) with g3 | g3
        all_goals
          first
            | rw [g1] at y4
          first
            | rw [g1'] at c6
            | skip
          rw [g2] at y5
          first
            | rw [g2'] at c7
            | skip
          first
            | (rw [g3] at y3)
            | (obtain ⟨u1, u2⟩ := hb3 g3
               rw [u1] at c8
               have v1 : (p.magic != 0) = true := by simpa using g3
               have v2 : (p.magic == o.magic) = false := by simpa using u2
               clear u1 u2)
          clear hb1 hb2 hb3 hb4
          go_wp2
          go_meet
          case rel => exact ⟨rfl, rfl⟩
      case rest =>
        obtain ⟨rfl, rfl⟩ := hcut
        clear x3 y3 y4 y5 c6 c7 c8 hb1 hb2 hb3 hb4
        have KN5 : Hid (∀ V, Below W5.heap.size W5 V → Calls Try.prog 38 #[] V fun e w4 => e = .returned (.bool true) ∧ Below w.heap.size w w4) := fun V hV => by
          refine (known11_any V).mono ?_
          rintro e w5 ⟨rfl, b5⟩
          have B := HB5.out.trans (hV.mono HB5.out.size)
          exact ⟨rfl, B.trans (b5.mono B.size)⟩
        have hlm := HRI.out.1
        have hB5s := HB5.out.size
        go_wp2
        go_loopw [17, 18] (fun v i wr => ∃ (V : World) (k : Nat), V = wr ∧ k ≤ m ∧ i = .int .i64 k ∧ v = .bool ((p.auth == 0) || (cc.acc.take k).contains p.auth) ∧ Hid (Below W5.heap.size W5 V)) (fun _ i _ => m - (intOf i).toNat)
        case atStart => exact ⟨_, 0, rfl, Nat.zero_le _, rfl, by simp, Below.refl _ _⟩
        case round =>
          obtain ⟨V, k, rfl, hkm, rfl, rfl, hV⟩ := hrel
          have d3 : V.cell? ⟨w.heap.size, 3, none⟩ = some (.slice C m d) := (hV.out.cell hwz).trans c3
          have f2 : V.cell? ⟨z, 2, none⟩ = some (.int .i64 p.auth) := (hV.out.cell hz4).trans y2
          have KN6 := Lib.hid (KN5.out V hV.out)
          by_cases hlt : k < m
          · obtain ⟨b, off, rfl, hb, hc⟩ := HRI.out.2 (by omega)
            have x1 : V.cell? ⟨b, off + k, none⟩ = some (.int .i64 (numAt cc.acc k)) := (hV.out.cell (show b < W5.heap.size by omega)).trans ((HB5.out.cell hb).trans (hc k hlt))
            have hm := acc_more cc.acc k (by omega) p.auth
            obtain ⟨bb, hbb⟩ : ∃ b, ((p.auth == 0) || (cc.acc.take k).contains p.auth) = b := ⟨_, rfl⟩
            have HN : Hid (((p.auth == 0) || (cc.acc.take (k + 1)).contains p.auth) = (bb || (numAt cc.acc k == p.auth))) := by
              show _ = _
              rw [hm, ← hbb, Bool.or_assoc]
            rw [hbb]
            clear hc hm hbb KN6
            generalize numAt cc.acc k = x at *
            cases bb
            · rcases hx : (x == p.auth) with _ | _
              all_goals
                rw [hx] at HN
                go_wp2
                go_quiet (fail)
                go_wp2
                go_roundw
                case rel => exact ⟨_, k + 1, rfl, by omega, by go_num, by rw [HN.out]; rfl, below_drewN hV.out _⟩
                case measure => simp [intOf]; omega
            · go_wp2
              go_quiet (fail)
              go_wp2
              go_roundw
              case rel => exact ⟨_, k + 1, rfl, by omega, by go_num, by rw [HN.out]; rfl, below_drewN hV.out _⟩
              case measure => simp [intOf]; omega
          · have hkm' : k = m := by omega
            have hbo : ((p.auth == 0) || (cc.acc.take k).contains p.auth) = true := by
              rw [List.take_of_length_le (by omega)]
              rcases H4.out with h | h
              · simp [h]
              · simp [h]
            rw [hbo]
            subst hkm'
            clear hbo
            go_wp2_with (go_at_call 38; ((with_reducible refine KN6.out.mono ?_); rintro e w6 ⟨rfl, b6⟩; have HB6 := Lib.hid b6; clear b6))
            go_ret
            exact ⟨rfl, HB6.out⟩
end Go.Proofs.Ytonbdcajepmgbaa
