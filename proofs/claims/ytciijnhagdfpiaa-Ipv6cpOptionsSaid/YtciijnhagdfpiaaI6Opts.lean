/-
  Ipv6cpOptions: the law's calls, and its walk.
-/
import Derived.Test.YtciijnhagdfpiaaI6Read
import Derived.Test.YtciijnhagdfpiaaI6Known
namespace Go.Proofs.Ytciijnhagdfpiaa
open Go.RowKit
set_option maxRecDepth 100000
set_option maxHeartbeats 16000000
set_option linter.unusedSimpArgs false
set_option linter.unusedVariables false

theorem range_on {W V : World} {z : Nat} {cs : List Value} (h : W.rangeAt z 0 cs) (hb : Below W.heap.size W V) (hz : z < W.heap.size) : V.rangeAt z 0 cs := fun j v hj => (hb.cell (p := ⟨z, 0 + j, none⟩) hz).trans (h j v hj)
/-- the law's calls, one behind the other -/
def OgC (w W1 : World) (cs : List Value) (id r1 r3 : Int) (r2 : Bool) (A : Option Addr) (n c : Nat) : Prop :=
  Calls Try.prog 7 #[.int .u64 id] W1 fun e V1 => ∃ g, e = .returned (.slice (some ⟨g, 0, none⟩) 1 1) ∧
    Hid (Calls Try.prog 9 #[.int .u64 id] V1 fun e V2 => ∃ h, e = .returned (.slice (some ⟨h, 0, none⟩) 1 1) ∧
      Hid (Calls Try.prog 8 #[.slice (some ⟨g, 0, none⟩) 1 1, .slice (some ⟨h, 0, none⟩) 1 1] V2 fun e V3 => e = .returned (.bool true) ∧
        Hid (Calls Try.prog 10 #[.slice (some ⟨g, 0, none⟩) 1 1] V3 fun e V4 => e = .returned (.tuple #[.int .u64 id, .bool true, .int .i64 0]) ∧
          Hid (Calls Try.prog 11 #[.slice (some ⟨g, 0, none⟩) 1 1] V4 fun e V5 => e = .returned (.tuple #[]) ∧
            Hid (Calls Try.prog 12 #[.slice A n c] V5 fun e V6 => ∃ F f, e = .returned (.slice F n f) ∧
              Hid (Calls Try.prog 10 #[.slice F n f] V6 fun e V7 => e = .returned (.tuple #[.int .u64 r1, .bool r2, .int .i64 r3]) ∧
                Hid (Calls Try.prog 13 #[.slice A n c] V7 fun e V8 => e = .returned (.tuple #[.int .u64 r1, .bool r2, .int .i64 r3]) ∧ Hid (V8.rangeAt w.heap.size 0 cs) ∧ Hid (Below w.heap.size w V8) ∧ Hid (w.heap.size < V8.heap.size) ∧
                  Hid (∀ W, Below V8.heap.size V8 W → Calls Try.prog 8 #[.slice F n f, .slice A n c] W fun e V9 => e = .returned (.bool true) ∧ Hid (V9.rangeAt w.heap.size 0 cs) ∧ Hid (Below V8.heap.size V8 V9)))))))))
theorem og_calls {w W1 : World} {cs : List Value} {id : Int} {s : List Opt} {A : Option Addr} {n c : Nat} (hi : In64 id) (hr : OptRd w w.heap.size A n s) (hn : n ≤ 4398046511103) (hB1 : Below w.heap.size w W1) (hlt : w.heap.size < W1.heap.size) (hrow : W1.rangeAt w.heap.size 0 cs) : OgC w W1 cs id (rd6 s).1 (rd6 s).2.2 (rd6 s).2.1 A n c := by
  unfold OgC
  obtain rfl := hr.1
  have s1 := hB1.size
  have hby : ∀ o ∈ ([(1, putB id.toNat 8)] : List Opt), o.2.length ≤ 140737488351232 := by intro o ho; simp at ho; subst ho; show (putB _ 8).length ≤ _; rw [putB_length]; omega
  refine (options6_any id W1 hi.1 hi.2).mono ?_
  rintro e V1 ⟨g, rfl, ho1, b1⟩
  have t1 := b1.size
  refine ⟨g, rfl, Lib.hid ((roptions6_any id V1 hi.1 hi.2).mono ?_)⟩
  rintro e V2 ⟨h, rfl, ho2, b2⟩
  have t2 := b2.size
  have ho1' := ho1.later b2
  obtain ⟨X', x', e1, hrx, _⟩ := ho1'.rd hby
  injection e1 with e1 _ e3
  subst e1 e3
  obtain ⟨Y', y', e1, hry, _⟩ := ho2.rd hby
  injection e1 with e1 _ e3
  subst e1 e3
  refine ⟨h, rfl, Lib.hid ((rsame_any _ _ 1 1 1 1 V2.heap.size [(1, putB id.toNat 8)] [(1, putB id.toNat 8)] V2 hrx hry (Nat.le_refl _) (by omega) (by omega)).mono ?_)⟩
  rintro e V3 ⟨rfl, b3⟩
  have t3 := b3.size
  have hv : rd6V [(1, putB id.toNat 8)] = .tuple #[.int .u64 id, .bool true, .int .i64 0] := by
    unfold rd6V
    rw [rd6_one, if_pos (rgt_id id), num_id hi]
  refine ⟨by simp, Lib.hid ((read6_any _ 1 1 V3.heap.size [(1, putB id.toNat 8)] V3 ((hrx.below b3 (Nat.le_refl _)).wide t3) (Nat.le_refl _) (by omega)).mono ?_)⟩
  rintro e V4 ⟨rfl, b4⟩
  rw [hv]
  have t4 := b4.size
  have hs := ((ho1'.later b3).later b4).owns (fun o ho => by have := hby o ho; omega)
  refine ⟨rfl, Lib.hid ((ospoil_any _ 1 W1.heap.size V4 hs (by omega) (by omega)).mono ?_)⟩
  rintro e V5 ⟨rfl, b5⟩
  have b15 : Below W1.heap.size W1 V5 := (b1.trans ((b2.mono t1).trans ((b3.mono (by omega)).trans (b4.mono (by omega))))).trans b5
  have C5 := hB1.trans (b15.mono s1)
  have t5 := b15.size
  refine ⟨rfl, Lib.hid ((olent_any A s.length c V5.heap.size s V5 ((hr.below C5 (Nat.le_refl _)).wide C5.size) (Nat.le_refl _) hn).mono ?_)⟩
  rintro e V6 ⟨F, f, rfl, ho6, b6⟩
  have t6 := b6.size
  have C6 := C5.trans (b6.mono C5.size)
  obtain ⟨F', f', e1, hrd, _⟩ := ho6.rd hr.bytes
  injection e1 with e1 _ e3
  subst e1 e3
  refine ⟨F, f, rfl, Lib.hid ((read6_any F s.length f V6.heap.size s V6 hrd (Nat.le_refl _) hn).mono ?_)⟩
  rintro e V7 ⟨rfl, b7⟩
  have t7 := b7.size
  have C7 := C6.trans (b7.mono C6.size)
  refine ⟨rfl, Lib.hid ((rread6_any A s.length c w.heap.size s V7 (hr.below C7 (Nat.le_refl _)) C7.size hn).mono ?_)⟩
  rintro e V8 ⟨rfl, b8⟩
  have t8 := b8.size
  have C8 := C7.trans (b8.mono C7.size)
  have b18 : Below W1.heap.size W1 V8 := b15.trans ((b6.mono t5).trans ((b7.mono (by omega)).trans (b8.mono (by omega))))
  have hrow8 := range_on hrow b18 hlt
  refine ⟨rfl, Lib.hid hrow8, Lib.hid C8, Lib.hid (by show _ < _; omega), Lib.hid fun W hW => ?_⟩
  have tw := hW.size
  have hF := ((hrd.below b7 (Nat.le_refl _)).wide t7).below b8 (Nat.le_refl _)
  refine (rsame_any F A s.length s.length f c W.heap.size s s W (((hF.wide t8).below hW (Nat.le_refl _)).wide tw) ((((hr.below C8 (Nat.le_refl _)).wide C8.size).below hW (Nat.le_refl _)).wide tw) (Nat.le_refl _) (by omega) (by omega)).mono ?_
  rintro e V9 ⟨rfl, b9⟩
  have B9 := hW.trans (b9.mono tw)
  exact ⟨by simp, Lib.hid (range_on hrow8 B9 (by omega)), Lib.hid B9⟩
theorem ipv6cpoptions_walk (id : Int) (A : Option Addr) (n c : Nat) (s : List Opt) (cv : Array Value) (lid mf draw : Int) (w : World) (hi : In64 id) (hr : OptRd w w.heap.size A n s) (hn : n ≤ 4398046511103) (hc : ConfI cv lid mf) (hd : In64 draw) :
    Calls Try.prog 3 #[.int .u64 id, .slice A n c, .agg cv, .int .u64 draw] w fun e w' => e = .returned (.bool true) ∧ Below w.heap.size w w' := by
  obtain ⟨cs, rfl⟩ : ∃ cs : List Value, cv = cs.toArray := ⟨cv.toList, by simp⟩
  obtain ⟨W1, hW1⟩ : ∃ W1, w.alloc (.cells cs.toArray 26) = W1 := ⟨_, rfl⟩
  have k1 : Blk W1 w.heap.size 26 cs := by rw [← hW1]; exact blk_new w _ _
  have B1 : Below w.heap.size w W1 := by rw [← hW1]; exact (Below.refl _ _).alloc (Nat.le_refl _) _
  have hlt := Blk.lt k1
  have hrow : W1.rangeAt w.heap.size 0 cs := fun j v hj => by rw [Nat.zero_add]; exact (k1.cell j).trans hj
  have OG := og_calls hi hr hn B1 hlt hrow (c := c)
  obtain ⟨r1, hr1⟩ : ∃ r1, (rd6 s).1 = r1 := ⟨_, rfl⟩
  obtain ⟨r2, hr2⟩ : ∃ r2, (rd6 s).2.1 = r2 := ⟨_, rfl⟩
  obtain ⟨r3, hr3⟩ : ∃ r3, (rd6 s).2.2 = r3 := ⟨_, rfl⟩
  rw [hr1, hr2, hr3] at OG
  unfold OgC at OG
  have OG := Lib.hid OG
  have HW := Lib.hid hW1
  have IL : Hid ((Try.prog.info? 26).map (·.size) = some cs.length) := by
    show _ = _
    have h33 : cs.length = 33 := by simpa using hc.1
    rw [h33]
    exact info6
  have WT := Lib.hid (fun W => want6_any cs.toArray lid mf draw W hc hd)
  have RW := Lib.hid (fun W => rwant6_any cs.toArray lid mf draw W hc hd)
  obtain ⟨wt, hwt⟩ : ∃ wt, wnt lid draw = wt := ⟨_, rfl⟩
  rw [hwt] at WT RW
  clear hi hr hc hd k1 B1 hlt hrow hr1 hr2 hr3 hwt hW1
  go_enter Try.func3, Try.ntmps3
  go_upto_region 1 with (fail)
  rw [HW.out]
  clear HW
  go_upto_region 11 with (first
    | (go_at_call 7; (with_reducible refine OG.out.mono ?_); rintro e V1 ⟨g, rfl, C1⟩)
    | (go_at_call 9; (with_reducible refine C1.out.mono ?_); rintro e V2 ⟨h, rfl, C2⟩)
    | (go_at_call 8; (with_reducible refine C2.out.mono ?_); rintro e V3 ⟨rfl, C3⟩)
    | (go_at_call 10; (with_reducible refine C3.out.mono ?_); rintro e V4 ⟨rfl, C4⟩)
    | (go_at_call 11; (with_reducible refine C4.out.mono ?_); rintro e V5 ⟨rfl, C5⟩)
    | (go_at_call 12; (with_reducible refine C5.out.mono ?_); rintro e V6 ⟨F, f, rfl, C6⟩)
    | (go_at_call 10; (with_reducible refine C6.out.mono ?_); rintro e V7 ⟨rfl, C7⟩)
    | (go_at_call 13; (with_reducible refine C7.out.mono ?_); rintro e V8 ⟨rfl, HS8, HBW, HLT, CS⟩))
  have D1 : Hid (Below V8.heap.size V8 V8.drew) := below_drewN (Below.refl V8.heap.size V8) 1
  have CW := Lib.hid (fun W (hW : Below V8.heap.size V8 W) => (WT.out W).mono (R' := fun e W' => e = .returned (.int .u64 wt) ∧ Hid (W'.rangeAt w.heap.size 0 cs) ∧ Hid (Below V8.heap.size V8 W')) (by
    rintro e W' ⟨rfl, b⟩
    have B := hW.trans (b.mono hW.size)
    exact ⟨rfl, Lib.hid (range_on HS8.out B HLT.out), Lib.hid B⟩))
  have CR := Lib.hid (fun W (hW : Below V8.heap.size V8 W) => (RW.out W).mono (R' := fun e W' => e = .returned (.int .u64 wt) ∧ Hid (W'.rangeAt w.heap.size 0 cs) ∧ Hid (Below V8.heap.size V8 W')) (by
    rintro e W' ⟨rfl, b⟩
    have B := hW.trans (b.mono hW.size)
    exact ⟨rfl, Lib.hid (range_on HS8.out B HLT.out), Lib.hid B⟩))
  have KN := Lib.hid (fun W (hW : Below V8.heap.size V8 W) => (known17_any W).mono (R' := fun e W' => e = .returned (.bool true) ∧ Hid (W'.rangeAt w.heap.size 0 cs) ∧ Hid (Below V8.heap.size V8 W')) (by
    rintro e W' ⟨rfl, b⟩
    have B := hW.trans (b.mono hW.size)
    exact ⟨rfl, Lib.hid (range_on HS8.out B HLT.out), Lib.hid B⟩))
  clear OG C1 C2 C3 C4 C5 C6 C7 WT RW
  refine wp_region_held_drew (S := fun w' => w'.rangeAt w.heap.size 0 cs) (by kernel_rfl) ?_ (fun hHeld => ?_)
  · exact HS8.out
  refine wpAnyH_take (i := 0) (oi := _) (v := ?_) rfl (by kernel_rfl) (by kernel_rfl) (by kernel_rfl) (fun _ _ _ h => h) (Or.inl ⟨by kernel_rfl, ?_⟩) hHeld ?_
  rotate_left
  · intro w5 hSw
    go_simp
    try with_reducible rfl
  try simp only [Act.put, List.setIfInBounds_toArray, List.set_cons_zero, List.set_cons_succ]
  refine wpAnyH_take (i := 1) (oi := _) (v := ?_) rfl (by kernel_rfl) (by kernel_rfl) (by kernel_rfl) (fun _ _ _ h => h) (Or.inl ⟨by kernel_rfl, ?_⟩) hHeld ?_
  rotate_left
  · intro w5 hSw
    go_simp
    try with_reducible rfl
  try simp only [Act.put, List.setIfInBounds_toArray, List.set_cons_zero, List.set_cons_succ]
  refine wpAnyH_take (i := 2) (oi := _) (v := ?_) rfl (by kernel_rfl) (by kernel_rfl) (by kernel_rfl) (fun _ _ _ h => h) (Or.inl ⟨by kernel_rfl, ?_⟩) hHeld ?_
  rotate_left
  · intro w5 hSw
    go_simp
    try with_reducible rfl
  try simp only [Act.put, List.setIfInBounds_toArray, List.set_cons_zero, List.set_cons_succ]
  refine wpAnyH_take (i := 3) (oi := _) (v := ?_) rfl (by kernel_rfl) (by kernel_rfl) (by kernel_rfl) (fun _ _ _ h => h) (Or.inl ⟨by kernel_rfl, ?_⟩) hHeld ?_
  rotate_left
  · intro w5 hSw
    go_simp
    try with_reducible rfl
  try simp only [Act.put, List.setIfInBounds_toArray, List.set_cons_zero, List.set_cons_succ]
  refine wpAnyH_take (i := 4) (oi := _) (v := ?_) rfl (by kernel_rfl) (by kernel_rfl) (by kernel_rfl) (fun _ _ _ h => h) (Or.inl ⟨by kernel_rfl, ?_⟩) hHeld ?_
  rotate_left
  · intro w5 hSw
    go_simp
    try with_reducible rfl
  try simp only [Act.put, List.setIfInBounds_toArray, List.set_cons_zero, List.set_cons_succ]
  refine wpAnyH_take (i := 5) (oi := _) (v := ?_) rfl (by kernel_rfl) (by kernel_rfl) (by kernel_rfl) (fun _ _ _ h => h) (Or.inl ⟨by kernel_rfl, ?_⟩) hHeld ?_
  rotate_left
  · intro w5 hSw
    go_simp
    try with_reducible rfl
  try simp only [Act.put, List.setIfInBounds_toArray, List.set_cons_zero, List.set_cons_succ]
  refine wpAnyH_take (i := 6) (oi := _) (v := ?_) rfl (by kernel_rfl) (by kernel_rfl) (by kernel_rfl) (fun _ _ _ h => h) (Or.inl ⟨by kernel_rfl, ?_⟩) hHeld ?_
  rotate_left
  · intro w5 hSw
    go_simp
    try with_reducible rfl
  try simp only [Act.put, List.setIfInBounds_toArray, List.set_cons_zero, List.set_cons_succ]
  refine wpAnyH_take (i := 7) (oi := _) (v := ?_) rfl (by kernel_rfl) (by kernel_rfl) (by kernel_rfl) (fun _ _ _ h => h) (Or.inl ⟨by kernel_rfl, ?_⟩) hHeld ?_
  rotate_left
  · intro w5 hSw
    go_simp
    try with_reducible rfl
  try simp only [Act.put, List.setIfInBounds_toArray, List.set_cons_zero, List.set_cons_succ]
  refine wpAnyH_take (i := 8) (oi := _) (v := ?_) rfl (by kernel_rfl) (by kernel_rfl) (by kernel_rfl) (fun _ _ _ h => h) (Or.inl ⟨by kernel_rfl, ?_⟩) hHeld ?_
  rotate_left
  · intro w5 hSw
    go_simp
    try with_reducible rfl
  try simp only [Act.put, List.setIfInBounds_toArray, List.set_cons_zero, List.set_cons_succ]
  refine wpAnyH_take (i := 9) (oi := _) (v := ?_) rfl (by kernel_rfl) (by kernel_rfl) (by kernel_rfl) (fun _ _ _ h => h) (Or.inl ⟨by kernel_rfl, ?_⟩) hHeld ?_
  rotate_left
  · intro w5 hSw
    go_simp
    try with_reducible rfl
  try simp only [Act.put, List.setIfInBounds_toArray, List.set_cons_zero, List.set_cons_succ]
  refine wpAnyH_take (i := 10) (oi := _) (v := ?_) rfl (by kernel_rfl) (by kernel_rfl) (by kernel_rfl) (fun _ _ _ h => h) (Or.inl ⟨by kernel_rfl, ?_⟩) hHeld ?_
  rotate_left
  · intro w5 hSw
    go_simp
    try with_reducible rfl
  try simp only [Act.put, List.setIfInBounds_toArray, List.set_cons_zero, List.set_cons_succ]
  refine wpAnyH_take (i := 11) (oi := _) (v := ?_) rfl (by kernel_rfl) (by kernel_rfl) (by kernel_rfl) (fun _ _ _ h => h) (Or.inl ⟨by kernel_rfl, ?_⟩) hHeld ?_
  rotate_left
  · intro w5 hSw
    go_simp
    try with_reducible rfl
  try simp only [Act.put, List.setIfInBounds_toArray, List.set_cons_zero, List.set_cons_succ]
  refine wpAnyH_take (i := 12) (oi := _) (v := ?_) rfl (by kernel_rfl) (by kernel_rfl) (by kernel_rfl) (fun _ _ _ h => h) (Or.inl ⟨by kernel_rfl, ?_⟩) hHeld ?_
  rotate_left
  · intro w5 hSw
    go_simp
    try with_reducible rfl
  try simp only [Act.put, List.setIfInBounds_toArray, List.set_cons_zero, List.set_cons_succ]
  refine wpAnyH_take (i := 13) (oi := _) (v := ?_) rfl (by kernel_rfl) (by kernel_rfl) (by kernel_rfl) (fun _ _ _ h => h) (Or.inl ⟨by kernel_rfl, ?_⟩) hHeld ?_
  rotate_left
  · intro w5 hSw
    go_simp
    try with_reducible rfl
  try simp only [Act.put, List.setIfInBounds_toArray, List.set_cons_zero, List.set_cons_succ]
  refine wpAnyH_take (i := 14) (oi := _) (v := ?_) rfl (by kernel_rfl) (by kernel_rfl) (by kernel_rfl) (fun _ _ _ h => h) (Or.inl ⟨by kernel_rfl, ?_⟩) hHeld ?_
  rotate_left
  · intro w5 hSw
    go_simp
    try with_reducible rfl
  try simp only [Act.put, List.setIfInBounds_toArray, List.set_cons_zero, List.set_cons_succ]
  refine wpAnyH_take (i := 15) (oi := _) (v := ?_) rfl (by kernel_rfl) (by kernel_rfl) (by kernel_rfl) (fun _ _ _ h => h) (Or.inl ⟨by kernel_rfl, ?_⟩) hHeld ?_
  rotate_left
  · intro w5 hSw
    go_simp
    try with_reducible rfl
  try simp only [Act.put, List.setIfInBounds_toArray, List.set_cons_zero, List.set_cons_succ]
  refine wpAnyH_ready (rs := [16]) (by kernel_rfl) (by decide) (AllReadyH.cons (o := _) rfl (fun K hK => ?_) AllReadyH.nil)
  go_simp
  refine (CS.out _ D1.out).mono ?_
  rintro e V9 ⟨rfl, HS9, HB9⟩
  dsimp only
  refine hK.out _ _ HS9.out (fun hHeld => ?_)
  clear hK K
  try simp only [Act.put, List.setIfInBounds_toArray, List.set_cons_zero, List.set_cons_succ]
  refine wpAnyH_take (i := 17) (oi := _) (v := ?_) rfl (by kernel_rfl) (by kernel_rfl) (by kernel_rfl) (fun _ _ _ h => h) (Or.inl ⟨by kernel_rfl, ?_⟩) hHeld ?_
  rotate_left
  · intro w5 hSw
    go_simp
    try with_reducible rfl
  try simp only [Act.put, List.setIfInBounds_toArray, List.set_cons_zero, List.set_cons_succ]
  refine wpAnyH_take (i := 18) (oi := _) (v := ?_) rfl (by kernel_rfl) (by kernel_rfl) (by kernel_rfl) (fun _ _ _ h => h) (Or.inl ⟨by kernel_rfl, ?_⟩) hHeld ?_
  rotate_left
  · intro w5 hSw
    go_simp
    try with_reducible rfl
  try simp only [Act.put, List.setIfInBounds_toArray, List.set_cons_zero, List.set_cons_succ]
  refine' wpAnyH_take (i := 19) (oi := _) (v := _) rfl (by kernel_rfl) (by kernel_rfl) (by kernel_rfl) (fun _ _ _ h => h) (yieldsIf_load_mid (by kernel_rfl) _ _ rfl _ _ rfl cs _ (fun _ h => h) Try.underlying26 rfl IL.out) hHeld ?_
  try simp only [Act.put, List.setIfInBounds_toArray, List.set_cons_zero, List.set_cons_succ]
  refine wpAnyH_take (i := 20) (oi := _) (v := ?_) rfl (by kernel_rfl) (by kernel_rfl) (by kernel_rfl) (fun _ _ _ h => h) (Or.inl ⟨by kernel_rfl, ?_⟩) hHeld ?_
  rotate_left
  · intro w5 hSw
    go_simp
    try with_reducible rfl
  try simp only [Act.put, List.setIfInBounds_toArray, List.set_cons_zero, List.set_cons_succ]
  refine' wpAnyH_take (i := 22) (oi := _) (v := _) rfl (by kernel_rfl) (by kernel_rfl) (by kernel_rfl) (fun _ _ _ h => h) (yieldsIf_load_mid (by kernel_rfl) _ _ rfl _ _ rfl cs _ (fun _ h => h) Try.underlying26 rfl IL.out) hHeld ?_
  try simp only [Act.put, List.setIfInBounds_toArray, List.set_cons_zero, List.set_cons_succ]
  refine wpAnyH_take (i := 23) (oi := _) (v := ?_) rfl (by kernel_rfl) (by kernel_rfl) (by kernel_rfl) (fun _ _ _ h => h) (Or.inl ⟨by kernel_rfl, ?_⟩) hHeld ?_
  rotate_left
  · intro w5 hSw
    go_simp
    try with_reducible rfl
  try simp only [Act.put, List.setIfInBounds_toArray, List.set_cons_zero, List.set_cons_succ]
  refine wpAnyH_ready (rs := [21]) (by kernel_rfl) (by decide) (AllReadyH.cons (o := _) rfl (fun K hK => ?_) AllReadyH.nil)
  go_simp
  refine (CW.out _ HB9.out).mono ?_
  rintro e V10 ⟨rfl, HS10, HB10⟩
  dsimp only
  refine hK.out _ _ HS10.out (fun hHeld => ?_)
  clear hK K
  try simp only [Act.put, List.setIfInBounds_toArray, List.set_cons_zero, List.set_cons_succ]
  refine wpAnyH_ready (rs := [24]) (by kernel_rfl) (by decide) (AllReadyH.cons (o := _) rfl (fun K hK => ?_) AllReadyH.nil)
  go_simp
  refine (CR.out _ HB10.out).mono ?_
  rintro e V11 ⟨rfl, HS11, HB11⟩
  dsimp only
  refine hK.out _ _ HS11.out (fun hHeld => ?_)
  clear hK K
  try simp only [Act.put, List.setIfInBounds_toArray, List.set_cons_zero, List.set_cons_succ]
  refine wpAnyH_take (i := 25) (oi := _) (v := ?_) rfl (by kernel_rfl) (by kernel_rfl) (by kernel_rfl) (fun _ _ _ h => h) (Or.inl ⟨by kernel_rfl, ?_⟩) hHeld ?_
  rotate_left
  · intro w5 hSw
    go_simp
    try with_reducible rfl
  try simp only [Act.put, List.setIfInBounds_toArray, List.set_cons_zero, List.set_cons_succ]
  refine wpAnyH_take (i := 26) (oi := _) (v := ?_) rfl (by kernel_rfl) (by kernel_rfl) (by kernel_rfl) (fun _ _ _ h => h) (Or.inl ⟨by kernel_rfl, ?_⟩) hHeld ?_
  rotate_left
  · intro w5 hSw
    go_simp
    try with_reducible rfl
  try simp only [Act.put, List.setIfInBounds_toArray, List.set_cons_zero, List.set_cons_succ]
  refine wpAnyH_take (i := 27) (oi := _) (v := ?_) rfl (by kernel_rfl) (by kernel_rfl) (by kernel_rfl) (fun _ _ _ h => h) (Or.inl ⟨by kernel_rfl, ?_⟩) hHeld ?_
  rotate_left
  · intro w5 hSw
    go_simp
    try with_reducible rfl
  try simp only [Act.put, List.setIfInBounds_toArray, List.set_cons_zero, List.set_cons_succ]
  refine wpAnyH_ready (rs := [28]) (by kernel_rfl) (by decide) (AllReadyH.cons (o := _) rfl (fun K hK => ?_) AllReadyH.nil)
  go_simp
  refine (KN.out _ HB11.out).mono ?_
  rintro e V12 ⟨rfl, HS12, HB12⟩
  dsimp only
  refine hK.out _ _ HS12.out (fun hHeld => ?_)
  clear hK K
  try simp only [Act.put, List.setIfInBounds_toArray, List.set_cons_zero, List.set_cons_succ]
  refine wpAnyH_take (i := 29) (oi := _) (v := ?_) rfl (by kernel_rfl) (by kernel_rfl) (by kernel_rfl) (fun _ _ _ h => h) (Or.inl ⟨by kernel_rfl, ?_⟩) hHeld ?_
  rotate_left
  · intro w5 hSw
    go_simp
    try with_reducible rfl
  try simp only [Act.put, List.setIfInBounds_toArray, List.set_cons_zero, List.set_cons_succ]
  refine wpAnyH_take (i := 30) (oi := _) (v := ?_) rfl (by kernel_rfl) (by kernel_rfl) (by kernel_rfl) (fun _ _ _ h => h) (Or.inl ⟨by kernel_rfl, ?_⟩) hHeld ?_
  rotate_left
  · intro w5 hSw
    go_simp
    try with_reducible rfl
  try simp only [Act.put, List.setIfInBounds_toArray, List.set_cons_zero, List.set_cons_succ]
  refine wpAnyH_done (by kernel_rfl) ?_ _
  try simp only [List.getElem_toArray, List.getElem_cons_succ, List.getElem_cons_zero, List.set_cons_zero, List.set_cons_succ]
  go_wp2
  go_ret
  exact ⟨rfl, HBW.out.trans (HB12.out.mono HBW.out.size)⟩
end Go.Proofs.Ytciijnhagdfpiaa
