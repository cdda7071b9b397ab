/-
  pap's peer and the reference's: NewPeer, Take (written by gen_papeer.py).
-/
import Derived.Test.YtglboagjmbjehaaPaPackM
import Derived.BigQuiet
namespace Go.Proofs.Ytglboagjmbjehaa
open Go.RowKit Go.Shelf
set_option maxRecDepth 100000
set_option maxHeartbeats 4000000
set_option linter.unusedSimpArgs false
set_option linter.unusedVariables false

/-- what a peer holds -/
structure Pr where
  name : ByteArray
  word : ByteArray
  tries : Int
  sent : Int
  last : Int
  state : Int
  msg : ByteArray
def Pr.cells (p : Pr) : List Value := [.string p.name, .string p.word, .int .i64 p.tries, .int .i64 p.sent, .int .i64 p.last, .int .i64 p.state, .string p.msg]
/-- what it is behind an answer, and what it says of it -/
def Pr.take (p : Pr) (code id : Int) (l : List UInt8) : Pr × Bool × Int :=
  if raE code id l ≠ 0 then (p, false, raE code id l)
  else if p.state ≠ 0 ∨ p.sent = 0 then (p, false, 9)
  else if id ≠ p.last then (p, false, 1)
  else ({ p with state := if raO code id l then 1 else 2, msg := raS code id l }, raO code id l, 0)
def nprE (name word : ByteArray) (tries : Int) : Int := if nameB name = false then 60 else if nameB word = false then 52 else if tries < 1 ∨ 255 < tries then 1 else 0
def PtR (W : World) (g t : Nat) (q : Pr × Bool × Int) (e : Ending) (W' : World) : Prop :=
  W.grownBy W' (some g) ∧ Blk W' g t q.1.cells ∧ e = .returned (.tuple #[.bool q.2.1, .int .i64 q.2.2])
def NpR (W : World) (t : Nat) (er : Int) (p : Pr) (e : Ending) (W' : World) : Prop :=
  Below W.heap.size W W' ∧ ((er ≠ 0 ∧ e = .returned (.tuple #[.pointer none, .int .i64 er])) ∨ (er = 0 ∧ ∃ g, W.heap.size ≤ g ∧ e = .returned (.tuple #[.pointer (some ⟨g, 0, none⟩), .int .i64 0]) ∧ Blk W' g t p.cells))
theorem ptR_same {W W' : World} {g t : Nat} {p : Pr} {er : Int} (h : Blk W g t p.cells) (hB : Below W.heap.size W W') : PtR W g t (p, false, er) (.returned (.tuple #[.bool false, .int .i64 er])) W' :=
  ⟨below_only hB, (hB.block _ (Blk.lt h)).trans h, rfl⟩
theorem pnewPeer_any (name word : ByteArray) (tries : Int) (w : World) (hn : name.size ≤ maxLen) (hw : word.size ≤ maxLen) :
    Calls Try.prog 19 #[.string name, .string word, .int .i64 tries] w (NpR w 81 (nprE name word tries) ⟨name, word, tries, 0, 0, 0, ⟨#[]⟩⟩) := by
  have N1 := Lib.hid (fun W => name_any name W hn)
  have N2 := Lib.hid (fun W => name_any word W hw)
  cases h1 : nameB name
  · have he : nprE name word tries = 60 := by unfold nprE; rw [h1]; rfl
    rw [h1] at N1
    have F : Hid (NpR w 81 (nprE name word tries) ⟨name, word, tries, 0, 0, 0, ⟨#[]⟩⟩ (.returned (.tuple #[.pointer none, .int .i64 60])) w) := ⟨Below.refl _ _, .inl ⟨by rw [he]; omega, by rw [he]⟩⟩
    clear he h1
    go_enter Try.func19, Try.ntmps19
    go_wp2_with (first
      | (go_at_call 30; ((with_reducible refine (N1.out _).mono ?_); rintro e w' ⟨rfl, rfl⟩; clear N1))
      | (go_at_call 30; ((with_reducible refine (N2.out _).mono ?_); rintro e w' ⟨rfl, rfl⟩)))
    exact bodyPost_ret (v := .tuple #[.pointer none, .int .i64 60]) (by simp [results, Try.results19, go_sem]) rfl F.out
  · rw [h1] at N1
    cases h2 : nameB word
    · have he : nprE name word tries = 52 := by unfold nprE; rw [h1, h2]; rfl
      rw [h2] at N2
      have F : Hid (NpR w 81 (nprE name word tries) ⟨name, word, tries, 0, 0, 0, ⟨#[]⟩⟩ (.returned (.tuple #[.pointer none, .int .i64 52])) w) := ⟨Below.refl _ _, .inl ⟨by rw [he]; omega, by rw [he]⟩⟩
      clear h2
      clear he h1
      go_enter Try.func19, Try.ntmps19
      go_wp2_with (first
      | (go_at_call 30; ((with_reducible refine (N1.out _).mono ?_); rintro e w' ⟨rfl, rfl⟩; clear N1))
      | (go_at_call 30; ((with_reducible refine (N2.out _).mono ?_); rintro e w' ⟨rfl, rfl⟩)))
      exact bodyPost_ret (v := .tuple #[.pointer none, .int .i64 52]) (by simp [results, Try.results19, go_sem]) rfl F.out
    · rw [h2] at N2
      by_cases h3 : tries < 1 ∨ 255 < tries
      · have he : nprE name word tries = 1 := by unfold nprE; rw [h1, h2, if_neg (by simp), if_neg (by simp), if_pos h3]
        by_cases h4 : tries < 1
        · clear h3
          have F : Hid (NpR w 81 (nprE name word tries) ⟨name, word, tries, 0, 0, 0, ⟨#[]⟩⟩ (.returned (.tuple #[.pointer none, .int .i64 1])) w) := ⟨Below.refl _ _, .inl ⟨by rw [he]; omega, by rw [he]⟩⟩
          clear h2
          clear he h1
          go_enter Try.func19, Try.ntmps19
          go_wp2_with (first
      | (go_at_call 30; ((with_reducible refine (N1.out _).mono ?_); rintro e w' ⟨rfl, rfl⟩; clear N1))
      | (go_at_call 30; ((with_reducible refine (N2.out _).mono ?_); rintro e w' ⟨rfl, rfl⟩)))
          exact bodyPost_ret (v := .tuple #[.pointer none, .int .i64 1]) (by simp [results, Try.results19, go_sem]) rfl F.out
        · have h5 := h3.resolve_left h4
          clear h3
          have F : Hid (NpR w 81 (nprE name word tries) ⟨name, word, tries, 0, 0, 0, ⟨#[]⟩⟩ (.returned (.tuple #[.pointer none, .int .i64 1])) w) := ⟨Below.refl _ _, .inl ⟨by rw [he]; omega, by rw [he]⟩⟩
          clear h2
          clear he h1
          go_enter Try.func19, Try.ntmps19
          go_wp2_with (first
      | (go_at_call 30; ((with_reducible refine (N1.out _).mono ?_); rintro e w' ⟨rfl, rfl⟩; clear N1))
      | (go_at_call 30; ((with_reducible refine (N2.out _).mono ?_); rintro e w' ⟨rfl, rfl⟩)))
          exact bodyPost_ret (v := .tuple #[.pointer none, .int .i64 1]) (by simp [results, Try.results19, go_sem]) rfl F.out
      · have he : nprE name word tries = 0 := by unfold nprE; rw [h1, h2, if_neg (by simp), if_neg (by simp), if_neg h3]
        have h4 : ¬ tries < 1 := fun h => h3 (.inl h)
        have h5 : ¬ 255 < tries := fun h => h3 (.inr h)
        have F : Hid (NpR w 81 (nprE name word tries) ⟨name, word, tries, 0, 0, 0, ⟨#[]⟩⟩ (.returned (.tuple #[.pointer (some ⟨w.heap.size, 0, none⟩), .int .i64 0])) (w.alloc (.cells #[.string name, .string word, .int .i64 tries, .int .i64 0, .int .i64 0, .int .i64 0, .string ⟨#[]⟩] 81))) := ⟨(Below.refl _ _).alloc (Nat.le_refl _) _, .inr ⟨he, w.heap.size, Nat.le_refl _, rfl, heap_alloc_new w _⟩⟩
        clear he h1 h2 h3
        go_enter Try.func19, Try.ntmps19
        go_wp2_with (first
      | (go_at_call 30; ((with_reducible refine (N1.out _).mono ?_); rintro e w' ⟨rfl, rfl⟩; clear N1))
      | (go_at_call 30; ((with_reducible refine (N2.out _).mono ?_); rintro e w' ⟨rfl, rfl⟩)))
        exact bodyPost_ret (v := .tuple #[.pointer (some ⟨w.heap.size, 0, none⟩), .int .i64 0]) (by simp [results, Try.results19, go_sem]) rfl F.out
theorem ppeerTake_any (g : Nat) (p : Pr) (code id : Int) (D : Option Addr) (k d B : Nat) (l : List UInt8) (w : World) (h : Blk w g 81 p.cells) (hr : Rd w B D k l) (hB : B ≤ w.heap.size) (hkd : k ≤ d) (hnil : D = none → d = 0) (hm : k ≤ maxLen) :
    Calls Try.prog 23 #[.pointer (some ⟨g, 0, none⟩), .agg #[.int .i64 code, .int .i64 id, .slice D k d]] w (PtR w g 81 (p.take code id l)) := by
  have hg := Blk.lt h
  obtain ⟨V, hV⟩ : ∃ V, w.alloc (.cells #[.int .i64 code, .int .i64 id, .slice D k d] 38) = V := ⟨_, rfl⟩
  have bV : Below w.heap.size w V := by rw [← hV]; exact (Below.refl _ _).alloc (Nat.le_refl _) _
  have h0 : Blk V w.heap.size 38 [.int .i64 code, .int .i64 id, .slice D k d] := by rw [← hV]; exact heap_alloc_new w _
  have x0 := h0.cell 0
  have x1 := h0.cell 1
  have x2 := h0.cell 2
  have RA := readAnswer_any code id D k d B l V (hr.below (bV.mono hB)) (Nat.le_trans hB bV.size) hkd hnil
  have HV := Lib.hid hV
  have ST : ∀ w1, Below V.heap.size V w1 → Blk w1 w.heap.size 38 [.int .i64 code, .int .i64 id, .slice D k d] ∧ Blk w1 g 81 p.cells := fun w1 b1 => ⟨(b1.block _ (Blk.lt h0)).trans h0, ((bV.trans (b1.mono bV.size)).block _ hg).trans h⟩
  obtain ⟨q, hq⟩ : ∃ q, p.take code id l = q := ⟨_, rfl⟩
  rw [hq]
  unfold Pr.take at hq
  by_cases h1 : raE code id l = 0
  · rw [if_neg (by rw [h1]; simp)] at hq
    by_cases h2 : p.state ≠ 0 ∨ p.sent = 0
    · rw [if_pos h2] at hq
      obtain ⟨o, ho⟩ : ∃ o, raO code id l = o := ⟨_, rfl⟩
      obtain ⟨s, hs⟩ : ∃ s, raS code id l = s := ⟨_, rfl⟩
      have C : Hid (Calls Try.prog 41 #[.agg #[.int .i64 code, .int .i64 id, .slice D k d]] V fun e w1 => e = .returned (.tuple #[.bool o, .string s, .int .i64 0]) ∧ Blk w1 w.heap.size 38 [.int .i64 code, .int .i64 id, .slice D k d] ∧ Blk w1 g 81 [.string p.name, .string p.word, .int .i64 p.tries, .int .i64 p.sent, .int .i64 p.last, .int .i64 p.state, .string p.msg] ∧ PtR w g 81 q (.returned (.tuple #[.bool false, .int .i64 9])) w1) := by
        refine RA.mono ?_
        rintro e w1 ⟨rfl, b1⟩
        have hB := bV.trans (b1.mono bV.size)
        obtain ⟨s0, s1⟩ := ST w1 b1
        exact ⟨by rw [ho, hs, h1], s0, s1, by rw [← hq]; exact ptR_same h hB⟩
      clear RA ST h hr h0 bV hV hq ho hs h1
      by_cases h3 : p.state = 0
      · have h4 : p.sent = 0 := h2.resolve_left (fun hn => hn h3)
        clear h2
        go_enter Try.func23, Try.ntmps23
        go_wp2_with (first
          | (rw [HV.out])
          | (go_at_call 41; ((with_reducible refine C.out.mono ?_); rintro e w1 ⟨rfl, b0, b1, hf⟩; have y0 := b0.cell 0; have y1 := b0.cell 1; have y3 := b1.cell 3; have y4 := b1.cell 4; have y5 := b1.cell 5; have y6 := b1.cell 6; have f5 := b1.frozen 5; have f6 := b1.frozen 6; have lg := Blk.lt b1; have F := Lib.hid hf; clear hf b0 b1)))
        exact bodyPost_ret (v := .tuple #[.bool false, .int .i64 9]) (by simp [results, Try.results23, go_sem]) rfl F.out
      · have h4 : (p.state != 0) = true := by simpa using h3
        clear h2 h3
        go_enter Try.func23, Try.ntmps23
        go_wp2_with (first
          | (rw [HV.out])
          | (go_at_call 41; ((with_reducible refine C.out.mono ?_); rintro e w1 ⟨rfl, b0, b1, hf⟩; have y0 := b0.cell 0; have y1 := b0.cell 1; have y3 := b1.cell 3; have y4 := b1.cell 4; have y5 := b1.cell 5; have y6 := b1.cell 6; have f5 := b1.frozen 5; have f6 := b1.frozen 6; have lg := Blk.lt b1; have F := Lib.hid hf; clear hf b0 b1)))
        exact bodyPost_ret (v := .tuple #[.bool false, .int .i64 9]) (by simp [results, Try.results23, go_sem]) rfl F.out
    · rw [if_neg h2] at hq
      have h3 : p.state = 0 := by
        by_cases hx : p.state = 0
        · exact hx
        · exact absurd (.inl hx) h2
      have h4 : ¬ p.sent = 0 := fun hx => h2 (.inr hx)
      have h5 : (p.sent == 0) = false := by simpa using h4
      by_cases hid : id = p.last
      · rw [if_neg (by rw [hid]; simp)] at hq
        have h6 : (id != p.last) = false := by simpa using hid
        obtain ⟨s, hs⟩ : ∃ s, raS code id l = s := ⟨_, rfl⟩
        have C : Hid (Calls Try.prog 41 #[.agg #[.int .i64 code, .int .i64 id, .slice D k d]] V fun e w1 => e = .returned (.tuple #[.bool (raO code id l), .string s, .int .i64 0]) ∧ Blk w1 w.heap.size 38 [.int .i64 code, .int .i64 id, .slice D k d] ∧ Blk w1 g 81 [.string p.name, .string p.word, .int .i64 p.tries, .int .i64 p.sent, .int .i64 p.last, .int .i64 p.state, .string p.msg] ∧ ∀ u W', u = (if raO code id l then 1 else 2) → w1.drew.grownBy W' (some g) → Blk W' g 81 [.string p.name, .string p.word, .int .i64 p.tries, .int .i64 p.sent, .int .i64 p.last, .int .i64 u, .string s] → PtR w g 81 q (.returned (.tuple #[.bool (raO code id l), .int .i64 0])) W') := by
          refine RA.mono ?_
          rintro e w1 ⟨rfl, b1⟩
          have hB := bV.trans (b1.mono bV.size)
          obtain ⟨s0, s1⟩ := ST w1 b1
          refine ⟨by rw [hs, h1], s0, s1, fun u W' hu gW bW => ?_⟩
          rw [← hq]
          refine ⟨gtrans' (below_only (below_drewS hB 1)) gW, ?_, rfl⟩
          rw [hu] at bW
          rw [hs]
          exact bW
        obtain ⟨o, ho⟩ : ∃ o, raO code id l = o := ⟨_, rfl⟩
        rw [ho] at C
        clear RA ST h hr h0 bV hV hq hs h1 h2 hid h4 ho
        cases o
        · go_enter Try.func23, Try.ntmps23
          go_wp2_with (first
            | (rw [HV.out])
            | (go_at_call 41; ((with_reducible refine C.out.mono ?_); rintro e w1 ⟨rfl, b0, b1, hf⟩; have y0 := b0.cell 0; have y1 := b0.cell 1; have y3 := b1.cell 3; have y4 := b1.cell 4; have y5 := b1.cell 5; have y6 := b1.cell 6; have f5 := b1.frozen 5; have f6 := b1.frozen 6; have lg := Blk.lt b1; have F := Lib.hid hf; have B1 := Lib.hid b1; clear hf b0 b1)))
          go_region
          all_goals
            go_wp2
            first
              | exact bodyPost_ret (v := .tuple #[.bool false, .int .i64 0]) (by simp [results, Try.results23, go_sem]) rfl (F.out 2 _ rfl (gtrans' (gset' _ _ _ _) (gset' _ _ _ _)) (Blk.set_ (Blk.set_ B1.out 5 (.int .i64 2)) 6 (.string s)))
        · go_enter Try.func23, Try.ntmps23
          go_wp2_with (first
            | (rw [HV.out])
            | (go_at_call 41; ((with_reducible refine C.out.mono ?_); rintro e w1 ⟨rfl, b0, b1, hf⟩; have y0 := b0.cell 0; have y1 := b0.cell 1; have y3 := b1.cell 3; have y4 := b1.cell 4; have y5 := b1.cell 5; have y6 := b1.cell 6; have f5 := b1.frozen 5; have f6 := b1.frozen 6; have lg := Blk.lt b1; have F := Lib.hid hf; have B1 := Lib.hid b1; clear hf b0 b1)))
          go_region
          all_goals
            go_wp2
            first
              | exact bodyPost_ret (v := .tuple #[.bool true, .int .i64 0]) (by simp [results, Try.results23, go_sem]) rfl (F.out 1 _ rfl (gtrans' (gset' _ _ _ _) (gset' _ _ _ _)) (Blk.set_ (Blk.set_ B1.out 5 (.int .i64 1)) 6 (.string s)))
              | exact bodyPost_ret (v := .tuple #[.bool true, .int .i64 0]) (by simp [results, Try.results23, go_sem]) rfl (F.out 1 _ rfl (gtrans' (gset' _ _ _ _) (gset' _ _ _ _)) (Blk.set_ (Blk.set_ B1.out 6 (.string s)) 5 (.int .i64 1)))
              | exact bodyPost_ret (v := .tuple #[.bool true, .int .i64 0]) (by simp [results, Try.results23, go_sem]) rfl (F.out 1 _ rfl (gtrans' (gtrans' (gset' _ _ _ _) (gset' _ _ _ _)) (gset' _ _ _ _)) (Blk.set_ (Blk.set_ (Blk.set_ B1.out 5 (.int .i64 2)) 6 (.string s)) 5 (.int .i64 1)))
              | exact bodyPost_ret (v := .tuple #[.bool true, .int .i64 0]) (by simp [results, Try.results23, go_sem]) rfl (F.out 1 _ rfl (gtrans' (gtrans' (gset' _ _ _ _) (gset' _ _ _ _)) (gset' _ _ _ _)) (Blk.set_ (Blk.set_ (Blk.set_ B1.out 5 (.int .i64 2)) 5 (.int .i64 1)) 6 (.string s)))
      · rw [if_pos hid] at hq
        have h6 : (id != p.last) = true := by simpa using hid
        obtain ⟨o, ho⟩ : ∃ o, raO code id l = o := ⟨_, rfl⟩
        obtain ⟨s, hs⟩ : ∃ s, raS code id l = s := ⟨_, rfl⟩
        have C : Hid (Calls Try.prog 41 #[.agg #[.int .i64 code, .int .i64 id, .slice D k d]] V fun e w1 => e = .returned (.tuple #[.bool o, .string s, .int .i64 0]) ∧ Blk w1 w.heap.size 38 [.int .i64 code, .int .i64 id, .slice D k d] ∧ Blk w1 g 81 [.string p.name, .string p.word, .int .i64 p.tries, .int .i64 p.sent, .int .i64 p.last, .int .i64 p.state, .string p.msg] ∧ ∀ i, PtR w g 81 q (.returned (.tuple #[.bool false, .int .i64 1])) (w1.drewN i)) := by
          refine RA.mono ?_
          rintro e w1 ⟨rfl, b1⟩
          have hB := bV.trans (b1.mono bV.size)
          obtain ⟨s0, s1⟩ := ST w1 b1
          exact ⟨by rw [ho, hs, h1], s0, s1, fun i => by rw [← hq]; exact ptR_same h (below_drewN hB i)⟩
        clear RA ST h hr h0 bV hV hq ho hs h1 h2 hid h4
        go_enter Try.func23, Try.ntmps23
        go_wp2_with (first
          | (rw [HV.out])
          | (go_at_call 41; ((with_reducible refine C.out.mono ?_); rintro e w1 ⟨rfl, b0, b1, hf⟩; have y0 := b0.cell 0; have y1 := b0.cell 1; have y3 := b1.cell 3; have y4 := b1.cell 4; have y5 := b1.cell 5; have y6 := b1.cell 6; have f5 := b1.frozen 5; have f6 := b1.frozen 6; have lg := Blk.lt b1; have F := Lib.hid hf; clear hf b0 b1)))
        go_region
        all_goals
          go_wp2
          exact bodyPost_ret (v := .tuple #[.bool false, .int .i64 1]) (by simp [results, Try.results23, go_sem]) rfl (F.out 1)
  · rw [if_pos h1] at hq
    obtain ⟨o, ho⟩ : ∃ o, raO code id l = o := ⟨_, rfl⟩
    obtain ⟨s, hs⟩ : ∃ s, raS code id l = s := ⟨_, rfl⟩
    obtain ⟨er, her⟩ : ∃ er, raE code id l = er := ⟨_, rfl⟩
    have C : Hid (Calls Try.prog 41 #[.agg #[.int .i64 code, .int .i64 id, .slice D k d]] V fun e w1 => e = .returned (.tuple #[.bool o, .string s, .int .i64 er]) ∧ Blk w1 w.heap.size 38 [.int .i64 code, .int .i64 id, .slice D k d] ∧ Blk w1 g 81 [.string p.name, .string p.word, .int .i64 p.tries, .int .i64 p.sent, .int .i64 p.last, .int .i64 p.state, .string p.msg] ∧ PtR w g 81 q (.returned (.tuple #[.bool false, .int .i64 er])) w1) := by
      refine RA.mono ?_
      rintro e w1 ⟨rfl, b1⟩
      have hB := bV.trans (b1.mono bV.size)
      obtain ⟨s0, s1⟩ := ST w1 b1
      exact ⟨by rw [ho, hs, her], s0, s1, by rw [← hq, her]; exact ptR_same h hB⟩
    rw [her] at h1
    have e1 : (er != 0) = true := by simpa using h1
    clear RA ST h hr h0 bV hV hq ho hs her h1
    go_enter Try.func23, Try.ntmps23
    go_wp2_with (first
      | (rw [HV.out])
      | (go_at_call 41; ((with_reducible refine C.out.mono ?_); rintro e w1 ⟨rfl, b0, b1, hf⟩; have y0 := b0.cell 0; have y1 := b0.cell 1; have y3 := b1.cell 3; have y4 := b1.cell 4; have y5 := b1.cell 5; have y6 := b1.cell 6; have f5 := b1.frozen 5; have f6 := b1.frozen 6; have lg := Blk.lt b1; have F := Lib.hid hf; clear hf b0 b1)))
    exact bodyPost_ret (v := .tuple #[.bool false, .int .i64 er]) (by simp [results, Try.results23, go_sem]) rfl F.out
theorem rnewPeer_any (name word : ByteArray) (tries : Int) (w : World) (hn : name.size ≤ maxLen) (hw : word.size ≤ maxLen) :
    Calls Try.prog 20 #[.string name, .string word, .int .i64 tries] w (NpR w 60 (nprE name word tries) ⟨name, word, tries, 0, 0, 0, ⟨#[]⟩⟩) := by
  have N1 := Lib.hid (fun W => rname_any name W hn)
  have N2 := Lib.hid (fun W => rname_any word W hw)
  cases h1 : nameB name
  · have he : nprE name word tries = 60 := by unfold nprE; rw [h1]; rfl
    rw [h1] at N1
    have F : Hid (NpR w 60 (nprE name word tries) ⟨name, word, tries, 0, 0, 0, ⟨#[]⟩⟩ (.returned (.tuple #[.pointer none, .int .i64 60])) w) := ⟨Below.refl _ _, .inl ⟨by rw [he]; omega, by rw [he]⟩⟩
    clear he h1
    go_enter Try.func20, Try.ntmps20
    go_wp2_with (first
      | (go_at_call 32; ((with_reducible refine (N1.out _).mono ?_); rintro e w' ⟨rfl, rfl⟩; clear N1))
      | (go_at_call 32; ((with_reducible refine (N2.out _).mono ?_); rintro e w' ⟨rfl, rfl⟩)))
    exact bodyPost_ret (v := .tuple #[.pointer none, .int .i64 60]) (by simp [results, Try.results20, go_sem]) rfl F.out
  · rw [h1] at N1
    cases h2 : nameB word
    · have he : nprE name word tries = 52 := by unfold nprE; rw [h1, h2]; rfl
      rw [h2] at N2
      have F : Hid (NpR w 60 (nprE name word tries) ⟨name, word, tries, 0, 0, 0, ⟨#[]⟩⟩ (.returned (.tuple #[.pointer none, .int .i64 52])) w) := ⟨Below.refl _ _, .inl ⟨by rw [he]; omega, by rw [he]⟩⟩
      clear h2
      clear he h1
      go_enter Try.func20, Try.ntmps20
      go_wp2_with (first
      | (go_at_call 32; ((with_reducible refine (N1.out _).mono ?_); rintro e w' ⟨rfl, rfl⟩; clear N1))
      | (go_at_call 32; ((with_reducible refine (N2.out _).mono ?_); rintro e w' ⟨rfl, rfl⟩)))
      exact bodyPost_ret (v := .tuple #[.pointer none, .int .i64 52]) (by simp [results, Try.results20, go_sem]) rfl F.out
    · rw [h2] at N2
      by_cases h3 : tries < 1 ∨ 255 < tries
      · have he : nprE name word tries = 1 := by unfold nprE; rw [h1, h2, if_neg (by simp), if_neg (by simp), if_pos h3]
        by_cases h4 : tries < 1
        · clear h3
          have F : Hid (NpR w 60 (nprE name word tries) ⟨name, word, tries, 0, 0, 0, ⟨#[]⟩⟩ (.returned (.tuple #[.pointer none, .int .i64 1])) w) := ⟨Below.refl _ _, .inl ⟨by rw [he]; omega, by rw [he]⟩⟩
          clear h2
          clear he h1
          go_enter Try.func20, Try.ntmps20
          go_wp2_with (first
      | (go_at_call 32; ((with_reducible refine (N1.out _).mono ?_); rintro e w' ⟨rfl, rfl⟩; clear N1))
      | (go_at_call 32; ((with_reducible refine (N2.out _).mono ?_); rintro e w' ⟨rfl, rfl⟩)))
          exact bodyPost_ret (v := .tuple #[.pointer none, .int .i64 1]) (by simp [results, Try.results20, go_sem]) rfl F.out
        · have h5 := h3.resolve_left h4
          clear h3
          have F : Hid (NpR w 60 (nprE name word tries) ⟨name, word, tries, 0, 0, 0, ⟨#[]⟩⟩ (.returned (.tuple #[.pointer none, .int .i64 1])) w) := ⟨Below.refl _ _, .inl ⟨by rw [he]; omega, by rw [he]⟩⟩
          clear h2
          clear he h1
          go_enter Try.func20, Try.ntmps20
          go_wp2_with (first
      | (go_at_call 32; ((with_reducible refine (N1.out _).mono ?_); rintro e w' ⟨rfl, rfl⟩; clear N1))
      | (go_at_call 32; ((with_reducible refine (N2.out _).mono ?_); rintro e w' ⟨rfl, rfl⟩)))
          exact bodyPost_ret (v := .tuple #[.pointer none, .int .i64 1]) (by simp [results, Try.results20, go_sem]) rfl F.out
      · have he : nprE name word tries = 0 := by unfold nprE; rw [h1, h2, if_neg (by simp), if_neg (by simp), if_neg h3]
        have h4 : ¬ tries < 1 := fun h => h3 (.inl h)
        have h5 : ¬ 255 < tries := fun h => h3 (.inr h)
        have F : Hid (NpR w 60 (nprE name word tries) ⟨name, word, tries, 0, 0, 0, ⟨#[]⟩⟩ (.returned (.tuple #[.pointer (some ⟨w.heap.size, 0, none⟩), .int .i64 0])) (w.alloc (.cells #[.string name, .string word, .int .i64 tries, .int .i64 0, .int .i64 0, .int .i64 0, .string ⟨#[]⟩] 60))) := ⟨(Below.refl _ _).alloc (Nat.le_refl _) _, .inr ⟨he, w.heap.size, Nat.le_refl _, rfl, heap_alloc_new w _⟩⟩
        clear he h1 h2 h3
        go_enter Try.func20, Try.ntmps20
        go_wp2_with (first
      | (go_at_call 32; ((with_reducible refine (N1.out _).mono ?_); rintro e w' ⟨rfl, rfl⟩; clear N1))
      | (go_at_call 32; ((with_reducible refine (N2.out _).mono ?_); rintro e w' ⟨rfl, rfl⟩)))
        exact bodyPost_ret (v := .tuple #[.pointer (some ⟨w.heap.size, 0, none⟩), .int .i64 0]) (by simp [results, Try.results20, go_sem]) rfl F.out
theorem rpeerTake_any (g : Nat) (p : Pr) (code id : Int) (D : Option Addr) (k d B : Nat) (l : List UInt8) (w : World) (h : Blk w g 60 p.cells) (hr : Rd w B D k l) (hB : B ≤ w.heap.size) (hkd : k ≤ d) (hnil : D = none → d = 0) (hm : k ≤ maxLen) :
    Calls Try.prog 24 #[.pointer (some ⟨g, 0, none⟩), .agg #[.int .i64 code, .int .i64 id, .slice D k d]] w (PtR w g 60 (p.take code id l)) := by
  have hg := Blk.lt h
  obtain ⟨V, hV⟩ : ∃ V, w.alloc (.cells #[.int .i64 code, .int .i64 id, .slice D k d] 38) = V := ⟨_, rfl⟩
  have bV : Below w.heap.size w V := by rw [← hV]; exact (Below.refl _ _).alloc (Nat.le_refl _) _
  have h0 : Blk V w.heap.size 38 [.int .i64 code, .int .i64 id, .slice D k d] := by rw [← hV]; exact heap_alloc_new w _
  have x0 := h0.cell 0
  have x1 := h0.cell 1
  have x2 := h0.cell 2
  have RA := rreadAnswer_any code id D k d B l V (hr.below (bV.mono hB)) (Nat.le_trans hB bV.size) hkd hnil hm
  have HV := Lib.hid hV
  have ST : ∀ w1, Below V.heap.size V w1 → Blk w1 w.heap.size 38 [.int .i64 code, .int .i64 id, .slice D k d] ∧ Blk w1 g 60 p.cells := fun w1 b1 => ⟨(b1.block _ (Blk.lt h0)).trans h0, ((bV.trans (b1.mono bV.size)).block _ hg).trans h⟩
  obtain ⟨q, hq⟩ : ∃ q, p.take code id l = q := ⟨_, rfl⟩
  rw [hq]
  unfold Pr.take at hq
  by_cases h1 : raE code id l = 0
  · rw [if_neg (by rw [h1]; simp)] at hq
    by_cases h2 : p.state ≠ 0 ∨ p.sent = 0
    · rw [if_pos h2] at hq
      obtain ⟨o, ho⟩ : ∃ o, raO code id l = o := ⟨_, rfl⟩
      obtain ⟨s, hs⟩ : ∃ s, raS code id l = s := ⟨_, rfl⟩
      have C : Hid (Calls Try.prog 42 #[.agg #[.int .i64 code, .int .i64 id, .slice D k d]] V fun e w1 => e = .returned (.tuple #[.bool o, .string s, .int .i64 0]) ∧ Blk w1 w.heap.size 38 [.int .i64 code, .int .i64 id, .slice D k d] ∧ Blk w1 g 60 [.string p.name, .string p.word, .int .i64 p.tries, .int .i64 p.sent, .int .i64 p.last, .int .i64 p.state, .string p.msg] ∧ PtR w g 60 q (.returned (.tuple #[.bool false, .int .i64 9])) w1) := by
        refine RA.mono ?_
        rintro e w1 ⟨rfl, b1⟩
        have hB := bV.trans (b1.mono bV.size)
        obtain ⟨s0, s1⟩ := ST w1 b1
        exact ⟨by rw [ho, hs, h1], s0, s1, by rw [← hq]; exact ptR_same h hB⟩
      clear RA ST h hr h0 bV hV hq ho hs h1
      by_cases h3 : p.state = 0
      · have h4 : p.sent = 0 := h2.resolve_left (fun hn => hn h3)
        clear h2
        go_enter Try.func24, Try.ntmps24
        go_wp2_with (first
          | (rw [HV.out])
          | (go_at_call 42; ((with_reducible refine C.out.mono ?_); rintro e w1 ⟨rfl, b0, b1, hf⟩; have y0 := b0.cell 0; have y1 := b0.cell 1; have y3 := b1.cell 3; have y4 := b1.cell 4; have y5 := b1.cell 5; have y6 := b1.cell 6; have f5 := b1.frozen 5; have f6 := b1.frozen 6; have lg := Blk.lt b1; have F := Lib.hid hf; clear hf b0 b1)))
        exact bodyPost_ret (v := .tuple #[.bool false, .int .i64 9]) (by simp [results, Try.results24, go_sem]) rfl F.out
      · have h4 : (p.state != 0) = true := by simpa using h3
        clear h2 h3
        go_enter Try.func24, Try.ntmps24
        go_wp2_with (first
          | (rw [HV.out])
          | (go_at_call 42; ((with_reducible refine C.out.mono ?_); rintro e w1 ⟨rfl, b0, b1, hf⟩; have y0 := b0.cell 0; have y1 := b0.cell 1; have y3 := b1.cell 3; have y4 := b1.cell 4; have y5 := b1.cell 5; have y6 := b1.cell 6; have f5 := b1.frozen 5; have f6 := b1.frozen 6; have lg := Blk.lt b1; have F := Lib.hid hf; clear hf b0 b1)))
        exact bodyPost_ret (v := .tuple #[.bool false, .int .i64 9]) (by simp [results, Try.results24, go_sem]) rfl F.out
    · rw [if_neg h2] at hq
      have h3 : p.state = 0 := by
        by_cases hx : p.state = 0
        · exact hx
        · exact absurd (.inl hx) h2
      have h4 : ¬ p.sent = 0 := fun hx => h2 (.inr hx)
      have h5 : (p.sent == 0) = false := by simpa using h4
      by_cases hid : id = p.last
      · rw [if_neg (by rw [hid]; simp)] at hq
        have h6 : (id != p.last) = false := by simpa using hid
        obtain ⟨s, hs⟩ : ∃ s, raS code id l = s := ⟨_, rfl⟩
        have C : Hid (Calls Try.prog 42 #[.agg #[.int .i64 code, .int .i64 id, .slice D k d]] V fun e w1 => e = .returned (.tuple #[.bool (raO code id l), .string s, .int .i64 0]) ∧ Blk w1 w.heap.size 38 [.int .i64 code, .int .i64 id, .slice D k d] ∧ Blk w1 g 60 [.string p.name, .string p.word, .int .i64 p.tries, .int .i64 p.sent, .int .i64 p.last, .int .i64 p.state, .string p.msg] ∧ ∀ u W', u = (if raO code id l then 1 else 2) → w1.drew.grownBy W' (some g) → Blk W' g 60 [.string p.name, .string p.word, .int .i64 p.tries, .int .i64 p.sent, .int .i64 p.last, .int .i64 u, .string s] → PtR w g 60 q (.returned (.tuple #[.bool (raO code id l), .int .i64 0])) W') := by
          refine RA.mono ?_
          rintro e w1 ⟨rfl, b1⟩
          have hB := bV.trans (b1.mono bV.size)
          obtain ⟨s0, s1⟩ := ST w1 b1
          refine ⟨by rw [hs, h1], s0, s1, fun u W' hu gW bW => ?_⟩
          rw [← hq]
          refine ⟨gtrans' (below_only (below_drewS hB 1)) gW, ?_, rfl⟩
          rw [hu] at bW
          rw [hs]
          exact bW
        obtain ⟨o, ho⟩ : ∃ o, raO code id l = o := ⟨_, rfl⟩
        rw [ho] at C
        clear RA ST h hr h0 bV hV hq hs h1 h2 hid h4 ho
        cases o
        · go_enter Try.func24, Try.ntmps24
          go_wp2_with (first
            | (rw [HV.out])
            | (go_at_call 42; ((with_reducible refine C.out.mono ?_); rintro e w1 ⟨rfl, b0, b1, hf⟩; have y0 := b0.cell 0; have y1 := b0.cell 1; have y3 := b1.cell 3; have y4 := b1.cell 4; have y5 := b1.cell 5; have y6 := b1.cell 6; have f5 := b1.frozen 5; have f6 := b1.frozen 6; have lg := Blk.lt b1; have F := Lib.hid hf; have B1 := Lib.hid b1; clear hf b0 b1)))
          go_region
          all_goals
            go_wp2
            first
              | exact bodyPost_ret (v := .tuple #[.bool false, .int .i64 0]) (by simp [results, Try.results24, go_sem]) rfl (F.out 2 _ rfl (gtrans' (gset' _ _ _ _) (gset' _ _ _ _)) (Blk.set_ (Blk.set_ B1.out 5 (.int .i64 2)) 6 (.string s)))
        · go_enter Try.func24, Try.ntmps24
          go_wp2_with (first
            | (rw [HV.out])
            | (go_at_call 42; ((with_reducible refine C.out.mono ?_); rintro e w1 ⟨rfl, b0, b1, hf⟩; have y0 := b0.cell 0; have y1 := b0.cell 1; have y3 := b1.cell 3; have y4 := b1.cell 4; have y5 := b1.cell 5; have y6 := b1.cell 6; have f5 := b1.frozen 5; have f6 := b1.frozen 6; have lg := Blk.lt b1; have F := Lib.hid hf; have B1 := Lib.hid b1; clear hf b0 b1)))
          go_region
          all_goals
            go_wp2
            first
              | exact bodyPost_ret (v := .tuple #[.bool true, .int .i64 0]) (by simp [results, Try.results24, go_sem]) rfl (F.out 1 _ rfl (gtrans' (gset' _ _ _ _) (gset' _ _ _ _)) (Blk.set_ (Blk.set_ B1.out 5 (.int .i64 1)) 6 (.string s)))
              | exact bodyPost_ret (v := .tuple #[.bool true, .int .i64 0]) (by simp [results, Try.results24, go_sem]) rfl (F.out 1 _ rfl (gtrans' (gset' _ _ _ _) (gset' _ _ _ _)) (Blk.set_ (Blk.set_ B1.out 6 (.string s)) 5 (.int .i64 1)))
              | exact bodyPost_ret (v := .tuple #[.bool true, .int .i64 0]) (by simp [results, Try.results24, go_sem]) rfl (F.out 1 _ rfl (gtrans' (gtrans' (gset' _ _ _ _) (gset' _ _ _ _)) (gset' _ _ _ _)) (Blk.set_ (Blk.set_ (Blk.set_ B1.out 5 (.int .i64 2)) 6 (.string s)) 5 (.int .i64 1)))
              | exact bodyPost_ret (v := .tuple #[.bool true, .int .i64 0]) (by simp [results, Try.results24, go_sem]) rfl (F.out 1 _ rfl (gtrans' (gtrans' (gset' _ _ _ _) (gset' _ _ _ _)) (gset' _ _ _ _)) (Blk.set_ (Blk.set_ (Blk.set_ B1.out 5 (.int .i64 2)) 5 (.int .i64 1)) 6 (.string s)))
      · rw [if_pos hid] at hq
        have h6 : (id != p.last) = true := by simpa using hid
        obtain ⟨o, ho⟩ : ∃ o, raO code id l = o := ⟨_, rfl⟩
        obtain ⟨s, hs⟩ : ∃ s, raS code id l = s := ⟨_, rfl⟩
        have C : Hid (Calls Try.prog 42 #[.agg #[.int .i64 code, .int .i64 id, .slice D k d]] V fun e w1 => e = .returned (.tuple #[.bool o, .string s, .int .i64 0]) ∧ Blk w1 w.heap.size 38 [.int .i64 code, .int .i64 id, .slice D k d] ∧ Blk w1 g 60 [.string p.name, .string p.word, .int .i64 p.tries, .int .i64 p.sent, .int .i64 p.last, .int .i64 p.state, .string p.msg] ∧ ∀ i, PtR w g 60 q (.returned (.tuple #[.bool false, .int .i64 1])) (w1.drewN i)) := by
          refine RA.mono ?_
          rintro e w1 ⟨rfl, b1⟩
          have hB := bV.trans (b1.mono bV.size)
          obtain ⟨s0, s1⟩ := ST w1 b1
          exact ⟨by rw [ho, hs, h1], s0, s1, fun i => by rw [← hq]; exact ptR_same h (below_drewN hB i)⟩
        clear RA ST h hr h0 bV hV hq ho hs h1 h2 hid h4
        go_enter Try.func24, Try.ntmps24
        go_wp2_with (first
          | (rw [HV.out])
          | (go_at_call 42; ((with_reducible refine C.out.mono ?_); rintro e w1 ⟨rfl, b0, b1, hf⟩; have y0 := b0.cell 0; have y1 := b0.cell 1; have y3 := b1.cell 3; have y4 := b1.cell 4; have y5 := b1.cell 5; have y6 := b1.cell 6; have f5 := b1.frozen 5; have f6 := b1.frozen 6; have lg := Blk.lt b1; have F := Lib.hid hf; clear hf b0 b1)))
        go_region
        all_goals
          go_wp2
          exact bodyPost_ret (v := .tuple #[.bool false, .int .i64 1]) (by simp [results, Try.results24, go_sem]) rfl (F.out 1)
  · rw [if_pos h1] at hq
    obtain ⟨o, ho⟩ : ∃ o, raO code id l = o := ⟨_, rfl⟩
    obtain ⟨s, hs⟩ : ∃ s, raS code id l = s := ⟨_, rfl⟩
    obtain ⟨er, her⟩ : ∃ er, raE code id l = er := ⟨_, rfl⟩
    have C : Hid (Calls Try.prog 42 #[.agg #[.int .i64 code, .int .i64 id, .slice D k d]] V fun e w1 => e = .returned (.tuple #[.bool o, .string s, .int .i64 er]) ∧ Blk w1 w.heap.size 38 [.int .i64 code, .int .i64 id, .slice D k d] ∧ Blk w1 g 60 [.string p.name, .string p.word, .int .i64 p.tries, .int .i64 p.sent, .int .i64 p.last, .int .i64 p.state, .string p.msg] ∧ PtR w g 60 q (.returned (.tuple #[.bool false, .int .i64 er])) w1) := by
      refine RA.mono ?_
      rintro e w1 ⟨rfl, b1⟩
      have hB := bV.trans (b1.mono bV.size)
      obtain ⟨s0, s1⟩ := ST w1 b1
      exact ⟨by rw [ho, hs, her], s0, s1, by rw [← hq, her]; exact ptR_same h hB⟩
    rw [her] at h1
    have e1 : (er != 0) = true := by simpa using h1
    clear RA ST h hr h0 bV hV hq ho hs her h1
    go_enter Try.func24, Try.ntmps24
    go_wp2_with (first
      | (rw [HV.out])
      | (go_at_call 42; ((with_reducible refine C.out.mono ?_); rintro e w1 ⟨rfl, b0, b1, hf⟩; have y0 := b0.cell 0; have y1 := b0.cell 1; have y3 := b1.cell 3; have y4 := b1.cell 4; have y5 := b1.cell 5; have y6 := b1.cell 6; have f5 := b1.frozen 5; have f6 := b1.frozen 6; have lg := Blk.lt b1; have F := Lib.hid hf; clear hf b0 b1)))
    exact bodyPost_ret (v := .tuple #[.bool false, .int .i64 er]) (by simp [results, Try.results24, go_sem]) rfl F.out
end Go.Proofs.Ytglboagjmbjehaa
