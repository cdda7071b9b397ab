/-
  tetherref12's authenticator: NewServer, Take, Reset; (*pap.Server).Reset (written by gen_parsrv.py).
-/
import Derived.Test.YtglboagjmbjehaaPaAsksM
import Derived.Test.YtglboagjmbjehaaSeRFind
import Derived.Test.YtglboagjmbjehaaSeRFault
namespace Go.Proofs.Ytglboagjmbjehaa
open Go.RowKit Go.Shelf
set_option maxRecDepth 100000
set_option maxHeartbeats 4000000
set_option linter.unusedSimpArgs false
set_option linter.unusedVariables false

def stV : Option (Bool × ByteArray) → Int
  | none => 0
  | some q => if q.1 then 1 else 2
def whoV : Option (Bool × ByteArray) → ByteArray
  | none => ⟨#[]⟩
  | some q => q.2
/-- the reference's authenticator in a block -/
def RSv (W : World) (h : Nat) (name : ByteArray) (A : Option Addr) (n c : Nat) (v : Option (Bool × ByteArray)) : Prop := Blk W h 47 [.string name, .slice A n c, .int .i64 (stV v), .string (whoV v)]
def RNsR (w : World) (name : ByteArray) (A : Option Addr) (n c : Nat) (ss : List Sec) (e : Ending) (w' : World) : Prop :=
  Below w.heap.size w w' ∧ ((nameB name = false ∧ e = .returned (.tuple #[.pointer none, .int .i64 60, .int .i64 0])) ∨ (nameB name = true ∧ (chk ss).1 ≠ 0 ∧ e = .returned (.tuple #[.pointer none, .int .i64 (chk ss).1, .int .i64 (chk ss).2])) ∨
    (nameB name = true ∧ (chk ss).1 = 0 ∧ ∃ h, w.heap.size ≤ h ∧ e = .returned (.tuple #[.pointer (some ⟨h, 0, none⟩), .int .i64 0, .int .i64 0]) ∧ RSv w' h name A n c none))
theorem rnewServer_any (name : ByteArray) (A : Option Addr) (n c B : Nat) (ss : List Sec) (w : World) (hn : name.size ≤ maxLen) (h : SecRd w B A n ss) (hB : B ≤ w.heap.size) :
    Calls Try.prog 7 #[.string name, .slice A n c] w (RNsR w name A n c ss) := by
  have NM := Lib.hid (fun W => rname_any name W hn)
  have NW := rfault_any A n c B ss w h hB
  cases hb : nameB name
  · have RES : Hid (RNsR w name A n c ss (.returned (.tuple #[.pointer none, .int .i64 60, .int .i64 0])) w) := ⟨Below.refl _ _, .inl ⟨hb, rfl⟩⟩
    rw [hb] at NM
    clear h NW hb
    go_enter Try.func7, Try.ntmps7
    go_wp2_with (go_at_call 32; ((with_reducible refine (NM.out _).mono ?_); rintro e w' ⟨rfl, rfl⟩))
    exact bodyPost_ret (v := .tuple #[.pointer none, .int .i64 60, .int .i64 0]) (by simp [results, Try.results7, go_sem]) rfl RES.out
  · obtain ⟨q1, hq1⟩ : ∃ q1, (chk ss).1 = q1 := ⟨_, rfl⟩
    obtain ⟨q2, hq2⟩ : ∃ q2, (chk ss).2 = q2 := ⟨_, rfl⟩
    rw [hb] at NM
    by_cases h0 : q1 = 0
    · subst h0
      have C : Hid (Calls Try.prog 33 #[.slice A n c] w fun e w1 => e = .returned (.tuple #[.int .i64 0, .int .i64 q2]) ∧ RNsR w name A n c ss (.returned (.tuple #[.pointer (some ⟨w1.heap.size, 0, none⟩), .int .i64 0, .int .i64 0])) (w1.alloc (.cells #[.string name, .slice A n c, .int .i64 0, .string ⟨#[]⟩] 47))) := by
        refine NW.mono ?_
        rintro e w1 ⟨rfl, b1⟩
        have hBa : Below w1.heap.size w1 (w1.alloc (.cells #[.string name, .slice A n c, .int .i64 0, .string ⟨#[]⟩] 47)) := (Below.refl _ _).alloc (Nat.le_refl _) _
        exact ⟨by rw [hq1, hq2], b1.trans (hBa.mono b1.size), .inr (.inr ⟨hb, hq1, w1.heap.size, b1.size, rfl, heap_alloc_new w1 _⟩)⟩
      clear h NW hb hq1 hq2
      go_enter Try.func7, Try.ntmps7
      go_wp2_with (first
        | (go_at_call 32; ((with_reducible refine (NM.out _).mono ?_); rintro e w' ⟨rfl, rfl⟩))
        | (go_at_call 33; ((with_reducible refine C.out.mono ?_); rintro e w1 ⟨rfl, h1⟩; have H1 := Lib.hid h1; clear h1)))
      exact bodyPost_ret (v := .tuple #[.pointer (some ⟨w1.heap.size, 0, none⟩), .int .i64 0, .int .i64 0]) (by simp [results, Try.results7, go_sem]) rfl H1.out
    · have C : Hid (Calls Try.prog 33 #[.slice A n c] w fun e w1 => e = .returned (.tuple #[.int .i64 q1, .int .i64 q2]) ∧ RNsR w name A n c ss (.returned (.tuple #[.pointer none, .int .i64 q1, .int .i64 q2])) w1) := by
        refine NW.mono ?_
        rintro e w1 ⟨rfl, b1⟩
        exact ⟨by rw [hq1, hq2], b1, .inr (.inl ⟨hb, by rw [hq1]; exact h0, by rw [hq1, hq2]⟩)⟩
      have e0 : (q1 != 0) = true := by simpa using h0
      clear h NW hb hq1 hq2 h0
      go_enter Try.func7, Try.ntmps7
      go_wp2_with (first
        | (go_at_call 32; ((with_reducible refine (NM.out _).mono ?_); rintro e w' ⟨rfl, rfl⟩))
        | (go_at_call 33; ((with_reducible refine C.out.mono ?_); rintro e w1 ⟨rfl, h1⟩; have H1 := Lib.hid h1; clear h1)))
      exact bodyPost_ret (v := .tuple #[.pointer none, .int .i64 q1, .int .i64 q2]) (by simp [results, Try.results7, go_sem]) rfl H1.out
theorem rserverReset_any (h : Nat) (name : ByteArray) (A : Option Addr) (n c : Nat) (v : Option (Bool × ByteArray)) (w : World) (hb : RSv w h name A n c v) : Calls Try.prog 11 #[.pointer (some ⟨h, 0, none⟩)] w fun e w' => e = .returned (.tuple #[]) ∧ w.grownBy w' (some h) ∧ RSv w' h name A n c none := by
  have f2 := Blk.frozen hb 2
  have f3 := Blk.frozen hb 3
  have c2 := Blk.cell hb 2
  have c3 := Blk.cell hb 3
  have lg := Blk.lt hb
  have H := Lib.hid hb
  clear hb
  go_enter Try.func11, Try.ntmps11
  go_wp2
  go_end0
  exact ⟨rfl, gtrans' (gset' _ _ _ _) (gset' _ _ _ _), Blk.set_ (Blk.set_ H.out 2 (.int .i64 0)) 3 (.string ⟨#[]⟩)⟩
theorem pserverReset_any (g tb : Nat) (name : ByteArray) (ss : List Sec) (st : Int) (who : ByteArray) (ans : Value) (w : World) (h : SvAt w g tb name ss st who ans) : Calls Try.prog 10 #[.pointer (some ⟨g, 0, none⟩)] w fun e w' => e = .returned (.tuple #[]) ∧ w.grownBy w' (some g) ∧ SvAt w' g tb name ss 0 ⟨#[]⟩ .nilFunc := by
  have f2 := h.blk.frozen 2
  have f3 := h.blk.frozen 3
  have f4 := h.blk.frozen 4
  have c2 := h.blk.cell 2
  have c3 := h.blk.cell 3
  have c4 := h.blk.cell 4
  have lg := Blk.lt h.blk
  have H := Lib.hid h
  have gs : w.grownBy (((w.setCell ⟨g, 2, none⟩ (.int .i64 0)).setCell ⟨g, 3, none⟩ (.string ⟨#[]⟩)).setCell ⟨g, 4, none⟩ .nilFunc) (some g) := gtrans' (gtrans' (gset' _ _ _ _) (gset' _ _ _ _)) (gset' _ _ _ _)
  have GS := Lib.hid gs
  have R : Hid (SvAt (((w.setCell ⟨g, 2, none⟩ (.int .i64 0)).setCell ⟨g, 3, none⟩ (.string ⟨#[]⟩)).setCell ⟨g, 4, none⟩ .nilFunc) g tb name ss 0 ⟨#[]⟩ .nilFunc) :=
    ⟨set5 h.blk, h.tab.same fun i hi => gs.block i (Nat.lt_trans hi (Blk.lt h.blk)) (by intro e; injection e with e; omega)⟩
  clear h gs
  go_enter Try.func10, Try.ntmps10
  go_wp2
  go_end0
  exact ⟨rfl, GS.out, R.out⟩
def RTakeR (W : World) (h : Nat) (name : ByteArray) (A : Option Addr) (n c : Nat) (ss : List Sec) (v : Option (Bool × ByteArray)) (code id : Int) (l : List UInt8) (e : Ending) (W' : World) : Prop :=
  W.grownBy W' (some h) ∧ RSv W' h name A n c (takeV name ss v code id l) ∧ TakeA W code id l (takeV name ss v code id l) e W'
/-- behind the request: what is answered is known -/
structure RAns (W W1 : World) (h : Nat) (name : ByteArray) (A : Option Addr) (n c : Nat) (id : Int) (code : Int) (D : Option Addr) (k d : Nat) (v : Option (Bool × ByteArray)) : Prop where
  sv : RSv W1 h name A n c v
  only : W.grownBy W1 (some h)
  pk : Blk W1 W.heap.size 38 [.int .i64 code, .int .i64 id, .slice D k d]
  rs : Blk W1 (W.heap.size + 1) 38 [.int .i64 0, .int .i64 0, .slice none 0 0]
  sz : W.heap.size + 1 < W1.heap.size
  hl : h < W.heap.size
theorem RAns.drewN {W W1 : World} {h : Nat} {name : ByteArray} {A : Option Addr} {n c : Nat} {id : Int} {code : Int} {D : Option Addr} {k d : Nat} {v : Option (Bool × ByteArray)} (a : RAns W W1 h name A n c id code D k d v) (q : Nat) : RAns W (W1.drewN q) h name A n c id code D k d v :=
  ⟨a.sv, only_later a.only (below_drewS (Below.refl _ _) q), a.pk, a.rs, a.sz, a.hl⟩
def RAnsC (w W1 : World) (h : Nat) (name : ByteArray) (A : Option Addr) (n c : Nat) (ss : List Sec) (v : Option (Bool × ByteArray)) (code id : Int) (l : List UInt8) (ok : Bool) (cd st : Int) (Wb : World) : Prop :=
  Calls Try.prog 39 #[.int .i64 id, .bool ok, .string (saidB ok)] Wb fun e w3 => ∃ D3 k3 d3, e = .returned (.tuple #[.agg #[.int .i64 cd, .int .i64 id, .slice D3 k3 d3], .int .i64 0]) ∧
        Below Wb.heap.size Wb w3 ∧ w3.cell? ⟨h, 2, none⟩ = some (.int .i64 st) ∧ w3.cell? ⟨w.heap.size, 1, none⟩ = some (.int .i64 id) ∧ w.heap.size + 1 < w3.heap.size ∧ Blk w3 (w.heap.size + 1) 38 [.int .i64 0, .int .i64 0, .slice none 0 0] ∧ ∀ Wm W' z, W1.heap.size ≤ z → (z < Wb.heap.size ∨ w3.heap.size ≤ z) → w3.grownBy Wm (some z) → Wm.grownBy W' (some (w.heap.size + 1)) → RTakeR w h name A n c ss v code id l (.returned (.tuple #[.agg #[.int .i64 cd, .int .i64 id, .slice D3 k3 d3], .bool true, .int .i64 0])) W'
theorem rfin {w W1 : World} {h : Nat} {name : ByteArray} {A : Option Addr} {n c : Nat} {ss : List Sec} {v : Option (Bool × ByteArray)} {code id : Int} {D : Option Addr} {k d : Nat} {l : List UInt8} {ok : Bool} {who : ByteArray} (he : rqE code id l = 0) (htv : takeV name ss v code id l = some (ok, who))
    (hA : RAns w W1 h name A n c id code D k d (some (ok, who))) (Wb : World) (hWb : Below W1.heap.size W1 Wb) : RAnsC w W1 h name A n c ss v code id l ok (if ok then 2 else 3) (if ok then 1 else 2) Wb := by
  obtain ⟨i0, i1⟩ := rqE_id he
  have hz1 := Blk.lt hA.rs
  have hgl := hA.hl
  have hae : ansE id (saidB ok) = 0 := by
    have h1 := said_fits ok
    have h2 : idB id = true := by simp [idB]; omega
    unfold ansE
    rw [h2, if_neg (by simp), if_neg (by omega), h1.2, if_neg (by simp)]
  have hc := ranswer_any id ok (saidB ok) Wb (by have := (said_fits ok).1; unfold maxLen; omega)
  rw [hae] at hc
  refine hc.mono ?_
  rintro e w3 ⟨b3, D3, k3, d3, rfl, ho⟩
  have b3' : Below W1.heap.size W1 w3 := hWb.trans (b3.mono hWb.size)
  have z3 := b3'.size
  have zb := hWb.size
  refine ⟨D3, k3, d3, rfl, b3, Blk.cell (show Blk w3 h 47 _ from (b3'.block _ (Blk.lt hA.sv)).trans hA.sv) 2, Blk.cell (show Blk w3 w.heap.size 38 _ from (b3'.block _ (Blk.lt hA.pk)).trans hA.pk) 1, by omega, (b3'.block _ hz1).trans hA.rs, fun Wm W' z hz hz2 gM gW => ?_⟩
  have zW := gW.size
  have zM := gM.size
  have o3 := only_later hA.only b3'
  have zo := o3.size
  have keep : ∀ i, i < W1.heap.size → i ≠ w.heap.size + 1 → W'.heap[i]? = W1.heap[i]? := fun i hi hne => (gW.block i (by omega) (by intro e; injection e with e; exact hne e)).trans ((gM.block i (by omega) (by intro e; injection e with e; omega)).trans (b3'.block i hi))
  have oW : w.grownBy W' (some h) := ⟨gW.os.trans (gM.os.trans o3.os), gW.tape.trans (gM.tape.trans o3.tape), gW.output.trans (gM.output.trans o3.output), by omega, fun i hi hne => (keep i (by have := hA.only.size; omega) (by omega)).trans (hA.only.block i hi hne)⟩
  refine ⟨oW, ?_, ?_⟩
  · rw [htv]
    exact (keep h (Blk.lt hA.sv) (by omega)).trans hA.sv
  · rw [htv]
    refine .inr ⟨he, ok, who, D3, k3, d3, rfl, rfl, ?_⟩
    have hne : ∀ q, (q < Wb.heap.size ∨ w3.heap.size ≤ q) → (Value.slice D3 k3 d3).ownBlock = none ∨ (Value.slice D3 k3 d3).ownBlock ≠ some q := by
      intro q hq
      rcases ho.form with ⟨e, _⟩ | ⟨g', cap, e, h2, _⟩
      · rw [e]; exact .inl rfl
      · rw [e]; refine .inr fun e2 => ?_
        simp [Value.ownBlock] at e2; omega
    have h4 := (ho.grown gM (hne z hz2)).grown gW (hne _ (.inl (by omega)))
    refine ⟨h4.1, ?_⟩
    rcases h4.2 with h | ⟨g', cap, cur, e1, e2, e3⟩
    · exact .inl h
    · exact .inr ⟨g', cap, cur, e1, by have := hA.only.size; omega, e3⟩
theorem rtakeS_any (h : Nat) (name : ByteArray) (A : Option Addr) (n c BS : Nat) (ss : List Sec) (v : Option (Bool × ByteArray)) (code id : Int) (D : Option Addr) (k d B : Nat) (l : List UInt8) (w : World) (hv : RSv w h name A n c v) (hsec : SecRd w BS A n ss) (hBS : BS ≤ h)
    (hr : Rd w B D k l) (hB : B ≤ w.heap.size) (hkd : k ≤ d) (hnil : D = none → d = 0) (hm : k ≤ maxLen) :
    Calls Try.prog 14 #[.pointer (some ⟨h, 0, none⟩), .agg #[.int .i64 code, .int .i64 id, .slice D k d]] w (RTakeR w h name A n c ss v code id l) := by
  have hgl := Blk.lt hv
  obtain ⟨V, hV⟩ : ∃ V, (w.alloc (.cells #[.int .i64 code, .int .i64 id, .slice D k d] 38)).alloc (.cells #[.int .i64 0, .int .i64 0, .slice none 0 0] 38) = V := ⟨_, rfl⟩
  have hBV : Below w.heap.size w V := by rw [← hV]; exact ((Below.refl _ _).alloc (Nat.le_refl _) _).alloc (by simp) _
  have zV : V.heap.size = w.heap.size + 2 := by rw [← hV]; simp
  have h0 : Blk V w.heap.size 38 [.int .i64 code, .int .i64 id, .slice D k d] := by
    rw [← hV]
    exact (Below.heap_alloc _ _ _ (by simp)).trans (heap_alloc_new w _)
  have h1 : Blk V (w.heap.size + 1) 38 [.int .i64 0, .int .i64 0, .slice none 0 0] := by
    rw [← hV]
    have h := heap_alloc_new (w.alloc (.cells #[.int .i64 code, .int .i64 id, .slice D k d] 38)) (.cells #[.int .i64 0, .int .i64 0, .slice none 0 0] 38)
    rw [World.size_alloc] at h
    exact h
  have x0 := h0.cell 0
  have x1 := h0.cell 1
  have x2 := h0.cell 2
  have RQ := rreadRequest_any code id D k d B l V (hr.below (hBV.mono hB)) (by omega) hkd hnil hm
  obtain ⟨cl, hcl⟩ : ∃ x, rqS code id l 0 = x := ⟨_, rfl⟩
  obtain ⟨word, hword⟩ : ∃ x, rqS code id l 1 = x := ⟨_, rfl⟩
  have szc : cl.size ≤ 255 := by rw [← hcl]; exact rqS_size code id l 0
  have HV := Lib.hid hV
  by_cases he : rqE code id l = 0
  · have HE := Lib.hid he
    have htk : takeV name ss v code id l = some (nextV name ss v cl word) := by unfold takeV; rw [if_pos he, hcl, hword]
    -- behind the request
    have C0 : Calls Try.prog 38 #[.agg #[.int .i64 code, .int .i64 id, .slice D k d]] V fun e w2 => e = .returned (.tuple #[.string cl, .string word, .int .i64 0]) ∧ RAns w w2 h name A n c id code D k d v ∧ SecRd w2 BS A n ss := by
      refine RQ.mono ?_
      rintro e w2 ⟨rfl, b2⟩
      have z2 := b2.size
      have B2 : Below w.heap.size w w2 := hBV.trans (b2.mono (by omega))
      exact ⟨by rw [hcl, hword, he], ⟨(B2.block _ hgl).trans hv, below_only B2, (b2.block _ (by omega)).trans h0, (b2.block _ (by omega)).trans h1, by omega, hgl⟩, hsec.below B2 (by omega)⟩
    clear RQ hV hcl hword he hr h0 h1 hsec hnil
    match v, htk, hv, C0 with
    | some (ok, who), htk, hv, C0 =>
      have HTV : Hid (takeV name ss (some (ok, who)) code id l = some (ok, who)) := htk
      clear htk hv
      cases ok
      · have C : Hid (Calls Try.prog 38 #[.agg #[.int .i64 code, .int .i64 id, .slice D k d]] V fun e w2 => e = .returned (.tuple #[.string cl, .string word, .int .i64 0]) ∧ w2.cell? ⟨h, 2, none⟩ = some (.int .i64 2) ∧ RAns w w2 h name A n c id code D k d (some (false, who))) := by
          refine C0.mono ?_
          rintro e w2 ⟨rfl, hA, -⟩
          exact ⟨rfl, Blk.cell (show Blk w2 h 47 _ from hA.sv) 2, hA⟩
        clear C0
        go_enter Try.func14, Try.ntmps14
        go_upto_region 12 with (first
          | (rw [HV.out])
          | (go_at_call 38; ((with_reducible refine C.out.mono ?_); rintro e w3 ⟨rfl, y4, hA⟩; have HAN := Lib.hid hA; clear hA)))
        have F1 : Hid (∀ Wb, Below w3.heap.size w3 Wb → RAnsC w w3 h name A n c ss (some (false, who)) code id l false 3 2 Wb) := fun Wb hWb => rfin HE.out HTV.out HAN.out Wb hWb
        unfold RAnsC at F1
        rw [show saidB false = ⟨#[114, 101, 102, 117, 115, 101, 100]⟩ from rfl] at F1
        have rr := HAN.out.rs.cell 0
        have tr := World.new_ne w3 _ rr
        have y4 : w3.cell? ⟨h, 2, none⟩ = some (.int .i64 2) := Blk.cell (show Blk w3 h 47 _ from HAN.out.sv) 2
        have y1 := HAN.out.pk.cell 1
        have hA1 : Below w3.heap.size w3 w3.drew := below_drewS (Below.refl _ _) 1
        have hA2 : Below w3.heap.size w3 (w3.alloc (.cells #[.int .i64 0, .int .i64 0, .slice none 0 0] 38)).drew := below_drewS ((Below.refl _ _).alloc (Nat.le_refl _) _) 1
        have n1 : Blk (w3.alloc (.cells #[.int .i64 0, .int .i64 0, .slice none 0 0] 38)).drew w3.heap.size 38 [.int .i64 0, .int .i64 0, .slice none 0 0] := heap_alloc_new w3 _
        have HA1 := Lib.hid hA1
        have HA2 := Lib.hid hA2
        have N2 := Lib.hid n1
        clear hA1 hA2 n1
        have t0 := World.new_ne w3 _ y4
        have t1 := World.new_ne w3 _ y1
        go_region_held3 (fun w' => w'.cell? ⟨h, 2, none⟩ = some (.int .i64 2) ∧ w'.cell? ⟨w.heap.size, 1, none⟩ = some (.int .i64 id)) (go_keep) (first
          | (go_at_call 39; ((with_reducible refine (F1.out _ HA1.out).mono ?_); rintro e w4 ⟨D3, k3, d3, rfl, bb, v4, v1, z4, b4, c9⟩; have p0 := b4.cell 0; have p1 := b4.cell 1; have p2 := b4.cell 2; have q0 := b4.frozen 0; have q1 := b4.frozen 1; have q2 := b4.frozen 2; have t5 := World.new_ne w4 _ p0; have t2 := World.new_ne w4 _ v4; have t3 := World.new_ne w4 _ v1; have C9 := Lib.hid c9; have B4 := Lib.hid b4; have HS4 := Lib.hid (Nat.le_trans HA1.out.size bb.size); clear c9 b4 bb))
          | (go_at_call 39; ((with_reducible refine (F1.out _ HA2.out).mono ?_); rintro e w4 ⟨D3, k3, d3, rfl, bb, v4, v1, z4, b4, c9⟩; have n2 := (bb.block _ (Blk.lt N2.out)).trans N2.out; have r0 := Blk.cell n2 0; have r1 := Blk.cell n2 1; have r2 := Blk.cell n2 2; have g0 := Blk.frozen n2 0; have g1 := Blk.frozen n2 1; have g2 := Blk.frozen n2 2; have p0 := b4.cell 0; have p1 := b4.cell 1; have p2 := b4.cell 2; have q0 := b4.frozen 0; have q1 := b4.frozen 1; have q2 := b4.frozen 2; have t5 := World.new_ne w4 _ p0; have t2 := World.new_ne w4 _ v4; have t3 := World.new_ne w4 _ v1; have C9 := Lib.hid c9; have B4 := Lib.hid b4; have B5 := Lib.hid n2; clear c9 b4 bb n2)))
        all_goals
          go_wp2
          have hb4 := blk3 (x := .int .i64 3) (y := .int .i64 id) (z := .slice D3 k3 d3) B4.out
          have z0 := hb4.cell 0
          have z1 := hb4.cell 1
          have z2 := hb4.cell 2
          first
            | exact bodyPost_ret (v := .tuple #[.agg #[.int .i64 3, .int .i64 id, .slice D3 k3 d3], .bool true, .int .i64 0]) (by simp [results, Try.results14, go_sem, *]) rfl (C9.out w4 _ w4.heap.size (HS4.out) (.inr (Nat.le_refl _)) (below_only (Below.refl _ _)) (gtrans' (gset3 _ _ _ _ _) (below_only ((Below.refl _ _).alloc (Nat.le_refl _) _))))
            | exact bodyPost_ret (v := .tuple #[.agg #[.int .i64 3, .int .i64 id, .slice D3 k3 d3], .bool true, .int .i64 0]) (by simp [results, Try.results14, go_sem, *]) rfl (C9.out _ _ w3.heap.size (Nat.le_refl _) (.inl (by simp)) (gset3 _ _ _ _ _) (gset3 _ _ _ _ _))
      · have C : Hid (Calls Try.prog 38 #[.agg #[.int .i64 code, .int .i64 id, .slice D k d]] V fun e w2 => e = .returned (.tuple #[.string cl, .string word, .int .i64 0]) ∧ w2.cell? ⟨h, 2, none⟩ = some (.int .i64 1) ∧ RAns w w2 h name A n c id code D k d (some (true, who))) := by
          refine C0.mono ?_
          rintro e w2 ⟨rfl, hA, -⟩
          exact ⟨rfl, Blk.cell (show Blk w2 h 47 _ from hA.sv) 2, hA⟩
        clear C0
        go_enter Try.func14, Try.ntmps14
        go_upto_region 12 with (first
          | (rw [HV.out])
          | (go_at_call 38; ((with_reducible refine C.out.mono ?_); rintro e w3 ⟨rfl, y4, hA⟩; have HAN := Lib.hid hA; clear hA)))
        have F1 : Hid (∀ Wb, Below w3.heap.size w3 Wb → RAnsC w w3 h name A n c ss (some (true, who)) code id l true 2 1 Wb) := fun Wb hWb => rfin HE.out HTV.out HAN.out Wb hWb
        unfold RAnsC at F1
        rw [show saidB true = ⟨#[119, 101, 108, 99, 111, 109, 101]⟩ from rfl] at F1
        have rr := HAN.out.rs.cell 0
        have tr := World.new_ne w3 _ rr
        have y4 : w3.cell? ⟨h, 2, none⟩ = some (.int .i64 1) := Blk.cell (show Blk w3 h 47 _ from HAN.out.sv) 2
        have y1 := HAN.out.pk.cell 1
        have hA1 : Below w3.heap.size w3 w3.drew := below_drewS (Below.refl _ _) 1
        have hA2 : Below w3.heap.size w3 (w3.alloc (.cells #[.int .i64 0, .int .i64 0, .slice none 0 0] 38)).drew := below_drewS ((Below.refl _ _).alloc (Nat.le_refl _) _) 1
        have n1 : Blk (w3.alloc (.cells #[.int .i64 0, .int .i64 0, .slice none 0 0] 38)).drew w3.heap.size 38 [.int .i64 0, .int .i64 0, .slice none 0 0] := heap_alloc_new w3 _
        have HA1 := Lib.hid hA1
        have HA2 := Lib.hid hA2
        have N2 := Lib.hid n1
        clear hA1 hA2 n1
        have t0 := World.new_ne w3 _ y4
        have t1 := World.new_ne w3 _ y1
        go_region_held3 (fun w' => w'.cell? ⟨h, 2, none⟩ = some (.int .i64 1) ∧ w'.cell? ⟨w.heap.size, 1, none⟩ = some (.int .i64 id)) (go_keep) (first
          | (go_at_call 39; ((with_reducible refine (F1.out _ HA1.out).mono ?_); rintro e w4 ⟨D3, k3, d3, rfl, bb, v4, v1, z4, b4, c9⟩; have p0 := b4.cell 0; have p1 := b4.cell 1; have p2 := b4.cell 2; have q0 := b4.frozen 0; have q1 := b4.frozen 1; have q2 := b4.frozen 2; have t5 := World.new_ne w4 _ p0; have t2 := World.new_ne w4 _ v4; have t3 := World.new_ne w4 _ v1; have C9 := Lib.hid c9; have B4 := Lib.hid b4; have HS4 := Lib.hid (Nat.le_trans HA1.out.size bb.size); clear c9 b4 bb))
          | (go_at_call 39; ((with_reducible refine (F1.out _ HA2.out).mono ?_); rintro e w4 ⟨D3, k3, d3, rfl, bb, v4, v1, z4, b4, c9⟩; have n2 := (bb.block _ (Blk.lt N2.out)).trans N2.out; have r0 := Blk.cell n2 0; have r1 := Blk.cell n2 1; have r2 := Blk.cell n2 2; have g0 := Blk.frozen n2 0; have g1 := Blk.frozen n2 1; have g2 := Blk.frozen n2 2; have p0 := b4.cell 0; have p1 := b4.cell 1; have p2 := b4.cell 2; have q0 := b4.frozen 0; have q1 := b4.frozen 1; have q2 := b4.frozen 2; have t5 := World.new_ne w4 _ p0; have t2 := World.new_ne w4 _ v4; have t3 := World.new_ne w4 _ v1; have C9 := Lib.hid c9; have B4 := Lib.hid b4; have B5 := Lib.hid n2; clear c9 b4 bb n2)))
        all_goals
          go_wp2
          have hb4 := blk3 (x := .int .i64 2) (y := .int .i64 id) (z := .slice D3 k3 d3) B4.out
          have z0 := hb4.cell 0
          have z1 := hb4.cell 1
          have z2 := hb4.cell 2
          first
            | exact bodyPost_ret (v := .tuple #[.agg #[.int .i64 2, .int .i64 id, .slice D3 k3 d3], .bool true, .int .i64 0]) (by simp [results, Try.results14, go_sem, *]) rfl (C9.out w4 _ w4.heap.size (HS4.out) (.inr (Nat.le_refl _)) (below_only (Below.refl _ _)) (gtrans' (gset3 _ _ _ _ _) (below_only ((Below.refl _ _).alloc (Nat.le_refl _) _))))
            | exact bodyPost_ret (v := .tuple #[.agg #[.int .i64 2, .int .i64 id, .slice D3 k3 d3], .bool true, .int .i64 0]) (by simp [results, Try.results14, go_sem, *]) rfl (C9.out _ _ w3.heap.size (Nat.le_refl _) (.inl (by simp)) (gset3 _ _ _ _ _) (gset3 _ _ _ _ _))
    | none, htk, hv, C0 =>
      have htv : takeV name ss none code id l = some (judgeB name ss cl word, if judgeB name ss cl word then cl else ⟨#[]⟩) := htk
      have NM := Lib.hid (fun W => rname_any cl W (by unfold maxLen; omega))
      clear htk hv
      -- Refused stands there ahead of the test
      have C1 : Calls Try.prog 38 #[.agg #[.int .i64 code, .int .i64 id, .slice D k d]] V fun e w2 => e = .returned (.tuple #[.string cl, .string word, .int .i64 0]) ∧ w2.cell? ⟨h, 2, none⟩ = some (.int .i64 0) ∧ w2.frozen? ⟨h, 2, none⟩ = false ∧ h < w2.heap.size ∧
          ∃ U, w2.setCell ⟨h, 2, none⟩ (.int .i64 2) = U ∧ RAns w U h name A n c id code D k d (some (false, ⟨#[]⟩)) ∧ SecRd U BS A n ss := by
        refine C0.mono ?_
        rintro e w2 ⟨rfl, hA, hs⟩
        have hb : Blk w2 h 47 [.string name, .slice A n c, .int .i64 0, .string ⟨#[]⟩] := hA.sv
        have gs := gset' w2 h 2 (.int .i64 2)
        refine ⟨rfl, hb.cell 2, hb.frozen 2, Blk.lt hb, _, rfl, ⟨hb.set_ 2 _, gtrans' hA.only gs, blk_off hA.pk gs (by omega), blk_off hA.rs gs (by omega), by have := hA.sz; have := gs.size; omega, hgl⟩, ?_⟩
        exact hs.below (C := BS) ⟨gs.os, gs.tape, gs.output, gs.size, fun i hi => gs.block i (by have := hA.sz; have := Blk.lt hb; omega) (by intro e; injection e with e; omega)⟩ (Nat.le_refl _)
      clear C0
      have C := Lib.hid C1
      clear C1
      cases hb : nameB cl
      · have hj : judgeB name ss cl word = false := by unfold judgeB; rw [hb]; rfl
        rw [hj] at htv
        have HTV : Hid (takeV name ss none code id l = some (false, ⟨#[]⟩)) := htv
        rw [hb] at NM
        clear htv hj hb
        go_enter Try.func14, Try.ntmps14
        go_upto_region 6 with (first
          | (rw [HV.out])
          | (go_at_call 38; ((with_reducible refine C.out.mono ?_); rintro e w2 ⟨rfl, y4, f4, l4, U, hU, hA, hs⟩; have HU := Lib.hid hU; have HAN0 := Lib.hid hA; have u2 : U.cell? ⟨h, 2, none⟩ = some (.int .i64 2) := Blk.cell (show Blk U h 47 _ from hA.sv) 2; clear hA hU hs))
          | (rw [HU.out]))
        go_quiet ((go_at_call 32; refine (NM.out _).mono ?_; rintro e w1 ⟨rfl, rfl⟩; exact ⟨rfl, _, rfl⟩))
        go_upto_region 12 with (fail)
        rename Nat => nq
        obtain ⟨X, hX⟩ : ∃ X, U.drewN nq = X := ⟨_, rfl⟩
        have HAN : Hid (RAns w X h name A n c id code D k d (some (false, ⟨#[]⟩))) := hX ▸ HAN0.out.drewN nq
        rw [hX]
        clear hX
        have F1 : Hid (∀ Wb, Below X.heap.size X Wb → RAnsC w X h name A n c ss none code id l false 3 2 Wb) := fun Wb hWb => rfin HE.out HTV.out HAN.out Wb hWb
        unfold RAnsC at F1
        rw [show saidB false = ⟨#[114, 101, 102, 117, 115, 101, 100]⟩ from rfl] at F1
        have rr := HAN.out.rs.cell 0
        have tr := World.new_ne X _ rr
        have y4 : X.cell? ⟨h, 2, none⟩ = some (.int .i64 2) := Blk.cell (show Blk X h 47 _ from HAN.out.sv) 2
        have y1 := HAN.out.pk.cell 1
        have hA1 : Below X.heap.size X X.drew := below_drewS (Below.refl _ _) 1
        have hA2 : Below X.heap.size X (X.alloc (.cells #[.int .i64 0, .int .i64 0, .slice none 0 0] 38)).drew := below_drewS ((Below.refl _ _).alloc (Nat.le_refl _) _) 1
        have n1 : Blk (X.alloc (.cells #[.int .i64 0, .int .i64 0, .slice none 0 0] 38)).drew X.heap.size 38 [.int .i64 0, .int .i64 0, .slice none 0 0] := heap_alloc_new X _
        have HA1 := Lib.hid hA1
        have HA2 := Lib.hid hA2
        have N2 := Lib.hid n1
        clear hA1 hA2 n1
        have t0 := World.new_ne X _ y4
        have t1 := World.new_ne X _ y1
        go_region_held3 (fun w' => w'.cell? ⟨h, 2, none⟩ = some (.int .i64 2) ∧ w'.cell? ⟨w.heap.size, 1, none⟩ = some (.int .i64 id)) (go_keep) (first
          | (go_at_call 39; ((with_reducible refine (F1.out _ HA1.out).mono ?_); rintro e w4 ⟨D3, k3, d3, rfl, bb, v4, v1, z4, b4, c9⟩; have p0 := b4.cell 0; have p1 := b4.cell 1; have p2 := b4.cell 2; have q0 := b4.frozen 0; have q1 := b4.frozen 1; have q2 := b4.frozen 2; have t5 := World.new_ne w4 _ p0; have t2 := World.new_ne w4 _ v4; have t3 := World.new_ne w4 _ v1; have C9 := Lib.hid c9; have B4 := Lib.hid b4; have HS4 := Lib.hid (Nat.le_trans HA1.out.size bb.size); clear c9 b4 bb))
          | (go_at_call 39; ((with_reducible refine (F1.out _ HA2.out).mono ?_); rintro e w4 ⟨D3, k3, d3, rfl, bb, v4, v1, z4, b4, c9⟩; have n2 := (bb.block _ (Blk.lt N2.out)).trans N2.out; have r0 := Blk.cell n2 0; have r1 := Blk.cell n2 1; have r2 := Blk.cell n2 2; have g0 := Blk.frozen n2 0; have g1 := Blk.frozen n2 1; have g2 := Blk.frozen n2 2; have p0 := b4.cell 0; have p1 := b4.cell 1; have p2 := b4.cell 2; have q0 := b4.frozen 0; have q1 := b4.frozen 1; have q2 := b4.frozen 2; have t5 := World.new_ne w4 _ p0; have t2 := World.new_ne w4 _ v4; have t3 := World.new_ne w4 _ v1; have C9 := Lib.hid c9; have B4 := Lib.hid b4; have B5 := Lib.hid n2; clear c9 b4 bb n2)))
        all_goals
          go_wp2
          have hb4 := blk3 (x := .int .i64 3) (y := .int .i64 id) (z := .slice D3 k3 d3) B4.out
          have z0 := hb4.cell 0
          have z1 := hb4.cell 1
          have z2 := hb4.cell 2
          first
            | exact bodyPost_ret (v := .tuple #[.agg #[.int .i64 3, .int .i64 id, .slice D3 k3 d3], .bool true, .int .i64 0]) (by simp [results, Try.results14, go_sem, *]) rfl (C9.out w4 _ w4.heap.size (HS4.out) (.inr (Nat.le_refl _)) (below_only (Below.refl _ _)) (gtrans' (gset3 _ _ _ _ _) (below_only ((Below.refl _ _).alloc (Nat.le_refl _) _))))
            | exact bodyPost_ret (v := .tuple #[.agg #[.int .i64 3, .int .i64 id, .slice D3 k3 d3], .bool true, .int .i64 0]) (by simp [results, Try.results14, go_sem, *]) rfl (C9.out _ _ X.heap.size (Nat.le_refl _) (.inl (by simp)) (gset3 _ _ _ _ _) (gset3 _ _ _ _ _))
      · obtain ⟨cd, hcd⟩ : ∃ cd, chkW ss (bst ss cl name) word = cd := ⟨_, rfl⟩
        have hj : judgeB name ss cl word = decide (cd = 0) := by unfold judgeB; rw [hb, hcd]; rfl
        rw [hj] at htv
        rw [hb] at NM
        have CK : Hid (∀ U, RAns w U h name A n c id code D k d (some (false, ⟨#[]⟩)) → SecRd U BS A n ss → Calls Try.prog 29 #[.slice A n c, .string cl, .string name, .string word] U.drew fun e w2 => e = .returned (.int .i64 cd) ∧ w2.cell? ⟨h, 0, none⟩ = some (.string name) ∧ w2.cell? ⟨h, 1, none⟩ = some (.slice A n c) ∧
            w2.cell? ⟨h, 2, none⟩ = some (.int .i64 2) ∧ w2.frozen? ⟨h, 2, none⟩ = false ∧ w2.frozen? ⟨h, 3, none⟩ = false ∧ h < w2.heap.size ∧ w2.cell? ⟨h, 3, none⟩ = some (.string ⟨#[]⟩) ∧
            RAns w w2 h name A n c id code D k d (some (false, ⟨#[]⟩)) ∧ ∃ X, (w2.setCell ⟨h, 2, none⟩ (.int .i64 1)).setCell ⟨h, 3, none⟩ (.string cl) = X ∧ RAns w X h name A n c id code D k d (some (true, cl))) := by
          show ∀ U, _ → _ → Calls _ _ _ _ _
          intro U hA hs
          have bD : Below U.heap.size U U.drew := below_drewS (Below.refl _ _) 1
          refine (rcheck_any A n c BS ss cl name word U.drew (hs.below (bD.mono (by have := hA.sz; show BS ≤ U.heap.size; omega)) (Nat.le_refl _)) (by show BS ≤ U.heap.size; have := hA.sz; omega)).mono ?_
          rintro e w2 ⟨rfl, b2⟩
          have hB : Blk w2 h 47 [.string name, .slice A n c, .int .i64 2, .string ⟨#[]⟩] := (b2.block _ (Blk.lt hA.sv)).trans hA.sv
          have z2 : U.heap.size ≤ w2.heap.size := b2.size
          have hA2 : RAns w w2 h name A n c id code D k d (some (false, ⟨#[]⟩)) := ⟨hB, only_later hA.only (bD.trans (b2.mono (Nat.le_refl _))), (b2.block _ (Blk.lt hA.pk)).trans hA.pk, (b2.block _ (Blk.lt hA.rs)).trans hA.rs, by have := hA.sz; omega, hgl⟩
          have gs := gtrans' (gset' w2 h 2 (.int .i64 1)) (gset' _ h 3 (.string cl))
          refine ⟨by rw [hcd], hB.cell 0, hB.cell 1, hB.cell 2, hB.frozen 2, hB.frozen 3, Blk.lt hB, hB.cell 3, hA2, _, rfl, ⟨(hB.set_ 2 _).set_ 3 _, gtrans' hA2.only gs, blk_off hA2.pk gs (by omega), blk_off hA2.rs gs (by omega), by have := hA2.sz; have := gs.size; omega, hgl⟩⟩
        clear hcd hj
        by_cases h0 : cd = 0
        · subst h0
          have htv2 : takeV name ss none code id l = some (true, cl) := by simpa using htv
          have HTV := Lib.hid htv2
          clear htv hb htv2
          go_enter Try.func14, Try.ntmps14
          go_upto_region 6 with (first
            | (rw [HV.out])
            | (go_at_call 38; ((with_reducible refine C.out.mono ?_); rintro e w2 ⟨rfl, y4, f4, l4, U, hU, hA, hs⟩; have HU := Lib.hid hU; have CC := Lib.hid (CK.out U hA hs); have u0 : U.cell? ⟨h, 0, none⟩ = some (.string name) := Blk.cell (show Blk U h 47 _ from hA.sv) 0; have u1 : U.cell? ⟨h, 1, none⟩ = some (.slice A n c) := Blk.cell (show Blk U h 47 _ from hA.sv) 1; clear hA hU hs CK C))
            | (rw [HU.out]))
          go_region_held3 (fun w' => w'.cell? ⟨h, 0, none⟩ = some (.string name) ∧ w'.cell? ⟨h, 1, none⟩ = some (.slice A n c)) (go_keep) (first
            | (go_at_call 32; (with_reducible refine (NM.out _).mono ?_); rintro e w' ⟨rfl, rfl⟩)
            | (go_at_call 29; (with_reducible refine CC.out.mono ?_); rintro e w3 ⟨rfl, a0, a1, a2, a3, a4, a5, a6, -, X, hX, hA⟩; have x9 : X.cell? ⟨h, 2, none⟩ = some (.int .i64 1) := Blk.cell (show Blk X h 47 _ from hA.sv) 2; have HX := Lib.hid hX; have HAN := Lib.hid hA; clear hX hA))
          all_goals
            go_upto_region 12 with (rw [HX.out])
            clear a0 a1 a2 a3 a4 a5 a6
            have F1 : Hid (∀ Wb, Below X.heap.size X Wb → RAnsC w X h name A n c ss none code id l true 2 1 Wb) := fun Wb hWb => rfin HE.out HTV.out HAN.out Wb hWb
            unfold RAnsC at F1
            rw [show saidB true = ⟨#[119, 101, 108, 99, 111, 109, 101]⟩ from rfl] at F1
            have rr := HAN.out.rs.cell 0
            have tr := World.new_ne X _ rr
            have y4 : X.cell? ⟨h, 2, none⟩ = some (.int .i64 1) := Blk.cell (show Blk X h 47 _ from HAN.out.sv) 2
            have y1 := HAN.out.pk.cell 1
            have hA1 : Below X.heap.size X X.drew := below_drewS (Below.refl _ _) 1
            have hA2 : Below X.heap.size X (X.alloc (.cells #[.int .i64 0, .int .i64 0, .slice none 0 0] 38)).drew := below_drewS ((Below.refl _ _).alloc (Nat.le_refl _) _) 1
            have n1 : Blk (X.alloc (.cells #[.int .i64 0, .int .i64 0, .slice none 0 0] 38)).drew X.heap.size 38 [.int .i64 0, .int .i64 0, .slice none 0 0] := heap_alloc_new X _
            have HA1 := Lib.hid hA1
            have HA2 := Lib.hid hA2
            have N2 := Lib.hid n1
            clear hA1 hA2 n1
            have t0 := World.new_ne X _ y4
            have t1 := World.new_ne X _ y1
            go_region_held3 (fun w' => w'.cell? ⟨h, 2, none⟩ = some (.int .i64 1) ∧ w'.cell? ⟨w.heap.size, 1, none⟩ = some (.int .i64 id)) (go_keep) (first
              | (go_at_call 39; ((with_reducible refine (F1.out _ HA1.out).mono ?_); rintro e w4 ⟨D3, k3, d3, rfl, bb, v4, v1, z4, b4, c9⟩; have p0 := b4.cell 0; have p1 := b4.cell 1; have p2 := b4.cell 2; have q0 := b4.frozen 0; have q1 := b4.frozen 1; have q2 := b4.frozen 2; have t5 := World.new_ne w4 _ p0; have t2 := World.new_ne w4 _ v4; have t3 := World.new_ne w4 _ v1; have C9 := Lib.hid c9; have B4 := Lib.hid b4; have HS4 := Lib.hid (Nat.le_trans HA1.out.size bb.size); clear c9 b4 bb))
              | (go_at_call 39; ((with_reducible refine (F1.out _ HA2.out).mono ?_); rintro e w4 ⟨D3, k3, d3, rfl, bb, v4, v1, z4, b4, c9⟩; have n2 := (bb.block _ (Blk.lt N2.out)).trans N2.out; have r0 := Blk.cell n2 0; have r1 := Blk.cell n2 1; have r2 := Blk.cell n2 2; have g0 := Blk.frozen n2 0; have g1 := Blk.frozen n2 1; have g2 := Blk.frozen n2 2; have p0 := b4.cell 0; have p1 := b4.cell 1; have p2 := b4.cell 2; have q0 := b4.frozen 0; have q1 := b4.frozen 1; have q2 := b4.frozen 2; have t5 := World.new_ne w4 _ p0; have t2 := World.new_ne w4 _ v4; have t3 := World.new_ne w4 _ v1; have C9 := Lib.hid c9; have B4 := Lib.hid b4; have B5 := Lib.hid n2; clear c9 b4 bb n2)))
            all_goals
              go_wp2
              have hb4 := blk3 (x := .int .i64 2) (y := .int .i64 id) (z := .slice D3 k3 d3) B4.out
              have z0 := hb4.cell 0
              have z1 := hb4.cell 1
              have z2 := hb4.cell 2
              first
                | exact bodyPost_ret (v := .tuple #[.agg #[.int .i64 2, .int .i64 id, .slice D3 k3 d3], .bool true, .int .i64 0]) (by simp [results, Try.results14, go_sem, *]) rfl (C9.out w4 _ w4.heap.size (HS4.out) (.inr (Nat.le_refl _)) (below_only (Below.refl _ _)) (gtrans' (gset3 _ _ _ _ _) (below_only ((Below.refl _ _).alloc (Nat.le_refl _) _))))
                | exact bodyPost_ret (v := .tuple #[.agg #[.int .i64 2, .int .i64 id, .slice D3 k3 d3], .bool true, .int .i64 0]) (by simp [results, Try.results14, go_sem, *]) rfl (C9.out _ _ X.heap.size (Nat.le_refl _) (.inl (by simp)) (gset3 _ _ _ _ _) (gset3 _ _ _ _ _))
        · have htv2 : takeV name ss none code id l = some (false, ⟨#[]⟩) := by simpa [h0] using htv
          have HTV := Lib.hid htv2
          clear htv2
          have e0 : (cd == 0) = false := by simpa using h0
          clear htv hb h0
          go_enter Try.func14, Try.ntmps14
          go_upto_region 6 with (first
            | (rw [HV.out])
            | (go_at_call 38; ((with_reducible refine C.out.mono ?_); rintro e w2 ⟨rfl, y4, f4, l4, U, hU, hA, hs⟩; have HU := Lib.hid hU; have CC := Lib.hid (CK.out U hA hs); have u0 : U.cell? ⟨h, 0, none⟩ = some (.string name) := Blk.cell (show Blk U h 47 _ from hA.sv) 0; have u1 : U.cell? ⟨h, 1, none⟩ = some (.slice A n c) := Blk.cell (show Blk U h 47 _ from hA.sv) 1; clear hA hU hs CK C))
            | (rw [HU.out]))
          go_region_held3 (fun w' => w'.cell? ⟨h, 0, none⟩ = some (.string name) ∧ w'.cell? ⟨h, 1, none⟩ = some (.slice A n c)) (go_keep) (first
            | (go_at_call 32; (with_reducible refine (NM.out _).mono ?_); rintro e w' ⟨rfl, rfl⟩)
            | (go_at_call 29; (with_reducible refine CC.out.mono ?_); rintro e w3 ⟨rfl, a0, a1, a2, a3, a4, a5, a6, hA, -⟩; have HAN := Lib.hid hA; clear hA))
          all_goals
            go_upto_region 12 with (fail)
            clear a0 a1 a2 a3 a4 a5 a6
            have F1 : Hid (∀ Wb, Below w3.heap.size w3 Wb → RAnsC w w3 h name A n c ss none code id l false 3 2 Wb) := fun Wb hWb => rfin HE.out HTV.out HAN.out Wb hWb
            unfold RAnsC at F1
            rw [show saidB false = ⟨#[114, 101, 102, 117, 115, 101, 100]⟩ from rfl] at F1
            have rr := HAN.out.rs.cell 0
            have tr := World.new_ne w3 _ rr
            have y4 : w3.cell? ⟨h, 2, none⟩ = some (.int .i64 2) := Blk.cell (show Blk w3 h 47 _ from HAN.out.sv) 2
            have y1 := HAN.out.pk.cell 1
            have hA1 : Below w3.heap.size w3 w3.drew := below_drewS (Below.refl _ _) 1
            have hA2 : Below w3.heap.size w3 (w3.alloc (.cells #[.int .i64 0, .int .i64 0, .slice none 0 0] 38)).drew := below_drewS ((Below.refl _ _).alloc (Nat.le_refl _) _) 1
            have n1 : Blk (w3.alloc (.cells #[.int .i64 0, .int .i64 0, .slice none 0 0] 38)).drew w3.heap.size 38 [.int .i64 0, .int .i64 0, .slice none 0 0] := heap_alloc_new w3 _
            have HA1 := Lib.hid hA1
            have HA2 := Lib.hid hA2
            have N2 := Lib.hid n1
            clear hA1 hA2 n1
            have t0 := World.new_ne w3 _ y4
            have t1 := World.new_ne w3 _ y1
            go_region_held3 (fun w' => w'.cell? ⟨h, 2, none⟩ = some (.int .i64 2) ∧ w'.cell? ⟨w.heap.size, 1, none⟩ = some (.int .i64 id)) (go_keep) (first
              | (go_at_call 39; ((with_reducible refine (F1.out _ HA1.out).mono ?_); rintro e w4 ⟨D3, k3, d3, rfl, bb, v4, v1, z4, b4, c9⟩; have p0 := b4.cell 0; have p1 := b4.cell 1; have p2 := b4.cell 2; have q0 := b4.frozen 0; have q1 := b4.frozen 1; have q2 := b4.frozen 2; have t5 := World.new_ne w4 _ p0; have t2 := World.new_ne w4 _ v4; have t3 := World.new_ne w4 _ v1; have C9 := Lib.hid c9; have B4 := Lib.hid b4; have HS4 := Lib.hid (Nat.le_trans HA1.out.size bb.size); clear c9 b4 bb))
              | (go_at_call 39; ((with_reducible refine (F1.out _ HA2.out).mono ?_); rintro e w4 ⟨D3, k3, d3, rfl, bb, v4, v1, z4, b4, c9⟩; have n2 := (bb.block _ (Blk.lt N2.out)).trans N2.out; have r0 := Blk.cell n2 0; have r1 := Blk.cell n2 1; have r2 := Blk.cell n2 2; have g0 := Blk.frozen n2 0; have g1 := Blk.frozen n2 1; have g2 := Blk.frozen n2 2; have p0 := b4.cell 0; have p1 := b4.cell 1; have p2 := b4.cell 2; have q0 := b4.frozen 0; have q1 := b4.frozen 1; have q2 := b4.frozen 2; have t5 := World.new_ne w4 _ p0; have t2 := World.new_ne w4 _ v4; have t3 := World.new_ne w4 _ v1; have C9 := Lib.hid c9; have B4 := Lib.hid b4; have B5 := Lib.hid n2; clear c9 b4 bb n2)))
            all_goals
              go_wp2
              have hb4 := blk3 (x := .int .i64 3) (y := .int .i64 id) (z := .slice D3 k3 d3) B4.out
              have z0 := hb4.cell 0
              have z1 := hb4.cell 1
              have z2 := hb4.cell 2
              first
                | exact bodyPost_ret (v := .tuple #[.agg #[.int .i64 3, .int .i64 id, .slice D3 k3 d3], .bool true, .int .i64 0]) (by simp [results, Try.results14, go_sem, *]) rfl (C9.out w4 _ w4.heap.size (HS4.out) (.inr (Nat.le_refl _)) (below_only (Below.refl _ _)) (gtrans' (gset3 _ _ _ _ _) (below_only ((Below.refl _ _).alloc (Nat.le_refl _) _))))
                | exact bodyPost_ret (v := .tuple #[.agg #[.int .i64 3, .int .i64 id, .slice D3 k3 d3], .bool true, .int .i64 0]) (by simp [results, Try.results14, go_sem, *]) rfl (C9.out _ _ w3.heap.size (Nat.le_refl _) (.inl (by simp)) (gset3 _ _ _ _ _) (gset3 _ _ _ _ _))
  · have C : Hid (Calls Try.prog 38 #[.agg #[.int .i64 code, .int .i64 id, .slice D k d]] V fun e w2 => e = .returned (.tuple #[.string cl, .string word, .int .i64 (rqE code id l)]) ∧ Blk w2 (w.heap.size + 1) 38 [.int .i64 0, .int .i64 0, .slice none 0 0] ∧
        RTakeR w h name A n c ss v code id l (.returned (.tuple #[.agg #[.int .i64 0, .int .i64 0, .slice none 0 0], .bool false, .int .i64 (rqE code id l)])) (((w2.setCell ⟨w.heap.size + 1, 0, none⟩ (.int .i64 0)).setCell ⟨w.heap.size + 1, 1, none⟩ (.int .i64 0)).setCell ⟨w.heap.size + 1, 2, none⟩ (.slice none 0 0))) := by
      refine RQ.mono ?_
      rintro e w2 ⟨rfl, b2⟩
      have z2 := b2.size
      have BB := (((hBV.trans (b2.mono (by omega))).setCell (p := ⟨w.heap.size + 1, 0, none⟩) (by show _ ≤ w.heap.size + 1; omega) (.int .i64 0)).setCell (p := ⟨w.heap.size + 1, 1, none⟩) (by show _ ≤ w.heap.size + 1; omega) (.int .i64 0)).setCell (p := ⟨w.heap.size + 1, 2, none⟩) (by show _ ≤ w.heap.size + 1; omega) (.slice none 0 0)
      refine ⟨by rw [hcl, hword], (b2.block _ (by omega)).trans h1, below_only BB, ?_, .inl ⟨he, rfl⟩⟩
      unfold takeV
      rw [if_neg he]
      exact (BB.block _ hgl).trans hv
    obtain ⟨er, her⟩ : ∃ er, rqE code id l = er := ⟨_, rfl⟩
    rw [her] at C he
    have e1 : (er != 0) = true := by simpa using he
    clear RQ hv hV hcl hword her hr h0 h1 hBV hsec
    go_enter Try.func14, Try.ntmps14
    go_wp2_with (first
      | (rw [HV.out])
      | (go_at_call 38; ((with_reducible refine C.out.mono ?_); rintro e w2 ⟨rfl, b1, t1⟩; have r0 := b1.cell 0; have r1 := b1.cell 1; have r2 := b1.cell 2; have g0 := b1.frozen 0; have g1 := b1.frozen 1; have g2 := b1.frozen 2; have B1 := Lib.hid b1; have T1 := Lib.hid t1; clear b1 t1)))
    have hb4 := blk3 (x := .int .i64 0) (y := .int .i64 0) (z := .slice none 0 0) B1.out
    have z0 := hb4.cell 0
    have z1 := hb4.cell 1
    have z2 := hb4.cell 2
    exact bodyPost_ret (v := .tuple #[.agg #[.int .i64 0, .int .i64 0, .slice none 0 0], .bool false, .int .i64 er]) (by simp [results, Try.results14, go_sem, *]) rfl T1.out
end Go.Proofs.Ytglboagjmbjehaa
