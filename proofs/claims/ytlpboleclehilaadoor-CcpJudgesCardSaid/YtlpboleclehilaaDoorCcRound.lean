/-
  ccp.Want; ccp.Judge: a round's calls as one chain; ccp.clone.
-/
import Derived.Test.YtlpboleclehilaaDoorCcRows
import Derived.Test.YtlpboleclehilaaDoorCcOpts
namespace Go.Proofs.YtlpboleclehilaaDoor
open Go.RowKit
set_option maxRecDepth 100000
set_option maxHeartbeats 4000000
set_option linter.unusedSimpArgs false
set_option linter.unusedVariables false

def ConfC (cv : Array Value) (D B mf : Int) : Prop := cv.size = 33 ∧ cv[16]? = some (.int .i64 D) ∧ cv[17]? = some (.int .i64 B) ∧ cv[21]? = some (.int .i64 mf)
theorem want_ccp (cv : Array Value) (D B mf : Int) (w : World) (hc : ConfC cv D B mf) : Calls Tryd.prog 19 #[.agg cv] w fun e w' => e = .returned (.agg #[.int .i64 D, .int .i64 B]) ∧ Below w.heap.size w w' := by
  obtain ⟨W1, hW1⟩ : ∃ W1, w.alloc (.cells cv 25) = W1 := ⟨_, rfl⟩
  have k1 : Blk W1 w.heap.size 25 cv.toList := by rw [← hW1]; exact blk_new w _ _
  have B1 : Below w.heap.size w W1 := by rw [← hW1]; exact (Below.refl _ _).alloc (Nat.le_refl _) _
  have s1 : W1.heap.size = w.heap.size + 1 := by rw [← hW1]; simp
  obtain ⟨W2, hW2⟩ : ∃ W2, W1.alloc (.cells #[.int .i64 D, .int .i64 B] 27) = W2 := ⟨_, rfl⟩
  have k2 : Blk W2 (w.heap.size + 1) 27 [.int .i64 D, .int .i64 B] := by rw [← hW2, ← s1]; exact blk_new W1 _ _
  have B2 : Below W1.heap.size W1 W2 := by rw [← hW2]; exact (Below.refl _ _).alloc (Nat.le_refl _) _
  have c16 : W1.cell? ⟨w.heap.size, 16, none⟩ = some (.int .i64 D) := by rw [k1.cell 16, Array.getElem?_toList]; exact hc.2.1
  have c17 : W1.cell? ⟨w.heap.size, 17, none⟩ = some (.int .i64 B) := by rw [k1.cell 17, Array.getElem?_toList]; exact hc.2.2.1
  have HW := Lib.hid hW1
  have HB := Lib.hid (B1.trans (B2.mono (by omega)))
  have e0 : (W1.alloc (.cells #[.int .i64 D, .int .i64 B] 27)).cell? ⟨w.heap.size + 1, 0, none⟩ = some (.int .i64 D) := by rw [hW2]; exact k2.cell 0
  have e1 : (W1.alloc (.cells #[.int .i64 D, .int .i64 B] 27)).cell? ⟨w.heap.size + 1, 1, none⟩ = some (.int .i64 B) := by rw [hW2]; exact k2.cell 1
  rw [← hW2] at HB
  clear k1 B1 hW1 k2 B2 hW2
  go_enter Tryd.func19, Tryd.ntmps19
  go_wp2_with (rw [HW.out])
  exact bodyPost_ret (v := .agg #[.int .i64 D, .int .i64 B]) (by simp [results, Tryd.results19, go_sem, e0, e1]) rfl ⟨rfl, HB.out⟩
theorem woo_nil (s : List Opt) : woo [] s = s := by
  unfold woo
  simp
theorem ccpclone_any (A : Option Addr) (n c B : Nat) (s : List Opt) (w : World) (hr : OptRd w B A n s) (hB : B ≤ w.heap.size) (hn : n ≤ 4398046511103) :
    Calls Tryd.prog 30 #[.slice A n c] w fun e w' => ∃ F f, e = .returned (.slice F n f) ∧ OwnL w' w.heap.size (.slice F n f) s ∧ Below w.heap.size w w' := by
  have WO : Hid (Calls Tryd.prog 47 #[.slice A n c, .slice none 0 0] w fun e w' => ∃ F f, e = .returned (.slice F n f) ∧ OwnL w' w.heap.size (.slice F n f) s ∧ Below w.heap.size w w') := by
    refine (without_any A n c B s none 0 0 [] w hr hB hn RdI.nil (by omega)).mono ?_
    rintro e w' ⟨v, rfl, ho, hb⟩
    rw [woo_nil] at ho
    obtain ⟨F, f, rfl⟩ := ho.shape
    have := hr.1
    rw [this] at ho ⊢
    exact ⟨F, f, rfl, ho, hb⟩
  clear hr hB hn
  go_enter Tryd.func30, Tryd.ntmps30
  go_wp2_with (go_at_call 47; ((with_reducible refine WO.out.mono ?_); rintro e w' ⟨F, f, rfl, ho, hb⟩; have HO := Lib.hid (And.intro ho hb); clear ho hb))
  go_ret
  exact ⟨F, f, rfl, HO.out⟩

section
variable {w V V' : World} {x : CC} {cv : Array Value} {D B : Int} {a b c : Value} {R S N : List Opt}
/-- the round's world where the option is refused -/
def CRef (w V : World) (x : CC) (cv : Array Value) (D B : Int) (a b c : Value) (R S N : List Opt) (zb : Nat) (K : Int) (E : Option Addr) (kk d : Nat) (l : List UInt8) : Prop :=
  (V.cell? ⟨zb, 0, none⟩ = some (.int .i64 K) ∧ V.cell? ⟨zb, 1, none⟩ = some (.slice E kk d)) ∧
    ∃ A n q w', Hid ((Builtin.append_ #[28, 28] 28 #[a, .slice (some ⟨V.heap.size, 0, none⟩) 1 1]).run Tryd.prog (V.alloc (.cells #[.int .i64 K, .slice E kk d] 61)) = .ok (.slice A n q) w') ∧ n = (R ++ [(K, l)]).length ∧ Hid (CJ w w' x cv D B (.slice A n q) b c (R ++ [(K, l)]) S N)
theorem CJ.ref (h : CJ w V x cv D B a b c R S N) (hx : x.ok w.heap.size) (zb : Nat) (K : Int) (E : Option Addr) (kk d : Nat) (l : List UInt8) (hb : Blk V zb 61 [.int .i64 K, .slice E kk d]) (hr : Rd V w.heap.size E kk l) (hE : E = none → d = 0) (hkc : kk ≤ d) (hk : kk ≤ 140737488351232) (hn : R.length < 4398046511104) :
    CRef w V x cv D B a b c R S N zb K E kk d l := by
  obtain ⟨a', w', h1, h2⟩ := h.refuse hx K E kk d l hr hE hkc hk hn
  obtain ⟨A, q, rfl⟩ := h2.2.1.1.shape
  exact ⟨⟨hb.cell 0, hb.cell 1⟩, A, _, q, w', Lib.hid h1, rfl, Lib.hid h2⟩
/-- .. where it is told with another value -/
def COth (w V : World) (x : CC) (cv : Array Value) (D B : Int) (a b c : Value) (R S N : List Opt) (zb : Nat) (K : Int) (E : Option Addr) (kk d : Nat) (l : List UInt8) (most : Int) : Prop :=
  ∃ A n q w', Hid ((Builtin.append_ #[28, 28] 28 #[b, .slice (some ⟨V.heap.size, 0, none⟩) 1 1]).run Tryd.prog (V.alloc (.cells #[.int .i64 K, .slice E kk d] 61)) = .ok (.slice A n q) w') ∧ n = (S ++ [(K, l)]).length ∧
    w'.cell? ⟨zb, 0, none⟩ = some (.int .i64 K) ∧ Hid (Calls Tryd.prog 29 #[.int .i64 K, .int .i64 most] w' fun e V6 => ∃ g p, e = .returned (.agg #[.int .i64 K, .slice (some ⟨g, 0, none⟩) p p]) ∧
      ∃ A2 n2 q2 w2, Hid ((Builtin.append_ #[28, 28] 28 #[c, .slice (some ⟨V6.heap.size, 0, none⟩) 1 1]).run Tryd.prog (V6.alloc (.cells #[.int .i64 K, .slice (some ⟨g, 0, none⟩) p p] 61)) = .ok (.slice A2 n2 q2) w2) ∧ n2 = (N ++ [(K, dat K most)]).length ∧
        Hid (CJ w w2 x cv D B a (.slice A n q) (.slice A2 n2 q2) R (S ++ [(K, l)]) (N ++ [(K, dat K most)])))
theorem CJ.oth (h : CJ w V x cv D B a b c R S N) (hx : x.ok w.heap.size) (zb : Nat) (K : Int) (E : Option Addr) (kk d : Nat) (l : List UInt8) (most : Int) (hb : Blk V zb 61 [.int .i64 K, .slice E kk d]) (hzb : b.ownBlock ≠ some zb)
    (hr : Rd V w.heap.size E kk l) (hE : E = none → d = 0) (hkc : kk ≤ d) (hk : kk ≤ 140737488351232) (hn : S.length < 4398046511104) (hn2 : N.length < 4398046511104) : COth w V x cv D B a b c R S N zb K E kk d l most := by
  obtain ⟨b', w', h1, h2, h3, h4, h5⟩ := h.stand hx K E kk d l hr hE hkc hk hn
  obtain ⟨A, q, rfl⟩ := h2.2.1.2.1.shape
  refine ⟨A, _, q, w', Lib.hid h1, rfl, (h4 zb _ hb hzb).cell 0, Lib.hid ((option_any K most w').mono ?_)⟩
  rintro e V6 ⟨g, rfl, ho, hb6⟩
  have h6 := h2.later hx hb6
  have hxb := h2.2.2.2.2
  obtain ⟨c', w2, g1, g2⟩ := h6.nak hx K (some ⟨g, 0, none⟩) (szK K) (szK K) (dat K most) (ho.base_le hxb) hn2
  obtain ⟨A2, q2, rfl⟩ := g2.2.1.2.2.shape
  exact ⟨g, szK K, rfl, A2, _, q2, w2, Lib.hid g1, rfl, Lib.hid g2⟩
/-- a round's calls -/
def CRound (w V : World) (x : CC) (cv : Array Value) (D B : Int) (a b c : Value) (R S N : List Opt) (K : Int) (E : Option Addr) (kk d : Nat) (l : List UInt8) : Prop :=
  Calls Tryd.prog 26 #[.pointer (some ⟨x.zl, 0, none⟩), .int .i64 K] (V.alloc (.cells #[.int .i64 K, .slice E kk d] 61)) fun e V2 => e = .returned (.int .i64 (tkV D B K)) ∧ (V2.cell? ⟨V.heap.size, 0, none⟩ = some (.int .i64 K) ∧ V2.cell? ⟨V.heap.size, 1, none⟩ = some (.slice E kk d)) ∧
    Hid (∀ n, CRef w (V2.drewN n) x cv (tkD D K) (tkB B K) a b c R S N V.heap.size K E kk d l) ∧
    Hid (Calls Tryd.prog 27 #[.int .i64 K] V2.drew fun e V3 => e = .returned (.int .i64 (szK K : Nat)) ∧ (V3.cell? ⟨V.heap.size, 0, none⟩ = some (.int .i64 K) ∧ V3.cell? ⟨V.heap.size, 1, none⟩ = some (.slice E kk d)) ∧
      Hid (CRef w V3 x cv (tkD D K) (tkB B K) a b c R S N V.heap.size K E kk d l) ∧
      Hid (Calls Tryd.prog 28 #[.agg #[.int .i64 K, .slice E kk d]] V3 fun e V4 => e = .returned (.int .i64 (says K l)) ∧ (V4.cell? ⟨V.heap.size, 0, none⟩ = some (.int .i64 K) ∧ V4.cell? ⟨V.heap.size, 1, none⟩ = some (.slice E kk d)) ∧
        Hid (CJ w V4 x cv (tkD D K) (tkB B K) a b c R S N) ∧ Hid (COth w V4 x cv (tkD D K) (tkB B K) a b c R S N V.heap.size K E kk d l (tkV D B K))))
theorem c_round (h : CJ w V x cv D B a b c R S N) (hx : x.ok w.heap.size) (K : Int) (E : Option Addr) (kk d : Nat) (l : List UInt8)
    (hr : Rd w w.heap.size E kk l) (hE : E = none → d = 0) (hkc : kk ≤ d) (hk : kk ≤ 140737488351232) (hnR : R.length < 4398046511104) (hnS : S.length < 4398046511104) (hnN : N.length < 4398046511104) :
    CRound w V x cv D B a b c R S N K E kk d l := by
  obtain ⟨W1, hW1⟩ : ∃ W1, W1 = V.alloc (.cells #[.int .i64 K, .slice E kk d] 61) := ⟨_, rfl⟩
  have B1 : Below V.heap.size V W1 := by rw [hW1]; exact (Below.refl _ _).alloc (Nat.le_refl _) _
  have s1 : W1.heap.size = V.heap.size + 1 := by rw [hW1]; simp
  have zb1 : Blk W1 V.heap.size 61 [.int .i64 K, .slice E kk d] := by rw [hW1]; exact blk_new V _ _
  have hs := h.2.2.2.2
  have hBw := h.2.2.2.1
  have hws := hBw.size
  have h1 := h.later hx B1
  have hbb : b.ownBlock ≠ some V.heap.size := fun e => by have := (h.2.1.2.1.block _ e).2; omega
  have hxl := hx.2.1.2
  unfold CRound
  rw [← hW1]
  clear hW1
  refine (take_any x.zl D B K W1 h1.1.2).mono ?_
  rintro e V2 ⟨rfl, hz, hg⟩
  have h2 := h1.met hx hg hz
  have s2 := hg.size
  have zb2 : Blk V2 V.heap.size 61 [.int .i64 K, .slice E kk d] := (hg.block _ zb1.lt (fun e => by injection e; omega)).trans zb1
  have Bw2 := h2.2.2.2.1
  have drew2 : ∀ n, Below V2.heap.size V2 (V2.drewN n) := fun n => below_drewN (Below.refl V2.heap.size V2) n
  refine ⟨rfl, ⟨zb2.cell 0, zb2.cell 1⟩, Lib.hid fun n => ?_, Lib.hid ?_⟩
  · exact (h2.later hx (drew2 n)).ref hx _ K E kk d l (((drew2 n).block _ zb2.lt).trans zb2) (hr.below (Bw2.trans ((drew2 n).mono Bw2.size))) hE hkc hk hnR
  · have h2d := h2.later hx (drew2 1)
    refine (size_any K V2.drew).mono ?_
    rintro e V3 ⟨rfl, hb3⟩
    have hb3' : Below V2.heap.size V2 V3 := below_undrew hb3
    have h3 := h2.later hx hb3'
    have zb3 := (hb3'.block _ zb2.lt).trans zb2
    have s3 := hb3'.size
    have Bw3 := h3.2.2.2.1
    have zb3 : Blk V3 V.heap.size 61 [.int .i64 K, .slice E kk d] := zb3
    refine ⟨rfl, ⟨zb3.cell 0, zb3.cell 1⟩, Lib.hid (h3.ref hx _ K E kk d l zb3 (hr.below Bw3) hE hkc hk hnR), Lib.hid ?_⟩
    refine (asked_any K E kk d w.heap.size l V3 (hr.below Bw3) Bw3.size hk).mono ?_
    rintro e V4 ⟨rfl, hb4⟩
    have h4 := h3.later hx hb4
    have zb4 : Blk V4 V.heap.size 61 [.int .i64 K, .slice E kk d] := (hb4.block _ zb3.lt).trans zb3
    have Bw4 := h4.2.2.2.1
    exact ⟨rfl, ⟨zb4.cell 0, zb4.cell 1⟩, Lib.hid h4, Lib.hid (h4.oth hx _ K E kk d l _ zb4 hbb (hr.below Bw4) hE hkc hk hnS hnN)⟩
end
end Go.Proofs.YtlpboleclehilaaDoor
