/-
  Ipv6cpJudges: the reference's Read; the law's calls.
-/
import Derived.Test.YtciijnhagdfpiaaI6RJudge
import Derived.Test.YtciijnhagdfpiaaI6Ends
import Derived.Test.YtciijnhagdfpiaaOpRFits
import Derived.Test.YtciijnhagdfpiaaOSpoil
import Derived.Test.YtciijnhagdfpiaaOpLArg
namespace Go.Proofs.Ytciijnhagdfpiaa
open Go.RowKit
set_option maxRecDepth 100000
set_option maxHeartbeats 4000000
set_option linter.unusedSimpArgs false
set_option linter.unusedVariables false

def rd6 : List Opt → Int × Bool × Int
  | [] => (0, false, 0)
  | [o] => if rgt o then (num o.2 8, true, 0) else (0, false, 91)
  | _ => (0, false, 91)
theorem rd6_one (o : Opt) : rd6 [o] = if rgt o then (num o.2 8, true, 0) else (0, false, 91) := rfl
def rd6V (s : List Opt) : Value := .tuple #[.int .u64 (rd6 s).1, .bool (rd6 s).2.1, .int .i64 (rd6 s).2.2]
theorem rread6_any (A : Option Addr) (n c B : Nat) (s : List Opt) (w : World) (hr : OptRd w B A n s) (hB : B ≤ w.heap.size) (hn : n ≤ 4398046511103) :
    Calls Try.prog 13 #[.slice A n c] w fun e w' => e = .returned (rd6V s) ∧ Below w.heap.size w w' := by
  obtain rfl := hr.1
  have HB0 := Lib.hid (Below.refl w.heap.size w)
  rcases s with _ | ⟨o, _ | ⟨o2, s⟩⟩
  · clear hr
    go_enter Try.func13, Try.ntmps13
    go_wp2
    exact bodyPost_ret (v := .tuple #[.int .u64 0, .bool false, .int .i64 0]) (by simp [results, Try.results13, go_sem]) rfl ⟨rfl, HB0.out⟩
  · obtain ⟨b, off, rfl, hb, hc⟩ := hr.2 (by simp)
    obtain ⟨x1, E, kk, cc, x2, hRd, -⟩ := hc 0 (by simp)
    obtain ⟨K, l⟩ := o
    have hl : l.length = kk := hRd.1
    have d1 : w.cell? ⟨b, off, none⟩ = some (.int .i64 K) := x1
    have d2 : w.cell? ⟨b, off + 1, none⟩ = some (.slice E kk cc) := x2
    have hl1 : ([(K, l)] : List Opt).length = 1 := rfl
    rw [hl1]
    by_cases h1 : K = 1
    · by_cases h8 : kk = 8
      · subst h8
        have e1 : (K != 1) = false := by simp [h1]
        have HV : Hid (rd6 [(K, l)] = (num l 8, true, 0)) := by show _ = _; rw [rd6_one, if_pos (by unfold rgt; simp [h1, hl])]
        have NM := Lib.hid (inumber_any K E cc B l w hRd hB)
        clear hc x1 x2 hRd hr h1 hl hl1
        go_enter Try.func13, Try.ntmps13
        go_wp2_with (go_at_call 36; (with_reducible refine NM.out.mono ?_); rintro e w3 ⟨rfl, h3⟩; have H3 := Lib.hid h3; clear h3)
        exact bodyPost_ret (v := .tuple #[.int .u64 (num l 8), .bool true, .int .i64 0]) (by simp [results, Try.results13, go_sem]) rfl ⟨by unfold rd6V; rw [HV.out], H3.out⟩
      · have e1 : (K != 1) = false := by simp [h1]
        have e2 : (((kk : Nat) : Int) != 8) = true := by simp; omega
        have HV : Hid (rd6 [(K, l)] = (0, false, 91)) := by show _ = _; rw [rd6_one, if_neg (by unfold rgt; simp [h1]; omega)]
        clear hc x1 x2 hRd hr h1 hl hl1 h8
        go_enter Try.func13, Try.ntmps13
        go_wp2
        exact bodyPost_ret (v := .tuple #[.int .u64 0, .bool false, .int .i64 91]) (by simp [results, Try.results13, go_sem]) rfl ⟨by unfold rd6V; rw [HV.out], HB0.out⟩
    · have e1 : (K != 1) = true := by simpa using h1
      have HV : Hid (rd6 [(K, l)] = (0, false, 91)) := by show _ = _; rw [rd6_one, if_neg (by unfold rgt; simp [h1])]
      clear hc x1 x2 hRd hr h1 hl hl1
      go_enter Try.func13, Try.ntmps13
      go_wp2
      exact bodyPost_ret (v := .tuple #[.int .u64 0, .bool false, .int .i64 91]) (by simp [results, Try.results13, go_sem]) rfl ⟨by unfold rd6V; rw [HV.out], HB0.out⟩
  · obtain ⟨n, hn2⟩ : ∃ n, (o :: o2 :: s).length = n := ⟨_, rfl⟩
    have hgt : 1 < n := by rw [← hn2]; simp
    rw [hn2]
    have HV : Hid (rd6 (o :: o2 :: s) = (0, false, 91)) := rfl
    clear hr hn2 hn
    go_enter Try.func13, Try.ntmps13
    go_wp2
    exact bodyPost_ret (v := .tuple #[.int .u64 0, .bool false, .int .i64 91]) (by simp [results, Try.results13, go_sem]) rfl ⟨by unfold rd6V; rw [HV.out], HB0.out⟩
theorem pick_sub (q : Nat → Bool) : ∀ (s t : List Opt) (k : Nat), k ≤ s.length → (pick q s k).Sublist (s.take k)
  | s, t, 0, _ => by simp [pick]
  | s, t, k + 1, h => by
    rw [pick_step q s k (by omega), List.take_succ_eq_append_getElem (by omega)]
    refine (pick_sub q s t k (by omega)).append ?_
    split
    · exact List.Sublist.refl _
    · exact List.nil_sublist _
theorem jd_fits {mf mine naks draw : Int} {s L : List Opt} {k : Int} {R : Bool} (h : (k, L) = jd6 mf mine s naks draw) (hR : R = true ↔ Srt s L) : fitB k s L R = true ∧ fitE k = 0 := by
  unfold jd6 at h
  split at h
  · rename_i h1
    injection h with hk hL
    subst hk hL
    have hs : (rfL mine s).Sublist s := by
      have := pick_sub (rfQ mine s) s s s.length (Nat.le_refl _)
      rwa [List.take_length] at this
    unfold fitB fitE
    simp [eat_all _ _ hs, List.length_pos_iff.2 h1]
  · split at h
    · injection h with hk hL
      subst hk hL
      have : R = true := hR.2 (fun j hj => by simp at hj)
      unfold fitB fitE
      simp [this]
    · split at h
      · rename_i h1
        injection h with hk hL
        subst hk hL
        have hs : (tkL mine s).Sublist s := by
          have := pick_sub (tkQ mine s) s s s.length (Nat.le_refl _)
          rwa [List.take_length] at this
        unfold fitB fitE
        simp [eat_all _ _ hs, List.length_pos_iff.2 h1]
      · injection h with hk hL
        subst hk hL
        unfold fitB fitE
        simp
theorem jd_read {mf mine naks draw : Int} {s L : List Opt} (h : ((2 : Int), L) = jd6 mf mine s naks draw) (hs : s ≠ []) : ∃ x, rd6 s = (x, true, 0) ∧ x ≠ 0 ∧ x ≠ mine := by
  unfold jd6 at h
  split at h
  · injection h with hk _; cases hk
  · rename_i h1
    have h1 : rfL mine s = [] := by simpa using h1
    split at h
    · injection h with hk _; cases hk
    · split at h
      · injection h with hk _; cases hk
      · rename_i h3
        have h3 : tkL mine s = [] := by simpa using h3
        have hfew := rf_few h1
        rcases s with _ | ⟨o, _ | ⟨o2, s⟩⟩
        · exact absurd rfl hs
        · have hno := pick_nil h1 0 (by simp)
          have hrg : rgt o = true := (not_refused hno).2
          rw [tk_one] at h3
          have htk : ¬ tkB mine o = true := fun e => by rw [if_pos e] at h3; cases h3
          unfold tkB at htk
          refine ⟨num o.2 8, ?_, fun e => htk (by simp [e]), fun e => htk (by simp [e])⟩
          show (if rgt o then (num o.2 8, true, 0) else (0, false, 91)) = _
          rw [if_pos hrg]
        · simp at hfew
def RowAt (W : World) (z : Nat) (cv : Array Value) : Prop := W.heap[z]? = some (.cells cv 26 (0, 0))
theorem RowAt.on {W V : World} {z : Nat} {cv : Array Value} (h : RowAt W z cv) (hb : Below W.heap.size W V) : RowAt V z cv := by
  unfold RowAt at h ⊢
  rw [hb.block z (Array.getElem?_eq_some_iff.1 h).1]
  exact h
theorem jd_bytes {mf mine naks draw : Int} {s L : List Opt} {k : Int} (h : (k, L) = jd6 mf mine s naks draw) (hs : ∀ o ∈ s, o.2.length ≤ 140737488351232) (hl : s.length ≤ 300) : (∀ o ∈ L, o.2.length ≤ 140737488351232) ∧ L.length ≤ 301 := by
  have sub : ∀ q, (∀ o ∈ pick q s s.length, o.2.length ≤ 140737488351232) ∧ (pick q s s.length).length ≤ 301 := fun q => by
    have h1 := pick_sub q s s s.length (Nat.le_refl _)
    rw [List.take_length] at h1
    exact ⟨fun o ho => hs o (h1.mem ho), by have := h1.length_le; omega⟩
  unfold jd6 at h
  split at h
  · injection h with _ hL; subst hL; exact sub _
  · split at h
    · injection h with _ hL; subst hL
      refine ⟨fun o ho => ?_, by simp⟩
      simp at ho
      subst ho
      show (putB _ 8).length ≤ _
      rw [putB_length]; omega
    · split at h
      · injection h with _ hL; subst hL; exact sub _
      · injection h with _ hL; subst hL; exact ⟨hs, by omega⟩
/-- the law's calls, one behind the other -/
def JgC (w W1 : World) (cv : Array Value) (mine naks draw : Int) (s : List Opt) (A : Option Addr) (n c : Nat) (k : Int) : Prop :=
  Calls Try.prog 12 #[.slice A n c] W1 fun e V1 => ∃ F f, e = .returned (.slice F n f) ∧ Hid (RowAt V1 w.heap.size cv) ∧
    Hid (Calls Try.prog 17 #[.agg cv, .int .u64 mine, .slice F n f, .int .i64 naks, .int .u64 draw] V1 fun e V2 => ∃ X m x, e = .returned (.tuple #[.int .i64 k, .slice X m x]) ∧ Hid (RowAt V2 w.heap.size cv) ∧
      Hid (Calls Try.prog 18 #[.agg cv, .int .u64 mine, .slice A n c, .int .i64 naks, .int .u64 draw] V2 fun e V3 => ∃ Y y, e = .returned (.tuple #[.int .i64 k, .slice Y m y]) ∧
        Hid (Calls Try.prog 8 #[.slice X m x, .slice Y m y] V3 fun e V4 => e = .returned (.bool true) ∧
          Hid (Calls Try.prog 19 #[.int .i64 k, .slice A n c, .slice X m x] V4 fun e V5 => e = .returned (.tuple #[.bool true, .int .i64 0]) ∧
            Hid (Calls Try.prog 13 #[.slice A n c] V5 fun e V6 => e = .returned (rd6V s) ∧ Hid (Calls Try.prog 11 #[.slice X m x] V6 fun e V7 => e = .returned (.tuple #[]) ∧
              Hid (Calls Try.prog 8 #[.slice F n f, .slice A n c] V7 fun e V8 => e = .returned (.bool true) ∧ Hid (Below w.heap.size w V8)))) ∧
            Hid (Calls Try.prog 11 #[.slice X m x] V5 fun e V7 => e = .returned (.tuple #[]) ∧
              Hid (Calls Try.prog 8 #[.slice F n f, .slice A n c] V7 fun e V8 => e = .returned (.bool true) ∧ Hid (Below w.heap.size w V8)))))))
theorem jg_calls {w W1 : World} {cv : Array Value} {id mf mine naks draw : Int} {s L : List Opt} {A : Option Addr} {n c : Nat} {k : Int} (hc : ConfI cv id mf) (hd : In64 draw) (hr : OptRd w w.heap.size A n s) (hn : n ≤ 300) (hB1 : Below w.heap.size w W1) (hrow : RowAt W1 w.heap.size cv) (hj : (k, L) = jd6 mf mine s naks draw) : JgC w W1 cv mine naks draw s A n c k := by
  unfold JgC
  obtain rfl := hr.1
  have hby := jd_bytes hj hr.bytes hn
  have s1 := hB1.size
  refine (olent_any A s.length c W1.heap.size s W1 ((hr.below hB1 (Nat.le_refl _)).wide s1) (Nat.le_refl _) (by omega)).mono ?_
  rintro e V1 ⟨F, f, rfl, ho, b1⟩
  have t1 := b1.size
  have C1 := hB1.trans (b1.mono s1)
  refine ⟨F, f, rfl, hrow.on b1, Lib.hid ?_⟩
  obtain ⟨F', f', e1, hrd, _⟩ := ho.rd hr.bytes
  injection e1 with e1 _ e3
  subst e1 e3
  refine (judge6_any cv id mf mine F s.length f V1.heap.size s naks draw V1 hc hd hrd (Nat.le_refl _) (by omega)).mono ?_
  rintro e V2 ⟨X, m, x, k', L', rfl, hj', hm, ho2, b2⟩
  rw [← hj] at hj'
  injection hj' with e1 e2
  subst e1 e2 hm
  have t2 := b2.size
  have C2 := C1.trans (b2.mono (by omega))
  refine ⟨X, L'.length, x, rfl, (hrow.on b1).on b2, Lib.hid ?_⟩
  refine (rjudge_loop cv id mf mine A s.length c w.heap.size s naks draw V2 hc hd (hr.below C2 (Nat.le_refl _)) (by omega) (by omega)).mono ?_
  rintro e V3 ⟨Y, m', y, k2, L2, rfl, hj2, hm2, ho3, b3⟩
  rw [← hj] at hj2
  injection hj2 with e1 e2
  subst e1 e2 hm2
  have t3 := b3.size
  have C3 := C2.trans (b3.mono (by omega))
  refine ⟨Y, y, rfl, Lib.hid ?_⟩
  have ho2' := ho2.later b3
  obtain ⟨X', x', e1, hrx, _⟩ := ho2'.rd hby.1
  injection e1 with e1 _ e3
  subst e1 e3
  obtain ⟨Y', y', e1, hry, _⟩ := ho3.rd hby.1
  injection e1 with e1 _ e3
  subst e1 e3
  refine (rsame_any X Y L2.length L2.length x y V3.heap.size L2 L2 V3 hrx hry (Nat.le_refl _) (by omega) (by omega)).mono ?_
  rintro e V4 ⟨rfl, b4⟩
  have t4 := b4.size
  have C4 := C3.trans (b4.mono (by omega))
  refine ⟨by simp, Lib.hid ?_⟩
  obtain ⟨R, hR⟩ : ∃ R : Bool, R = true ↔ Srt s L2 := by
    by_cases h : Srt s L2
    · exact ⟨true, ⟨fun _ => h, fun _ => rfl⟩⟩
    · exact ⟨false, ⟨fun e => (by cases e), fun e => absurd e h⟩⟩
  have hfit := jd_fits hj hR
  refine (rfits_any k2 A X s.length c L2.length x V4.heap.size s L2 R hR V4 ((hr.below C4 (Nat.le_refl _)).wide C4.size) (hrx.below b4 (Nat.le_refl _) |>.wide t4) (Nat.le_refl _) (by omega) (by omega)).mono ?_
  rintro e V5 ⟨rfl, b5⟩
  rw [hfit.1, hfit.2]
  have t5 := b5.size
  have C5 := C4.trans (b5.mono (by omega))
  have SP : ∀ W, Below V5.heap.size V5 W → Calls Try.prog 11 #[.slice X L2.length x] W fun e V7 => e = .returned (.tuple #[]) ∧ Hid (Calls Try.prog 8 #[.slice F s.length f, .slice A s.length c] V7 fun e V8 => e = .returned (.bool true) ∧ Hid (Below w.heap.size w V8)) := by
    intro W hW
    have tw := hW.size
    have hoW := ((ho2'.later b4).later b5).later hW
    have hs := hoW.owns (fun o h => by have := hby.1 o h; omega)
    refine (ospoil_any _ L2.length V1.heap.size W hs (by omega) (by omega)).mono ?_
    rintro e V7 ⟨rfl, b7⟩
    have t7 := b7.size
    have b17 : Below V1.heap.size V1 W := b2.trans ((b3.mono t2).trans ((b4.mono (by omega)).trans ((b5.mono (by omega)).trans (hW.mono (by omega)))))
    have D7 := b17.trans b7
    have C7 : Below w.heap.size w V7 := C1.trans (D7.mono (by omega))
    refine ⟨rfl, Lib.hid ?_⟩
    have hd7 := D7.size
    refine (rsame_any F A s.length s.length f c V7.heap.size s s V7 ((hrd.below D7 (Nat.le_refl _)).wide hd7) ((hr.below C7 (Nat.le_refl _)).wide C7.size) (Nat.le_refl _) (by omega) (by omega)).mono ?_
    rintro e V8 ⟨rfl, b8⟩
    exact ⟨by simp, Lib.hid (C7.trans (b8.mono C7.size))⟩
  refine ⟨rfl, Lib.hid ((rread6_any A s.length c w.heap.size s V5 (hr.below C5 (Nat.le_refl _)) C5.size (by omega)).mono ?_), Lib.hid (SP V5 (Below.refl _ _))⟩
  rintro e V6 ⟨rfl, b6⟩
  exact ⟨rfl, Lib.hid (SP V6 b6)⟩
end Go.Proofs.Ytciijnhagdfpiaa
