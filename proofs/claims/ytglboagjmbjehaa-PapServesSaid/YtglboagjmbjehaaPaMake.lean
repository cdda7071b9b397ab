/-
  pap: parts joined; Request, Answer.
-/
import Derived.Test.YtglboagjmbjehaaMdAppStr
import Derived.Test.YtglboagjmbjehaaSeName
import Derived.LoopTactic
import Derived.Deep.Light
import Derived.WalkKit
import Derived.Outline
namespace Go.Proofs.Ytglboagjmbjehaa
open Go.RowKit
set_option maxRecDepth 100000
set_option maxHeartbeats 4000000
set_option linter.unusedSimpArgs false
set_option linter.unusedVariables false

/-- a part: its size ahead -/
def ptL (s : ByteArray) : List UInt8 := UInt8.ofNat s.size :: s.data.toList
def jnL (l : List ByteArray) : List UInt8 := l.flatMap ptL
/-- words that are read -/
def StrRd (w : World) (B : Nat) (A : Option Addr) (n : Nat) (l : List ByteArray) : Prop :=
  l.length = n ∧ (0 < n → ∃ b off, A = some ⟨b, off, none⟩ ∧ b < B ∧ ∀ i s, l[i]? = some s → w.cell? ⟨b, off + i, none⟩ = some (.string s))
theorem StrRd.below {w w' : World} {B C n : Nat} {A : Option Addr} {l : List ByteArray} (h : StrRd w B A n l) (hb : Below C w w') (hB : B ≤ C) : StrRd w' B A n l := by
  refine ⟨h.1, fun h0 => ?_⟩
  obtain ⟨b, off, e, hl, hc⟩ := h.2 h0
  exact ⟨b, off, e, hl, fun i s hs => (hb.cell (p := ⟨b, off + i, none⟩) (by show b < C; omega)).trans (hc i s hs)⟩
theorem jn_len (l : List ByteArray) (h : ∀ s ∈ l, s.size ≤ 255) : (jnL l).length ≤ 256 * l.length := by
  unfold jnL
  induction l with
  | nil => simp
  | cons s l ih =>
    rw [List.flatMap_cons, List.length_append, List.length_cons]
    have h1 := ih fun x hx => h x (List.mem_cons_of_mem _ hx)
    have h2 := h s List.mem_cons_self
    have h3 : (ptL s).length = s.size + 1 := by unfold ptL; rw [List.length_cons]; rfl
    omega
theorem take_one' {α : Type} {l : List α} {k : Nat} {x : α} (h : l[k]? = some x) : l.take (k + 1) = l.take k ++ [x] := by
  rw [List.take_add_one, h]
  rfl
/-- one part more, in two appends -/
theorem part_run {w W : World} {v : Value} {l : List UInt8} (ho : Own w W.heap.size v l) (hB : Below W.heap.size W w) (s : ByteArray) (hs : s.size ≤ 255) (hl : l.length ≤ 300000) :
    ∃ A1 n1 c1 w1 A2 n2 c2 w2, (Builtin.append_ #[36, 36] 36 #[v, .slice (some ⟨w.heap.size, 0, none⟩) 1 1]).run Try.prog (w.alloc (.cells #[.int .u8 (s.size : Int)] 5)) = .ok (.slice A1 n1 c1) w1 ∧
      (Builtin.append_ #[36, 9] 36 #[.slice A1 n1 c1, .string s]).run Try.prog w1 = .ok (.slice A2 n2 c2) w2 ∧ Own w2 W.heap.size (.slice A2 n2 c2) (l ++ ptL s) ∧ Below W.heap.size W w2 := by
  have hsz := hB.size
  have ho1 := own_one w w.heap.size (UInt8.ofNat s.size) (s.size : Int) (by simp [UInt8.toNat_ofNat]; omega) (Nat.le_refl _)
  have hr := ho1.rd rfl 1 (Nat.le_refl _)
  obtain ⟨v1, w1, hrun1, h1, hg1, hv1⟩ := append_run (ho.alloc (.cells #[.int .u8 (s.size : Int)] 5)) 1 hr (fun e => by cases e) (by omega) (by rw [World.size_alloc]; omega)
  have hvb : ∀ q, v.ownBlock = some q → W.heap.size ≤ q := fun q e => by
    rcases ho.form with ⟨e1, _⟩ | ⟨g, cap, e1, h2, _⟩
    · rw [e1] at e; simp [Value.ownBlock] at e
    · rw [e1] at e; simp [Value.ownBlock] at e; omega
  have B1 : Below W.heap.size W w1 := ((hB.alloc hsz _)).grown hg1 (by rw [World.size_alloc]; omega) hvb
  rw [List.take_of_length_le (by simp)] at h1
  obtain ⟨v2, w2, hrun2, h2, hg2⟩ := append_str h1 s (by rw [List.length_append]; simp; omega) B1.size
  have hv1b : ∀ q, v1.ownBlock = some q → W.heap.size ≤ q := fun q e => by
    rcases h1.form with ⟨e1, _⟩ | ⟨g, cap, e1, h3, _⟩
    · rw [e1] at e; simp [Value.ownBlock] at e
    · rw [e1] at e; simp [Value.ownBlock] at e; omega
  have B2 := B1.grown hg2 B1.size hv1b
  have sl : ∀ {x : World} {b : Nat} {u : Value} {m : List UInt8}, Own x b u m → ∃ A n c, u = .slice A n c := fun h => by
    rcases h.form with ⟨e, _⟩ | ⟨_, cap, e, _⟩
    · exact ⟨_, _, _, e⟩
    · exact ⟨_, _, _, e⟩
  obtain ⟨A1, n1, c1, e1⟩ := sl h1
  obtain ⟨A2, n2, c2, e2⟩ := sl h2
  subst e1 e2
  exact ⟨A1, n1, c1, w1, A2, n2, c2, w2, hrun1, hrun2, by rw [List.append_assoc] at h2; exact h2, B2⟩
theorem joined_any (A : Option Addr) (n c B : Nat) (l : List ByteArray) (w : World) (h : StrRd w B A n l) (hB : B ≤ w.heap.size) (hs : ∀ s ∈ l, s.size ≤ 255) (hn : n ≤ 1000) :
    Calls Try.prog 49 #[.slice A n c] w fun e w' => ∃ D k d, e = .returned (.slice D k d) ∧ Own w' w.heap.size (.slice D k d) (jnL l) ∧ Below w.heap.size w w' := by
  have H := Lib.hid h
  have HL := Lib.hid h.1
  have HSS := Lib.hid hs
  clear h hs
  go_enter Try.func49, Try.ntmps49
  go_wp2
  go_loopw [3, 8] (fun v i wr => ∃ (j : Nat) (D : Option Addr) (k d : Nat), j ≤ n ∧ i = .int .i64 j ∧ v = .slice D k d ∧ Hid (Own wr w.heap.size (.slice D k d) (jnL (l.take j)) ∧ Below w.heap.size w wr)) (fun _ i _ => n - (intOf i).toNat)
  case atStart => exact ⟨0, none, 0, 0, Nat.zero_le _, rfl, rfl, Own.nil _ _, Below.refl _ _⟩
  case round =>
    rename World => wr
    obtain ⟨j, D, k, d, hj, rfl, rfl, hJ⟩ := hrel
    by_cases hlt : j < n
    · obtain ⟨b, off, rfl, hbl, hc⟩ := H.out.2 (by omega)
      obtain ⟨s, hsj⟩ : ∃ s, l[j]? = some s := ⟨l[j]'(by have := HL.out; omega), List.getElem?_eq_getElem _⟩
      have c0 := (hJ.out.2.cell (p := ⟨b, off + j, none⟩) (by show b < w.heap.size; omega)).trans (hc j s hsj)
      have hs255 := HSS.out s (List.mem_of_getElem? hsj)
      have hjl := jn_len (l.take j) (fun x hx => HSS.out x (List.mem_of_mem_take hx))
      rw [List.length_take] at hjl
      obtain ⟨A1, n1, c1, w1, A2, n2, c2, w2, r1, r2, o2, b2⟩ := part_run hJ.out.1 hJ.out.2 s hs255 (by omega)
      have NX : Hid (Own w2 w.heap.size (.slice A2 n2 c2) (jnL (l.take (j + 1))) ∧ Below w.heap.size w w2) := by
        refine ⟨?_, b2⟩
        rw [take_one' hsj]
        unfold jnL
        rw [List.flatMap_append]
        simpa [jnL] using o2
      have R1 := Lib.hid r1
      have R2 := Lib.hid r2
      have wr8 : IntKind.u8.wrap (s.size : Int) = (s.size : Int) := by rw [IntKind.wrap_u8']; omega
      have s0 : (0 : Int) ≤ (s.size : Int) := by omega
      have s1 : (s.size : Int) ≤ 255 := by omega
      clear hc hsj hJ r1 r2 o2 b2 hjl hbl
      go_wp2_with (first
        | (at_builtin; refine wpList_appT rfl (.tmp 12) (.tmp 16) #[36, 36] rfl _ _ rfl rfl _ _ R1.out ?_)
        | (at_builtin; refine wpList_appT rfl (.tmp 18) (.tmp 19) #[36, 9] rfl _ _ rfl rfl _ _ R2.out ?_))
      go_roundw
      case rel => exact ⟨j + 1, A2, n2, c2, by omega, by go_num, rfl, NX⟩
      case measure => simp [intOf]; omega
    · obtain rfl : j = n := by omega
      have RES : Hid (Own wr w.heap.size (.slice D k d) (jnL l) ∧ Below w.heap.size w wr) := by
        have h1 := hJ.out
        rw [List.take_of_length_le (by have := HL.out; omega)] at h1
        exact h1
      clear hJ
      go_wp2
      go_ret
      exact ⟨_, _, _, rfl, RES.out⟩
end Go.Proofs.Ytglboagjmbjehaa
