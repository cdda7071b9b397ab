/-
  tetherref17: Nak, Reject, Want, Done; ipv6cp.Reject.
-/
import Derived.Test.YtciijnhagdfpiaaI6Nak
import Derived.Test.YtciijnhagdfpiaaI6Want
import Derived.Test.YtciijnhagdfpiaaOpPlc
namespace Go.Proofs.Ytciijnhagdfpiaa
open Go.RowKit
set_option maxRecDepth 100000
set_option maxHeartbeats 4000000
set_option linter.unusedSimpArgs false
set_option linter.unusedVariables false

theorem rdone_any (a b : Int) (w : World) : Calls Try.prog 27 #[.int .u64 a, .int .u64 b] w fun e w' => e = .returned (.int .i64 (dnE a b)) ∧ w' = w := by
  obtain ⟨R, hR⟩ : ∃ R, dnE a b = R := ⟨_, rfl⟩
  rw [hR]
  unfold dnE at hR
  by_cases h0 : a = 0
  · rw [if_pos (.inl h0)] at hR
    subst hR
    have e0 : (a == 0) = true := by simpa using h0
    clear h0
    go_enter Try.func27, Try.ntmps27
    go_wp2
    go_ret
    exact ⟨rfl, rfl⟩
  · have e0 : (a == 0) = false := by simpa using h0
    by_cases h1 : b = 0
    · rw [if_pos (.inr h1)] at hR
      subst hR
      have e1 : (b == 0) = true := by simpa using h1
      clear h0 h1
      go_enter Try.func27, Try.ntmps27
      go_wp2
      go_ret
      exact ⟨rfl, rfl⟩
    · have e1 : (b == 0) = false := by simpa using h1
      rw [if_neg (by simp [h0, h1])] at hR
      by_cases h2 : a = b
      · rw [if_pos h2] at hR
        subst hR
        have e2 : (a == b) = true := by simpa using h2
        clear h0 h1 h2
        go_enter Try.func27, Try.ntmps27
        go_wp2
        go_ret
        exact ⟨rfl, rfl⟩
      · rw [if_neg h2] at hR
        subst hR
        have e2 : (a == b) = false := by simpa using h2
        clear h0 h1 h2
        go_enter Try.func27, Try.ntmps27
        go_wp2
        go_ret
        exact ⟨rfl, rfl⟩
def rj6 (id : Int) (s : List Opt) : Int × Bool := if plc s 1 < s.length then (0, false) else (id, true)
theorem reject6_any (id : Int) (A : Option Addr) (n c B : Nat) (s : List Opt) (w : World) (hr : OptRd w B A n s) (hB : B ≤ w.heap.size) (hn : n ≤ 4398046511103) :
    Calls Try.prog 22 #[.int .u64 id, .slice A n c] w fun e w' => e = .returned (.tuple #[.int .u64 (rj6 id s).1, .bool (rj6 id s).2]) ∧ Below w.heap.size w w' := by
  obtain rfl := hr.1
  have FD := ofind_any A s.length c B s 1 w hr hB hn
  by_cases hp : plc s 1 < s.length
  · rw [decide_eq_true hp] at FD
    have FD := Lib.hid FD
    have HV : Hid (rj6 id s = (0, false)) := if_pos hp
    clear hr hp
    go_enter Try.func22, Try.ntmps22
    go_wp2_with (go_at_call 45; (with_reducible refine FD.out.mono ?_); rintro e w2 ⟨D, k, d, rfl, -, h2⟩; have H2 := Lib.hid (h2.trans ((Below.refl w2.heap.size w2).alloc (Nat.le_refl _) (.cells #[.int .i64 (fnd s 1).1, .slice D k d] 54) |>.mono h2.size)); clear h2)
    exact bodyPost_ret (v := .tuple #[.int .u64 0, .bool false]) (by simp [results, Try.results22, go_sem]) rfl ⟨by rw [HV.out], H2.out⟩
  · rw [decide_eq_false hp] at FD
    have FD := Lib.hid FD
    have HV : Hid (rj6 id s = (id, true)) := if_neg hp
    clear hr hp
    go_enter Try.func22, Try.ntmps22
    go_wp2_with (go_at_call 45; (with_reducible refine FD.out.mono ?_); rintro e w2 ⟨D, k, d, rfl, -, h2⟩; have H2 := Lib.hid (h2.trans ((Below.refl w2.heap.size w2).alloc (Nat.le_refl _) (.cells #[.int .i64 (fnd s 1).1, .slice D k d] 54) |>.mono h2.size)); clear h2)
    exact bodyPost_ret (v := .tuple #[.int .u64 id, .bool true]) (by simp [results, Try.results22, go_sem]) rfl ⟨by rw [HV.out], H2.out⟩
theorem rreject6_any (id : Int) (A : Option Addr) (n c B : Nat) (s : List Opt) (w : World) (hr : OptRd w B A n s) (hn : n ≤ 4398046511103) :
    Calls Try.prog 23 #[.int .u64 id, .slice A n c] w fun e w' => e = .returned (.tuple #[.int .u64 (rj6 id s).1, .bool (rj6 id s).2]) ∧ w' = w := by
  obtain rfl := hr.1
  have HR := Lib.hid hr
  clear hr
  go_enter Try.func23, Try.ntmps23
  go_wp2
  go_loop [6] (fun i => ∃ k : Nat, k ≤ s.length ∧ i = .int .i64 k ∧ Hid (∀ j (hj : j < s.length), j < k → s[j].1 ≠ 1)) (fun i => s.length - (intOf i).toNat)
  case atStart => exact ⟨0, Nat.zero_le _, rfl, fun j hj h => absurd h (Nat.not_lt_zero _)⟩
  case round =>
    obtain ⟨k, hk, rfl, hno⟩ := hrel
    by_cases hlt : k < s.length
    · obtain ⟨b, off, rfl, hb, hc⟩ := HR.out.2 (by omega)
      obtain ⟨x1, E, kk, cc, x2, -⟩ := hc k hlt
      obtain ⟨J, hJ1⟩ : ∃ J, (s[k]'hlt).1 = J := ⟨_, rfl⟩
      rw [hJ1] at x1
      by_cases he : J = 1
      · have e1 : (J == 1) = true := by simpa using he
        have HV : Hid (rj6 id s = (0, false)) := by
          show _ = _
          unfold rj6
          rw [if_pos]
          rw [plc_at s 1 k hlt (hJ1.trans he) (fun j hj => hno.out j (by omega) hj)]
          exact hlt
        clear hc hno hJ1 he x2
        go_wp2
        exact bodyPost_ret (v := .tuple #[.int .u64 0, .bool false]) (by simp [results, Try.results23, go_sem]) rfl ⟨by rw [HV.out], rfl⟩
      · have e1 : (J == 1) = false := by simpa using he
        have HN := Lib.hid (show ∀ j (hj : j < s.length), j < k + 1 → s[j].1 ≠ 1 from fun j hj h => by
          rcases Nat.lt_succ_iff_lt_or_eq.1 h with h | h
          · exact hno.out j hj h
          · subst h; rw [hJ1]; exact he)
        clear hc hno hJ1 he x2
        go_wp2
        go_round
        case rel => exact ⟨k + 1, by omega, by go_num, HN⟩
        case measure => simp [intOf]; omega
    · have HV : Hid (rj6 id s = (id, true)) := by
        show _ = _
        unfold rj6
        rw [if_neg]
        rw [plc_none s 1 (fun j hj => hno.out j hj (by omega))]
        omega
      clear hno
      go_wp2
      exact bodyPost_ret (v := .tuple #[.int .u64 id, .bool true]) (by simp [results, Try.results23, go_sem]) rfl ⟨by rw [HV.out], rfl⟩
theorem nkV_ne {id draw : Int} {o : Opt} (hd : In64 draw) : nkV id draw o ≠ id := by
  unfold nkV
  split
  · exact (giv_ok id hd).2
  · rename_i h
    unfold tkB at h
    intro e
    rw [e] at h
    simp at h
theorem nk_two {id draw : Int} {s : List Opt} (hd : In64 draw) : (nk6 id draw s).2 = ((nk6 id draw s).1 != id) := by
  unfold nk6
  split
  · simp
  · simp [nkV_ne hd]
theorem nk_step {id draw : Int} {s : List Opt} {k : Nat} (h : k < s.length) : (nk6 id draw (s.take (k + 1))).1 = if rgt s[k] = true then nkV id draw s[k] else (nk6 id draw (s.take k)).1 := by
  unfold nk6
  rw [List.take_succ_eq_append_getElem h, List.reverse_append, List.reverse_singleton, List.singleton_append, List.find?_cons]
  cases hr : rgt s[k] <;> simp
theorem rnak6_any (id draw : Int) (A : Option Addr) (n c B : Nat) (s : List Opt) (w : World) (hr : OptRd w B A n s) (hB : B ≤ w.heap.size) (hn : n ≤ 4398046511103) (hd : In64 draw) :
    Calls Try.prog 21 #[.int .u64 id, .slice A n c, .int .u64 draw] w fun e w' => e = .returned (.tuple #[.int .u64 (nk6 id draw s).1, .bool (nk6 id draw s).2]) ∧ Below w.heap.size w w' := by
  obtain rfl := hr.1
  have HR := Lib.hid hr
  have HD := Lib.hid hd
  clear hr hd
  go_enter Try.func21, Try.ntmps21
  go_wp2
  go_loopw [8, 9] (fun v i wr => ∃ (V : World) (k : Nat), V = wr ∧ k ≤ s.length ∧ i = .int .i64 k ∧ v = .int .u64 (nk6 id draw (s.take k)).1 ∧ Hid (Below w.heap.size w V)) (fun _ i _ => s.length - (intOf i).toNat)
  case atStart => exact ⟨_, 0, rfl, Nat.zero_le _, rfl, by simp [nk6], Below.refl _ _⟩
  case round =>
    obtain ⟨V, k, rfl, hk, rfl, rfl, hBw⟩ := hrel
    by_cases hlt : k < s.length
    · obtain ⟨b, off, rfl, hb, hc⟩ := HR.out.2 (by omega)
      obtain ⟨x1, E, kk, cc, x2, hRd, -⟩ := hc k hlt
      have hstep := nk_step (id := id) (draw := draw) hlt
      obtain ⟨y, hy⟩ : ∃ y, s[k]'hlt = y := ⟨_, rfl⟩
      rw [hy] at x1 hRd hstep
      obtain ⟨K, l⟩ := y
      have hl : l.length = kk := hRd.1
      have hbz : b < w.heap.size := by omega
      have d1 : V.cell? ⟨b, off + k * 2, none⟩ = some (.int .i64 K) := (hBw.out.cell hbz).trans x1
      have d2 : V.cell? ⟨b, off + k * 2 + 1, none⟩ = some (.slice E kk cc) := (hBw.out.cell hbz).trans x2
      have hRV := hRd.below (hBw.out.mono hB)
      generalize (nk6 id draw (s.take k)).1 = cur at hstep ⊢
      by_cases h1 : K = 1
      · by_cases h8 : kk = 8
        · subst h8
          have hrg : rgt (K, l) = true := by unfold rgt; simp [h1, hl]
          rw [if_pos hrg] at hstep
          have e1 : (K != 1) = false := by simp [h1]
          have NM := Lib.hid (inumber_any K E cc B l V hRV (by have := hBw.out.size; omega))
          obtain ⟨x, hx⟩ : ∃ x, num l 8 = x := ⟨_, rfl⟩
          rw [hx] at NM
          have HST := Lib.hid hstep
          have GI := Lib.hid (fun W => given_any draw id W HD.out)
          have GI := Lib.hid (fun W => rgiven_any draw id W HD.out)
          by_cases h0 : x = 0 ∨ x = id
          · have HV : Hid (nkV id draw (K, l) = giv draw id) := by
              show _ = _
              unfold nkV tkB
              rw [if_pos (by simp [hx]; exact h0)]
            by_cases hx0 : x = 0
            · have f1 : (x == 0) = true := by simpa using hx0
              clear hc x1 x2 hRd hRV hstep h1 hrg hy hx h0 hx0
              go_wp2_with (first
                | (go_at_call 36; (with_reducible refine NM.out.mono ?_); rintro e w3 ⟨rfl, h3⟩; have H3 := Lib.hid h3; clear h3)
                | (go_at_call 25; (with_reducible refine (GI.out _).mono ?_); rintro e w4 ⟨rfl, rfl⟩))
              go_roundw
              case rel => exact ⟨_, k + 1, rfl, by omega, by go_num, by rw [HST.out, HV.out], hBw.out.trans (H3.out.mono hBw.out.size)⟩
              case measure => simp [intOf]; omega
            · have f1 : (x == 0) = false := by simpa using hx0
              have f2 : (x == id) = true := by have := h0.resolve_left hx0; simpa using this
              clear hc x1 x2 hRd hRV hstep h1 hrg hy hx h0 hx0
              go_wp2_with (first
                | (go_at_call 36; (with_reducible refine NM.out.mono ?_); rintro e w3 ⟨rfl, h3⟩; have H3 := Lib.hid h3; clear h3)
                | (go_at_call 25; (with_reducible refine (GI.out _).mono ?_); rintro e w4 ⟨rfl, rfl⟩))
              go_roundw
              case rel => exact ⟨_, k + 1, rfl, by omega, by go_num, by rw [HST.out, HV.out], hBw.out.trans (H3.out.mono hBw.out.size)⟩
              case measure => simp [intOf]; omega
          · have HV : Hid (nkV id draw (K, l) = x) := by
              show _ = _
              unfold nkV tkB
              rw [if_neg (by simp [hx]; exact ⟨fun h => h0 (.inl h), fun h => h0 (.inr h)⟩)]
              exact hx
            have f1 : (x == 0) = false := by simp; exact fun h => h0 (.inl h)
            have f2 : (x == id) = false := by simp; exact fun h => h0 (.inr h)
            clear hc x1 x2 hRd hRV hstep h1 hrg hy hx h0
            go_wp2_with (first
              | (go_at_call 36; (with_reducible refine NM.out.mono ?_); rintro e w3 ⟨rfl, h3⟩; have H3 := Lib.hid h3; clear h3))
            go_roundw
            case rel => exact ⟨_, k + 1, rfl, by omega, by go_num, by rw [HST.out, HV.out], hBw.out.trans (H3.out.mono hBw.out.size)⟩
            case measure => simp [intOf]; omega
        · have hrg : rgt (K, l) = false := by unfold rgt; simp [h1]; omega
          rw [if_neg (by rw [hrg]; simp)] at hstep
          have e1 : (K != 1) = false := by simp [h1]
          have e2 : (((kk : Nat) : Int) != 8) = true := by simp; omega
          have HST := Lib.hid hstep
          clear hc x1 x2 hRd hRV hstep h1 h8 hrg hy
          go_wp2
          go_roundw
          case rel => exact ⟨_, k + 1, rfl, by omega, by go_num, by rw [HST.out], hBw⟩
          case measure => simp [intOf]; omega
      · have hrg : rgt (K, l) = false := by unfold rgt; simp [h1]
        rw [if_neg (by rw [hrg]; simp)] at hstep
        have e1 : (K != 1) = true := by simpa using h1
        have HST := Lib.hid hstep
        clear hc x1 x2 hRd hRV hstep h1 hrg hy
        go_wp2
        go_roundw
        case rel => exact ⟨_, k + 1, rfl, by omega, by go_num, by rw [HST.out], hBw⟩
        case measure => simp [intOf]; omega
    · have h2 := nk_two (id := id) (draw := draw) (s := s) HD.out
      rw [show s.take k = s from List.take_of_length_le (by omega)]
      obtain ⟨r1, hr1⟩ : ∃ r1, (nk6 id draw s).1 = r1 := ⟨_, rfl⟩
      rw [hr1] at h2 ⊢
      have H1 := Lib.hid hr1
      have H2 := Lib.hid h2
      clear hr1 h2
      go_wp2
      exact bodyPost_ret (v := .tuple #[.int .u64 r1, .bool (r1 != id)]) (by simp [results, Try.results21, go_sem]) rfl ⟨by rw [H1.out, H2.out], hBw.out⟩
end Go.Proofs.Ytciijnhagdfpiaa
