/-
  pap.parts.
-/
import Derived.Test.YtglboagjmbjehaaPaReq
import Derived.Test.YtglboagjmbjehaaSliceFrom
import Derived.Laws.BytesArg
import Derived.Laws.IdiomStrings
import Derived.WalkLawsBesides
import Derived.WalkMore
namespace Go.Proofs.Ytglboagjmbjehaa
open Go.RowKit
set_option maxRecDepth 100000
set_option maxHeartbeats 4000000
set_option linter.unusedSimpArgs false
set_option linter.unusedVariables false

/-- what is thrown -/
def thr (k : Int) : List PanicEntry := [{ v := .iface 28 (.int .i64 k), recovered := false }]
def stOf (l : List UInt8) : ByteArray := ⟨l.toArray⟩
theorem stOf_size (l : List UInt8) : (stOf l).size = l.length := by simp [stOf, ByteArray.size]
theorem conv_str {w : World} {B n : Nat} {A : Option Addr} {l : List UInt8} (hr : Rd w B A n l) (c : Nat) :
    (convert 36 9 (.slice A n c)).run Try.prog w = .ok (.string (stOf l)) w := by
  have hl := hr.1
  rcases Nat.eq_zero_or_pos n with h0 | h0
  · subst h0
    obtain rfl : l = [] := List.eq_nil_of_length_eq_zero hl
    rcases A with _ | a
    · exact run_convert_bytes_nil w 36 5 Try.underlying36 Try.underlying5 0 c _ Try.underlying9
    · have hld : (loadCells a 0).run Try.prog w = .ok ((([] : List Int).map (Value.int .u8)).toArray) w := by
        simpa using run_loadCells_list (P := Try.prog) w a [] (fun j v hj => by simp at hj)
      rw [run_convert_bytes_string w _ _ _ _ _ _ Try.underlying36 Try.underlying5 Try.underlying9, run_bytesToString w a 0 c [] hld]
      rfl
  · obtain ⟨b, off, rfl, _, hc⟩ := hr.2 h0
    subst hl
    refine run_convert_bytes_back w 36 9 5 ⟨b, off, none⟩ c l Try.underlying36 Try.underlying5 Try.underlying9 (fun j hj => ?_)
    have e : (⟨b, off, none⟩ : Addr).add j = ⟨b, off + j, none⟩ := by
      unfold Addr.add
      split
      · subst_vars
        rfl
      · rfl
    rw [e, hc j hj, byteAt_eq l j hj]
theorem slice_part (A : Option Addr) (n c B k : Nat) (l : List UInt8) (w : World) (hr : Rd w B A n l) (hc : n ≤ c) (hk : 1 + k ≤ n) :
    ∃ A' c', (∀ W, (Instr.slice 36 (.slice A n c) (some (.int .i64 1)) (some (.int .i64 (1 + (k : Int)))) none).run Try.prog W = .ok (.slice A' k c') W) ∧ Rd w B A' k ((l.drop 1).take k) := by
  have hl := hr.1
  refine ⟨if c = 1 then A else A.map (·.add (1 * 1)), c - 1, fun W => ?_, ⟨by rw [List.length_take, List.length_drop]; omega, fun h0 => ?_⟩⟩
  · rw [run_slice_lh W 36 _ _ _ (by rw [slice_elem]; exact Try.underlying36) .i64 .i64 _ _ (by omega) (by omega) (by omega), slice_elem, byte_sizeOf]
    simp only [Result.andThen_ok, sliced]
    rw [show (1 + (k : Int)).toNat - (1 : Int).toNat = k by omega]
    rfl
  · obtain ⟨b, off, rfl, hb, hcell⟩ := hr.2 (by omega)
    refine ⟨b, off + 1, ?_, hb, fun j hj => ?_⟩
    · rw [if_neg (by omega)]
      simp [Addr.add]
    · rw [Nat.add_assoc, hcell (1 + j) (by omega)]
      congr 2
      unfold byteAt
      rw [List.getD_eq_getElem?_getD, List.getD_eq_getElem?_getD, List.getElem?_take_of_lt hj, List.getElem?_drop]
/-- words of the call's own -/
def OwnW (w : World) (base : Nat) (v : Value) (l : List ByteArray) : Prop := w.ownsRow base 9 1 v l.length (l.map .string)
theorem infoW : (Try.prog.info? 9).map (fun i => (i.zero, i.size, i.bytes)) = some (some (.string ⟨#[]⟩), 1, 16) := by kernel_rfl
theorem OwnW.slice {w : World} {base : Nat} {v : Value} {l : List ByteArray} (h : OwnW w base v l) : ∃ A c, v = .slice A l.length c := by
  rcases h.2 with ⟨e, h0⟩ | ⟨g, cap, cur, e, _⟩
  · exact ⟨none, 0, by rw [e, h0]⟩
  · exact ⟨_, cap, e⟩
theorem OwnW.block {w : World} {base : Nat} {v : Value} {l : List ByteArray} (h : OwnW w base v l) : ∀ k, v.ownBlock = some k → base ≤ k ∧ k < w.heap.size := by
  intro k hk
  rcases h.2 with ⟨e, h0⟩ | ⟨g, cap, cur, e, hb, hg, _⟩
  · rw [e] at hk; simp [Value.ownBlock] at hk
  · rw [e] at hk; simp [Value.ownBlock] at hk; exact ⟨by omega, by rw [← hk]; exact (Array.getElem?_eq_some_iff.1 hg).1⟩
theorem OwnW.cell {w : World} {base g n c : Nat} {l : List ByteArray} (h : OwnW w base (.slice (some ⟨g, 0, none⟩) n c) l) (i : Nat) (s : ByteArray) (hs : l[i]? = some s) : w.cell? ⟨g, i, none⟩ = some (.string s) := by
  have h1 := World.ownsRow.cells h (g := g) rfl i (.string s) (by rw [List.getElem?_map, hs]; rfl)
  have e : (⟨g, 0, none⟩ : Addr).add i = ⟨g, i, none⟩ := by
    unfold Addr.add
    split
    · subst_vars
      rfl
    · simp
  rw [e] at h1
  exact h1
theorem appW_run {W w : World} {v : Value} {l : List ByteArray} (h : OwnW w W.heap.size v l) (hB : Below W.heap.size W w) (s : ByteArray) (hl : l.length ≤ 1000) :
    ∃ A c w', (Builtin.append_ #[96, 96] 96 #[v, .slice (some ⟨w.heap.size, 0, none⟩) 1 1]).run Try.prog (w.alloc (.cells #[.string s] 9)) = .ok (.slice A (l.length + 1) c) w' ∧ OwnW w' W.heap.size (.slice A (l.length + 1) c) (l ++ [s]) ∧ Below W.heap.size W w' := by
  obtain ⟨i, hi, hz, h1, h2⟩ := info_parts infoW
  have hsz := hB.size
  have ha : OwnW (w.alloc (.cells #[.string s] 9)) W.heap.size v l := World.ownsRow.alloc h _
  obtain ⟨v', w', hrun, h3, h4, _, h5⟩ := run_append_own_at (P := Try.prog) (w.alloc (.cells #[.string s] 9)) W.heap.size 96 96 9 i _ 1 16 Try.underlying96 hi hz h1 h2 rfl (by decide) v _ _ ha ⟨w.heap.size, 0, none⟩ 1 1 [.string s] rfl
    (fun j u hj => by
      match j, hj with
      | 0, hj => rw [show u = .string s from by simpa using hj.symm]; exact Blk.cell (show Blk _ w.heap.size 9 [.string s] from heap_alloc_new w _) 0
      | j + 1, hj => simp at hj) (fun u hu => by simp at hu; rw [hu]; rfl) (by unfold maxLen; omega) (by omega) (by rw [World.size_alloc]; omega)
  have ho : OwnW w' W.heap.size v' (l ++ [s]) := by
    unfold OwnW
    rw [List.length_append, List.map_append]
    exact h3
  obtain ⟨A, c, e⟩ := ho.slice
  rw [List.length_append, List.length_singleton] at e
  subst e
  exact ⟨A, c, w', hrun, ho, (hB.alloc hsz _).grown h4 (by rw [World.size_alloc]; omega) (fun q e => (h.block q e).1)⟩
/-- the parts that bytes consist of, and what stands behind -/
def prs : Nat → List UInt8 → List ByteArray × List UInt8
  | 0, b => ([], b)
  | _ + 1, [] => ([], [])
  | k + 1, c :: r => if r.length < c.toNat then ([], c :: r) else (stOf (r.take c.toNat) :: (prs k (r.drop c.toNat)).1, (prs k (r.drop c.toNat)).2)
def parE (n : Nat) (l : List UInt8) : Int := if (prs n l).1.length < n then 8 else if 0 < (prs n l).2.length then 3 else 0
def PartsR (w : World) (n : Nat) (l : List UInt8) (e : Ending) (w' : World) : Prop :=
  Below w.heap.size w w' ∧ ((parE n l = 0 ∧ ∃ D d, e = .returned (.slice D n d) ∧ OwnW w' w.heap.size (.slice D n d) (prs n l).1 ∧ (prs n l).1.length = n) ∨ (parE n l ≠ 0 ∧ e = .panicked (thr (parE n l))))
/-- behind j parts -/
structure PJ (w : World) (n : Nat) (l : List UInt8) (B : Nat) (j : Nat) (A' : Option Addr) (n' c' : Nat) (D : Option Addr) (d : Nat) (wr : World) (ps : List ByteArray) (rest : List UInt8) : Prop where
  rd : Rd wr B A' n' rest
  nil : A' = none → c' = 0
  le : n' ≤ c'
  own : OwnW wr w.heap.size (.slice D j d) ps
  len : ps.length = j
  bel : Below w.heap.size w wr
  eq : prs n l = (ps ++ (prs (n - j) rest).1, (prs (n - j) rest).2)
theorem parts_any (A : Option Addr) (n m c B : Nat) (l : List UInt8) (w : World) (hr : Rd w B A m l) (hB : B ≤ w.heap.size) (hmc : m ≤ c) (hnil : A = none → c = 0) (hn : n ≤ 100) :
    Calls Try.prog 53 #[.slice A m c, .int .i64 n] w (PartsR w n l) := by
  have J0 : Hid (PJ w n l B 0 A m c none 0 w [] l) := ⟨hr, hnil, hmc, World.ownsRow_nil _ _ _ _, rfl, Below.refl _ _, by simp⟩
  clear hr hmc hnil
  go_enter Try.func53, Try.ntmps53
  go_wp2
  go_step3
  go_wp2
  go_step3
  go_wp2
  go_loopw [0, 5, 8] (fun b o i wr => ∃ (j : Nat) (A' : Option Addr) (n' c' : Nat) (D : Option Addr) (d : Nat) (ps : List ByteArray) (rest : List UInt8), j ≤ n ∧ i = .int .i64 j ∧ b = .slice A' n' c' ∧ o = .slice D j d ∧ Hid (PJ w n l B j A' n' c' D d wr ps rest)) (fun _ _ i _ => n - (intOf i).toNat)
  case atStart => exact ⟨0, A, m, c, none, 0, [], l, Nat.zero_le _, rfl, rfl, rfl, J0.out⟩
  case round =>
    rename World => wr
    obtain ⟨j, A', n', c', D, d, ps, rest, hj, rfl, rfl, rfl, hJ⟩ := hrel
    have hlr := hJ.out.rd.1
    by_cases hlt : j < n
    · have brk : prs (n - j) rest = ([], rest) → Hid (PartsR w n l (.panicked (thr 8)) wr) := fun he => by
        have e := hJ.out.eq
        rw [he, List.append_nil] at e
        have hp : parE n l = 8 := by
          unfold parE
          rw [e, if_pos (by show ps.length < n; have := hJ.out.len; omega)]
        exact ⟨hJ.out.bel, .inr ⟨by rw [hp]; decide, by rw [hp]⟩⟩
      have hjn : (j : Int) < (n : Int) := by omega
      cases rest with
      | nil =>
        obtain rfl : n' = 0 := by simpa using hlr.symm
        have BK := brk (by rw [show n - j = (n - j - 1) + 1 by omega]; rfl)
        clear brk hJ hlr
        go_wp2
        exact ⟨rfl, BK.out⟩
      | cons x r =>
        obtain ⟨k, hk⟩ : ∃ k, x.toNat = k := ⟨_, rfl⟩
        have hk255 : k ≤ 255 := by have := x.toNat_lt; omega
        rw [List.length_cons] at hlr
        obtain ⟨b, off, rfl, hbB, hcell⟩ := hJ.out.rd.2 (by omega)
        have c0 : wr.cell? ⟨b, off, none⟩ = some (.int .u8 (k : Int)) := by
          have h := hcell 0 (by omega)
          rw [Nat.add_zero] at h
          rw [h, byteAt_eq (x :: r) 0 (by simp)]
          simp [hk]
        have hn0 : ¬ ((n' : Int) = 0) := by omega
        have hn1 : (0 : Int) < (n' : Int) := by omega
        have hbw : b < wr.heap.size := by have := hJ.out.bel.size; omega
        by_cases hs : r.length < k
        · have BK := brk (by rw [show n - j = (n - j - 1) + 1 by omega]; simp [prs, hk, hs])
          have hle : (n' : Int) ≤ (k : Int) := by omega
          clear brk hJ hlr hcell hk
          go_wp2
          exact ⟨rfl, BK.out⟩
        · obtain ⟨A1, c1, hs1, hr1⟩ := slice_part _ n' c' B k (x :: r) wr hJ.out.rd hJ.out.le (by omega)
          obtain ⟨A2, c2, hs2, hr2, hnil2, hle2⟩ := slice_from _ n' c' B (1 + k) (x :: r) wr hJ.out.rd hJ.out.le hJ.out.nil (by omega)
          have hcv := conv_str hr1 c1
          obtain ⟨D', d', w', hrun, ho', hB'⟩ := appW_run hJ.out.own hJ.out.bel (stOf (((x :: r).drop 1).take k)) (by have := hJ.out.len; omega)
          have e1 : ((x :: r).drop 1).take k = r.take k := by simp
          have e2 : (x :: r).drop (1 + k) = r.drop k := by rw [Nat.add_comm]; simp
          rw [e1] at hcv hrun ho'
          rw [e2] at hr2
          rw [hJ.out.len] at hrun ho'
          rw [show (((1 + k : Nat)) : Int) = 1 + (k : Int) by omega] at hs2
          have hN : (n - j) = (n - (j + 1)) + 1 := by omega
          have NX : Hid (PJ w n l B (j + 1) A2 (n' - (1 + k)) c2 D' d' w' (ps ++ [stOf (r.take k)]) (r.drop k)) := by
            refine ⟨?_, hnil2, hle2, ho', by rw [List.length_append, hJ.out.len]; rfl, hB', ?_⟩
            · exact hr2.kept fun p hp => (hB'.cell (by omega)).trans (hJ.out.bel.cell (by omega)).symm
            · have e := hJ.out.eq
              rw [hN] at e
              simp only [prs, hk, if_neg hs] at e
              rw [e, List.append_assoc]
              rfl
          have hnle : ¬ (n' : Int) ≤ (k : Int) := by omega
          have HR := Lib.hid hrun
          clear brk hJ hlr hcell hk hr1 hr2 hrun ho' hB' e1 e2 hN
          go_wp2_with (at_builtin; refine wpList_appT rfl (.tmp 27) (.tmp 32) #[96, 96] rfl _ _ rfl rfl _ _ HR.out ?_)
          go_roundw
          case rel => exact ⟨j + 1, A2, n' - (1 + k), c2, D', d', _, _, by omega, by go_num, rfl, rfl, NX⟩
          case measure => simp [intOf]; omega
    · obtain rfl : j = n := by omega
      have e : prs j l = (ps, rest) := by
        have h := hJ.out.eq
        rw [show j - j = 0 by omega] at h
        rw [h, prs, List.append_nil]
      by_cases h0 : n' = 0
      · have hr0 : rest = [] := List.eq_nil_of_length_eq_zero (by omega)
        have RES : Hid (PartsR w j l (.returned (.slice D j d)) wr) := by
          have hp : parE j l = 0 := by
            unfold parE
            rw [e, if_neg (by show ¬ ps.length < j; have := hJ.out.len; omega), if_neg (by rw [hr0]; simp)]
          exact ⟨hJ.out.bel, .inl ⟨hp, D, d, rfl, by rw [e]; exact hJ.out.own, by rw [e]; exact hJ.out.len⟩⟩
        subst h0
        clear hJ e hlr hr0
        go_wp2
        go_ret
        exact RES.out
      · have RES : Hid (PartsR w j l (.panicked (thr 3)) wr) := by
          have hp : parE j l = 3 := by
            unfold parE
            rw [e, if_neg (by show ¬ ps.length < j; have := hJ.out.len; omega), if_pos (by show 0 < rest.length; omega)]
          exact ⟨hJ.out.bel, .inr ⟨by rw [hp]; decide, by rw [hp]⟩⟩
        have hn1 : (0 : Int) < (n' : Int) := by omega
        clear hJ e hlr h0
        go_wp2
        exact ⟨rfl, RES.out⟩
end Go.Proofs.Ytglboagjmbjehaa
