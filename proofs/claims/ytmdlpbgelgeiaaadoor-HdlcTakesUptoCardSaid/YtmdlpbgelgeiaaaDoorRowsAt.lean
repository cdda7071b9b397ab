/-
  A list of byte slices that came in, of small bulk: each cell of it, and how long all are together.
-/
import Derived.Test.YtmdlpbgelgeiaaaDoorBase
import Derived.Test.YtmdlpbgelgeiaaaDoorOpen
import Derived.Test.YtmdlpbgelgeiaaaDoorBulk
import Derived.Deep.Slices
import Derived.ProofKit
import Derived.SizedLaws
namespace Go.Proofs.YtmdlpbgelgeiaaaDoor
open Go.RowKit

/-- how many bytes the first i have together -/
def total (S : Nat → List UInt8) : Nat → Nat
  | 0 => 0
  | i + 1 => total S i + (S i).length
/-- all of the first i, one behind the other -/
def upTo (S : Nat → List UInt8) : Nat → List UInt8
  | 0 => []
  | i + 1 => upTo S i ++ S i
theorem upTo_length (S : Nat → List UInt8) : ∀ i, (upTo S i).length = total S i
  | 0 => rfl
  | i + 1 => by rw [upTo, List.length_append, upTo_length S i]; rfl
theorem total_mono (S : Nat → List UInt8) : ∀ i j, i ≤ j → total S i ≤ total S j
  | i, 0, h => by rw [Nat.le_zero.1 h]; exact Nat.le_refl _
  | i, j + 1, h => by
    rcases Nat.lt_or_ge i (j + 1) with h' | h'
    · have := total_mono S i j (by omega)
      show _ ≤ total S j + _
      omega
    · rw [show i = j + 1 by omega]
      exact Nat.le_refl _

/-- The slice at A of m slices of bytes: of slice i the bytes S i. -/
def RowsAt (w : World) (A : Option Addr) (m : Nat) (S : Nat → List UInt8) : Prop :=
  m ≤ 1048576 ∧ total S m ≤ 1048576 ∧ (0 < m → ∃ b off, A = some ⟨b, off, none⟩ ∧ b < w.heap.size ∧ ∀ i, i < m → ∃ D k c, w.cell? ⟨b, off + i, none⟩ = some (.slice D k c) ∧ Rd w w.heap.size D k (S i) ∧ k ≤ c ∧ c ≤ 1048576 ∧ (D = none → c = 0))

open Go.ChangeShapes Go.WideShapes Go.Deep
section
variable {H : Type} {enc : TypeId × Value → H}
theorem bytes_open_small {W : World} {fuel : Nat} {a : Option Addr} {n c : Nat} {d : DataW H} {p : List MemPlace} (h : DataW.trod enc Tryd.prog W 0 (fun _ => true) true fuel 22 [.slice a n c] = some (d, p))
    (hw : Rows.uptoBulk d ≤ 1048576) : ∃ l : List UInt8, Rd W W.heap.size a n l ∧ n ≤ c ∧ c ≤ 1048576 ∧ (a = none → c = 0) ∧ l.length ≤ Rows.uptoBulk d := by
  rcases open_ints Tryd.underlying22 Tryd.underlying5 (by kernel_rfl) h with ⟨hcs, _⟩ | ⟨x, l, c', zs, hcs, hd, hl, hm, hz, hx, hcell, hwz⟩
  · simp at hcs
    obtain ⟨rfl, rfl, rfl⟩ := hcs
    exact ⟨[], Rd.nil, Nat.le_refl _, by omega, fun _ => rfl, by simp⟩
  · simp at hcs
    obtain ⟨rfl, rfl, rfl⟩ := hcs
    simp only [Prod.mk.injEq] at hx
    obtain ⟨hx1, _⟩ := hx
    subst hx1
    simp only [if_true] at hz
    rw [Rows.uptoBulk] at hw
    have h3 := bulk_len (lits .u8 (zs.take n) : List (DataW H))
    have h4 := bulk_len (lits .u8 (zs.drop n) : List (DataW H))
    obtain ⟨l, hr⟩ := rd_open hl hz hcell hwz
    have hll := hr.1
    simp only [lits, List.length_map, List.length_take, List.length_drop] at h3 h4
    simp only [lits] at hw
    refine ⟨l, hr, hl, by omega, fun e => (by cases e), ?_⟩
    rw [Rows.uptoBulk]
    simp only [lits]
    omega
theorem row_cells : Tryd.prog.cellsOf 22 = 1 := by kernel_rfl
theorem bulk_map {D : Nat → DataW H} {S : Nat → List UInt8} : ∀ m, (∀ i, i < m → (S i).length ≤ Rows.uptoBulk (D i)) → total S m ≤ Rows.uptoBulkAll ((List.range m).map D)
  | 0, _ => Nat.zero_le _
  | m + 1, h => by
    have h1 := bulk_map m (fun i hi => h i (by omega))
    have h2 := h m (by omega)
    have key : ∀ (l : List (DataW H)) (d : DataW H), Rows.uptoBulkAll (l ++ [d]) = Rows.uptoBulkAll l + Rows.uptoBulk d := by
      intro l d
      induction l with
      | nil => simp [Rows.uptoBulkAll]
      | cons x l ih => rw [List.cons_append, Rows.uptoBulkAll, ih, Rows.uptoBulkAll]; omega
    rw [List.range_succ, List.map_append, List.map_cons, List.map_nil, key]
    show total S m + _ ≤ _
    omega
theorem rows_open {W : World} {fuel : Nat} {a : Option Addr} {n c : Nat} {d : DataW H} {p : List MemPlace} (h : DataW.trod enc Tryd.prog W 0 (fun _ => true) true fuel 44 [.slice a n c] = some (d, p))
    (hw : Rows.uptoBulk d ≤ 1048576) : ∃ (S : Nat → List UInt8), RowsAt W a n S ∧ n ≤ c := by
  rcases open_slice Tryd.underlying44 h with ⟨hcs, _⟩ | ⟨x, l, c', m, f, D, Pl, hcs, hd, hl, hm, hmm, hx, hi⟩
  · simp at hcs
    obtain ⟨rfl, rfl, rfl⟩ := hcs
    exact ⟨fun _ => [], ⟨by omega, Nat.zero_le _, fun h => absurd h (Nat.lt_irrefl 0)⟩, Nat.le_refl _⟩
  · simp at hcs
    obtain ⟨rfl, rfl, rfl⟩ := hcs
    simp only [Prod.mk.injEq] at hx
    obtain ⟨rfl, _⟩ := hx
    simp only [if_true] at hmm
    subst hmm
    rw [row_cells] at hi
    rw [Rows.uptoBulk] at hw
    have b1 := bulk_len ((List.range n).map D)
    have b2 := bulk_len ((List.range (m - n)).map fun j => D (n + j))
    simp only [List.length_map, List.length_range] at b1 b2
    have each : ∀ i, i < n → ∃ q : List UInt8, q.length ≤ Rows.uptoBulk (D i) ∧ ∃ E k c, W.cell? (x.add i) = some (.slice E k c) ∧ Rd W W.heap.size E k q ∧ k ≤ c ∧ c ≤ 1048576 ∧ (E = none → c = 0) := by
      intro i hin
      obtain ⟨cs, hc, ht⟩ := hi i (by omega)
      obtain ⟨_, hlen, hat⟩ := World.cells?_some hc
      have hDi : Rows.uptoBulk (D i) ≤ 1048576 := by
        have := bulk_mem (d := D i) (l := (List.range n).map D) (List.mem_map.2 ⟨i, List.mem_range.2 hin, rfl⟩)
        omega
      match cs, hlen with
      | [v0], _ =>
        have hs2 : ∃ a k c, v0 = .slice a k c := by
          rcases DataW.trod_slice Tryd.underlying22 ht with ⟨e, _⟩ | ⟨a, k, c, _, _, _, _, e, _⟩
          · simp at e
            exact ⟨_, _, _, e⟩
          · simp at e
            exact ⟨_, _, _, e⟩
        obtain ⟨a', k', c', rfl⟩ := hs2
        obtain ⟨l, hr, hk, hc2, hnil, hb⟩ := bytes_open_small ht hDi
        refine ⟨l, hb, a', k', c', ?_, hr, hk, hc2, hnil⟩
        have := hat 0 (by omega)
        rw [Nat.mul_one] at this
        simpa [Addr.add] using this
    obtain ⟨Q, hQ⟩ := choose_lt each
    have ht := bulk_map (D := D) (S := Q) n (fun i hi => (hQ i hi).1)
    refine ⟨Q, ⟨by omega, by omega, fun h0 => ?_⟩, hl⟩
    obtain ⟨b, off, spot⟩ := x
    obtain ⟨_, E0, k0, c0, hq, _⟩ := hQ 0 h0
    have hspot : spot = none := by simpa [Addr.add] using World.cell?_spot hq
    subst hspot
    have hb := World.block_lt_of_cell? _ _ hq
    have ea : ∀ o j : Nat, (⟨b, o, none⟩ : Addr).add j = ⟨b, o + j, none⟩ := by
      intro o j
      unfold Addr.add
      split
      · subst_vars
        rfl
      · rfl
    rw [ea] at hb
    refine ⟨b, off, rfl, hb, fun i hin => ?_⟩
    obtain ⟨_, E, k, c, hc, h2⟩ := hQ i hin
    rw [ea] at hc
    exact ⟨E, k, c, hc, h2⟩
end
end Go.Proofs.YtmdlpbgelgeiaaaDoor
