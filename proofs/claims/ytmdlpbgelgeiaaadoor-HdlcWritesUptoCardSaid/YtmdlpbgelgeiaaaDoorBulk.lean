/-
  What the second form's bound gives: a slice that came in is short.
-/
import Derived.Test.YtmdlpbgelgeiaaaDoorRows
namespace Go.Proofs.YtmdlpbgelgeiaaaDoor
theorem bulk_pos {H : Type} (d : DataW H) : 0 < Rows.uptoBulk d := by
  rcases d with l | _ | d | ⟨e, s⟩ | p | ⟨t, d⟩ | e | h
  · rcases l <;> simp [Rows.uptoBulk]
  all_goals simp [Rows.uptoBulk]
theorem bulk_mem {H : Type} {d : DataW H} : ∀ {l : List (DataW H)}, d ∈ l → Rows.uptoBulk d ≤ Rows.uptoBulkAll l
  | x :: r, h => by
    rw [Rows.uptoBulkAll]
    rcases List.mem_cons.1 h with rfl | h
    · omega
    · have := bulk_mem h
      omega
theorem bulk_len {H : Type} : ∀ l : List (DataW H), l.length ≤ Rows.uptoBulkAll l
  | [] => by simp [Rows.uptoBulkAll]
  | x :: r => by
    have h1 := bulk_pos x
    have h2 := bulk_len r
    rw [Rows.uptoBulkAll, List.length_cons]
    omega
theorem bulk_bound {H : Type} {l : List (DataW H)} (h : Rows.uptoSmall H l = true) : Rows.uptoBulkAll l ≤ 1048576 := of_decide_eq_true h
theorem bulk_slice {H : Type} {l : List (DataW H)} {e s : List (DataW H)} (h : Rows.uptoSmall H l = true) (hm : DataW.slice e s ∈ l) : e.length + s.length ≤ 1048576 := by
  have h1 := bulk_bound h
  have h2 := bulk_mem hm
  rw [Rows.uptoBulk] at h2
  have h3 := bulk_len e
  have h4 := bulk_len s
  omega
theorem bulk_string {H : Type} {l : List (DataW H)} {b : List UInt8} (h : Rows.uptoSmall H l = true) (hm : DataW.lit (.string b) ∈ l) : b.length ≤ 1048576 := by
  have h1 := bulk_bound h
  have h2 := bulk_mem hm
  rw [Rows.uptoBulk] at h2
  omega
theorem bulk_one {H : Type} {l : List (DataW H)} {d : DataW H} (h : Rows.uptoSmall H l = true) (hm : d ∈ l) : Rows.uptoBulk d ≤ 1048576 := Nat.le_trans (bulk_mem hm) (bulk_bound h)
end Go.Proofs.YtmdlpbgelgeiaaaDoor
