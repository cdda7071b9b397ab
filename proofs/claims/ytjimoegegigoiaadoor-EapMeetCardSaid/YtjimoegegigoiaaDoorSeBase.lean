/-
  Secrets in memory: what is read.
-/
import Derived.Test.YtjimoegegigoiaaDoorSeName
import Derived.Maps.AppendAt
import Derived.Laws.AppendOwn
import Derived.Laws.OwnMore
import Derived.Laws.Rows
import Derived.Shelf.Abstract
namespace Go.Proofs.YtjimoegegigoiaaDoor
open Go.RowKit Go.Shelf
set_option maxRecDepth 100000
set_option linter.unusedSimpArgs false
set_option linter.unusedVariables false

/-- a secret -/
structure Sec where
  cl : ByteArray
  sv : ByteArray
  wd : ByteArray
  ad : List Int
/-- numbers that are read -/
def AdRd (w : World) (B : Nat) (A : Option Addr) (m k : Nat) (l : List Int) : Prop :=
  l.length = m ∧ m ≤ k ∧ (A = none → k = 0) ∧ m ≤ 17592186043904 ∧ (0 < m → ∃ b off, A = some ⟨b, off, none⟩ ∧ b < B ∧ ∀ i z, l[i]? = some z → w.cell? ⟨b, off + i, none⟩ = some (.int .i64 z))
theorem AdRd.below {w w' : World} {B C m k : Nat} {A : Option Addr} {l : List Int} (h : AdRd w B A m k l) (hb : Below C w w') (hB : B ≤ C) : AdRd w' B A m k l := by
  obtain ⟨h1, h2, h3, h4, h5⟩ := h
  refine ⟨h1, h2, h3, h4, fun h0 => ?_⟩
  obtain ⟨b, off, e, hl, hc⟩ := h5 h0
  exact ⟨b, off, e, hl, fun i z hz => (hb.cell (p := ⟨b, off + i, none⟩) (by show b < C; omega)).trans (hc i z hz)⟩
theorem AdRd.wide {w : World} {B C m k : Nat} {A : Option Addr} {l : List Int} (h : AdRd w B A m k l) (hB : B ≤ C) : AdRd w C A m k l := by
  obtain ⟨h1, h2, h3, h4, h5⟩ := h
  refine ⟨h1, h2, h3, h4, fun h0 => ?_⟩
  obtain ⟨b, off, e, hl, hc⟩ := h5 h0
  exact ⟨b, off, e, by omega, hc⟩
theorem AdRd.take {w : World} {B m k : Nat} {A : Option Addr} {l : List Int} (h : AdRd w B A m k l) (i : Nat) (hi : i ≤ m) : AdRd w B A i k (l.take i) := by
  obtain ⟨h1, h2, h3, h4, h5⟩ := h
  refine ⟨by rw [List.length_take]; omega, by omega, h3, by omega, fun h0 => ?_⟩
  obtain ⟨b, off, e, hl, hc⟩ := h5 (by omega)
  refine ⟨b, off, e, hl, fun j z hz => hc j z ?_⟩
  rw [List.getElem?_take] at hz
  split at hz
  · exact hz
  · cases hz
/-- the four cells of a secret -/
def secV (x : Sec) (A : Option Addr) (m k : Nat) : List Value := [.string x.cl, .string x.sv, .string x.wd, .slice A m k]
def okS (x : Sec) : Prop := x.cl.size ≤ maxLen ∧ x.sv.size ≤ maxLen ∧ x.wd.size ≤ maxLen
/-- a list of secrets that is read -/
def SecRd (w : World) (B : Nat) (A : Option Addr) (n : Nat) (ss : List Sec) : Prop :=
  ss.length = n ∧ n ≤ 4398046510976 ∧ (0 < n → ∃ b off, A = some ⟨b, off, none⟩ ∧ b < B ∧ ∀ i x, ss[i]? = some x → okS x ∧ ∃ E m k, AdRd w B E m k x.ad ∧ ∀ j u, (secV x E m k)[j]? = some u → w.cell? ⟨b, off + i * 4 + j, none⟩ = some u)
theorem SecRd.below {w w' : World} {B C n : Nat} {A : Option Addr} {ss : List Sec} (h : SecRd w B A n ss) (hb : Below C w w') (hB : B ≤ C) : SecRd w' B A n ss := by
  obtain ⟨h1, h2, h3⟩ := h
  refine ⟨h1, h2, fun h0 => ?_⟩
  obtain ⟨b, off, e, hl, hc⟩ := h3 h0
  refine ⟨b, off, e, hl, fun i x hx => ?_⟩
  obtain ⟨ho, E, m, k, ha, hcs⟩ := hc i x hx
  exact ⟨ho, E, m, k, ha.below hb hB, fun j u hu => (hb.cell (p := ⟨b, off + i * 4 + j, none⟩) (by show b < C; omega)).trans (hcs j u hu)⟩
theorem SecRd.wide {w : World} {B C n : Nat} {A : Option Addr} {ss : List Sec} (h : SecRd w B A n ss) (hB : B ≤ C) : SecRd w C A n ss := by
  obtain ⟨h1, h2, h3⟩ := h
  refine ⟨h1, h2, fun h0 => ?_⟩
  obtain ⟨b, off, e, hl, hc⟩ := h3 h0
  refine ⟨b, off, e, by omega, fun i x hx => ?_⟩
  obtain ⟨ho, E, m, k, ha, hcs⟩ := hc i x hx
  exact ⟨ho, E, m, k, ha.wide hB, hcs⟩
/-- a secret at a place -/
theorem SecRd.at_ {w : World} {B n : Nat} {A : Option Addr} {ss : List Sec} (h : SecRd w B A n ss) (i : Nat) (hi : i < n) : ∃ x b off E m k, ss[i]? = some x ∧ A = some ⟨b, off, none⟩ ∧ b < B ∧ okS x ∧ AdRd w B E m k x.ad ∧
    w.cell? ⟨b, off + i * 4, none⟩ = some (.string x.cl) ∧ w.cell? ⟨b, off + i * 4 + 1, none⟩ = some (.string x.sv) ∧ w.cell? ⟨b, off + i * 4 + 2, none⟩ = some (.string x.wd) ∧ w.cell? ⟨b, off + i * 4 + 3, none⟩ = some (.slice E m k) := by
  obtain ⟨h1, h2, h3⟩ := h
  obtain ⟨b, off, e, hl, hc⟩ := h3 (by omega)
  have hx : ss[i]? = some (ss[i]'(by omega)) := List.getElem?_eq_getElem (by omega)
  obtain ⟨ho, E, m, k, ha, hcs⟩ := hc i _ hx
  exact ⟨_, b, off, E, m, k, hx, e, hl, ho, ha, hcs 0 _ rfl, hcs 1 _ rfl, hcs 2 _ rfl, hcs 3 _ rfl⟩
/-- a number that is nobody's address -/
def wrongA (z : Int) : Bool := decide (z < 1) || decide (4294967295 < z)
/-- is a number among them? -/
def hasI (l : List Int) (z : Int) : Bool := l.contains z
def anyW (l : List Int) : Bool := l.any wrongA
def dupA (l : List Int) : Bool := (List.range l.length).any fun i => hasI (l.take i) (l.getD i 0)
/-- is a secret right? -/
def rightE (x : Sec) : Int :=
  if nameB x.cl = false ∨ nameB x.sv = false then 60 else if 0 < x.wd.size ∧ nameB x.wd = false then 52 else if 16 < x.ad.length then 7 else if anyW x.ad = true then 150 else if dupA x.ad = true then 6 else 0
end Go.Proofs.YtjimoegegigoiaaDoor
