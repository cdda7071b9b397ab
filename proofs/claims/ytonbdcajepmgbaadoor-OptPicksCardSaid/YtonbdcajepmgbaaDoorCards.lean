/-
  DERIVED. GIVEN WITH THE SEED: THE CARDS: each row of YtonbdcajepmgbaaDoorRows.lean that lists a variable, with what it lists TIED to the program's text (the seventh form; the later family's looks); each row that meets fmt, with fmt's text TOLD by the authors' own Lean function (tested against real Go, not proved from fmt's source: count such statements apart). THE CARD IS WHAT COUNTS. Prove the row's statement (the work); the ties are given (YtonbdcajepmgbaaDoorTie.lean); close each card by the builder's one call (the guide's Derived/Test/ToyasCard.lean, 'card_holds'). Laid BY PROGRAM, IN A SANDBOX (cutbox-door.mjs). By AI agents, Wed Nov 11 2026. No macro, syntax, notation, axiom, sorry.
-/
import Derived.Test.YtonbdcajepmgbaaDoorRows
import GoSem.ClaimSeven
namespace Go.Proofs.YtonbdcajepmgbaaDoor
namespace Rows

/-- THE TIED CARD OF 'tetherlaw09.OptPicks'. -/
def optPicksCard : Claim7 := { stood := { row := optPicksRow, standIns := [], harness := (true, "c97cb88738e461de0b8ae367d7d046363456ece1b6ebd2171ef1472566ed021a"), looks := false }, kinds := [], alts := [], laidByText := true, laidKinds := [.data], laidTests := true, laidLooks := .later }
def OptPicksCardSaid : Prop := Claim7.holds Tryd.pinned (.plain (OpenSpec.ofChange optPicksSpec)) optPicksCard

/-- THE SECOND FORM's CARD OF 'tetherlaw09.OptPicks'. -/
def optPicksUptoCard : Claim7 := { stood := { row := optPicksUptoRow, standIns := [], harness := (true, "c97cb88738e461de0b8ae367d7d046363456ece1b6ebd2171ef1472566ed021a"), looks := false }, kinds := [], alts := [], laidByText := true, laidKinds := [.data], laidTests := true, laidLooks := .later }
def OptPicksUptoCardSaid : Prop := Claim7.holds Tryd.pinned (.plain (OpenSpec.upto optPicksSpec)) optPicksUptoCard
end Rows
end Go.Proofs.YtonbdcajepmgbaaDoor
