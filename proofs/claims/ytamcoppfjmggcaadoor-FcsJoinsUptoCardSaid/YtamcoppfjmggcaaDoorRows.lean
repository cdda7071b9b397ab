/-
  NARROWER THAN 'FOR EVERY INPUT', by the rows' own cells (each row's printed sentence says how): OctetDigits: laid · FcsSums: laid · FcsCuts: laid · FcsJoins: laid · FcsFar: laid · FcsChecks: laid · FcsGood: laid.
  DERIVED. THE GIVEN ROWS OF THIS SEAT. 7 by the template 'for every input the law returns true; each argument reads behind the call as it read before'; 0 by the template 'total and deterministic' (their statements: YtamcoppfjmggcaaDoorTotals.lean).
  GIVEN WITH THE SEED: the statements are not yours to turn. If you find one false, say at which input.
  Laid BY PROGRAM, IN A SANDBOX (cutbox-rows.mjs): the forced cells as the released guide's own fill.sh prints them over the translation f0fbe46bc5671915… (all of the seat's roots in one cut). By AI agents, Wed Nov 11 2026. No macro, syntax, notation, axiom, sorry.
-/
import Derived.Test.YtamcoppfjmggcaaDoorChecked
import GoSem.Claim
import GoSem.ClaimJoined
import GoSem.ClaimMapViews
import Derived.JoinedTies
import Derived.KernelRfl
namespace Go.Proofs.YtamcoppfjmggcaaDoor
/- THE CELL 'sum', in the pinned program and in every row, IS THE sha256 OF THE DUMP (.gsa) THAT YtamcoppfjmggcaaDoorProg.lean LOADS. Nothing in Lean hashes anything: it is a label: what it is worth is what the hold of that sum in a sandbox is worth. -/
noncomputable def Tryd.pinned : Pinned := { name := "ytamcoppfjmggcaadoor", sum := "f0fbe46bc5671915e3519b02d63286379360a8034d319e5a15fff19e9b2bcac6", checked := Tryd.checked }
namespace Rows
def none {H : Type} : Left H := { results := [], args := [] }

/- WHAT THE LISTED PACKAGE-LEVEL VARIABLES READ AS WHEN THE CALL BEGINS. Each datum BY PROGRAM (the guide's laid-datum.mjs) off the statement by which the dump's own 'gosem.cut.vars' lays the variable. In a bare row this is a premise. The card (YtamcoppfjmggcaaDoorCards.lean) ties it to the program's text. -/
def laid_tether_octet_digits {H : Type} : DataW H := .agg [.lit (.int .u8 48), .lit (.int .u8 49), .lit (.int .u8 50), .lit (.int .u8 51), .lit (.int .u8 52), .lit (.int .u8 53), .lit (.int .u8 54), .lit (.int .u8 55), .lit (.int .u8 56), .lit (.int .u8 57), .lit (.int .u8 97), .lit (.int .u8 98), .lit (.int .u8 99), .lit (.int .u8 100), .lit (.int .u8 101), .lit (.int .u8 102)]
def laid_tether_fcs_half16 {H : Type} : DataW H := .agg [.lit (.int .u16 0), .lit (.int .u16 4225), .lit (.int .u16 8450), .lit (.int .u16 12675), .lit (.int .u16 16900), .lit (.int .u16 21125), .lit (.int .u16 25350), .lit (.int .u16 29575), .lit (.int .u16 33800), .lit (.int .u16 38025), .lit (.int .u16 42250), .lit (.int .u16 46475), .lit (.int .u16 50700), .lit (.int .u16 54925), .lit (.int .u16 59150), .lit (.int .u16 63375)]
def laid_tether_fcs_half32 {H : Type} : DataW H := .agg [.lit (.int .u32 0), .lit (.int .u32 498536548), .lit (.int .u32 997073096), .lit (.int .u32 651767980), .lit (.int .u32 1994146192), .lit (.int .u32 1802195444), .lit (.int .u32 1303535960), .lit (.int .u32 1342533948), .lit (.int .u32 3988292384), .lit (.int .u32 4027552580), .lit (.int .u32 3604390888), .lit (.int .u32 3412177804), .lit (.int .u32 2607071920), .lit (.int .u32 2262029012), .lit (.int .u32 2685067896), .lit (.int .u32 3183342108)]

/-- 'tetherlaw01.OctetDigits': WHATEVER THE INPUT: true; the input reads as it did. -/
def octetDigitsSpec : ChangeSpec := { name := "octetDigits", fn := fun _ => fun
  | [d1, d2] => { results := [.lit (.bool true)], args := [d1, d2] }
  | _ => none }
def octetDigitsRow : OpenClaim := { program := "ytamcoppfjmggcaadoor", sum := "f0fbe46bc5671915e3519b02d63286379360a8034d319e5a15fff19e9b2bcac6", func := "tether/tetherlaw01.OctetDigits", spec := "octetDigits", named := ["tether/octet.digits"], apart := false, laid := [("tether/octet.digits", laid_tether_octet_digits)] }
def OctetDigitsSaid : Prop := octetDigitsRow.holds Tryd.pinned (OpenSpec.ofChange octetDigitsSpec)

/-- ITS FALSE NEIGHBOUR: 'it returns false'. Refute it at one input. -/
def octetDigitsWrong : ChangeSpec := { name := "octetDigits", fn := fun _ => fun
  | [d1, d2] => { results := [.lit (.bool false)], args := [d1, d2] }
  | _ => none }
def OctetDigitsWrongFalsely : Prop := octetDigitsRow.holds Tryd.pinned (OpenSpec.ofChange octetDigitsWrong)

/-- 'tetherlaw02.FcsSums': WHATEVER THE INPUT: true; the input reads as it did. -/
def fcsSumsSpec : ChangeSpec := { name := "fcsSums", fn := fun _ => fun
  | [d1, d2, d3] => { results := [.lit (.bool true)], args := [d1, d2, d3] }
  | _ => none }
def fcsSumsRow : OpenClaim := { program := "ytamcoppfjmggcaadoor", sum := "f0fbe46bc5671915e3519b02d63286379360a8034d319e5a15fff19e9b2bcac6", func := "tether/tetherlaw02.FcsSums", spec := "fcsSums", named := ["tether/fcs.half16", "tether/fcs.half32"], apart := false, laid := [("tether/fcs.half16", laid_tether_fcs_half16), ("tether/fcs.half32", laid_tether_fcs_half32)] }
def FcsSumsSaid : Prop := fcsSumsRow.holds Tryd.pinned (OpenSpec.ofChange fcsSumsSpec)

/-- ITS FALSE NEIGHBOUR: 'it returns false'. Refute it at one input. -/
def fcsSumsWrong : ChangeSpec := { name := "fcsSums", fn := fun _ => fun
  | [d1, d2, d3] => { results := [.lit (.bool false)], args := [d1, d2, d3] }
  | _ => none }
def FcsSumsWrongFalsely : Prop := fcsSumsRow.holds Tryd.pinned (OpenSpec.ofChange fcsSumsWrong)

/-- 'tetherlaw02.FcsCuts': WHATEVER THE INPUT: true; the input reads as it did. -/
def fcsCutsSpec : ChangeSpec := { name := "fcsCuts", fn := fun _ => fun
  | [d] => { results := [.lit (.bool true)], args := [d] }
  | _ => none }
def fcsCutsRow : OpenClaim := { program := "ytamcoppfjmggcaadoor", sum := "f0fbe46bc5671915e3519b02d63286379360a8034d319e5a15fff19e9b2bcac6", func := "tether/tetherlaw02.FcsCuts", spec := "fcsCuts", named := ["tether/fcs.half16", "tether/fcs.half32"], apart := false, laid := [("tether/fcs.half16", laid_tether_fcs_half16), ("tether/fcs.half32", laid_tether_fcs_half32)] }
def FcsCutsSaid : Prop := fcsCutsRow.holds Tryd.pinned (OpenSpec.ofChange fcsCutsSpec)

/-- ITS FALSE NEIGHBOUR: 'it returns false'. Refute it at one input. -/
def fcsCutsWrong : ChangeSpec := { name := "fcsCuts", fn := fun _ => fun
  | [d] => { results := [.lit (.bool false)], args := [d] }
  | _ => none }
def FcsCutsWrongFalsely : Prop := fcsCutsRow.holds Tryd.pinned (OpenSpec.ofChange fcsCutsWrong)

/-- 'tetherlaw02.FcsJoins': WHATEVER THE INPUT: true; the input reads as it did. -/
def fcsJoinsSpec : ChangeSpec := { name := "fcsJoins", fn := fun _ => fun
  | [d1, d2, d3, d4, d5, d6] => { results := [.lit (.bool true)], args := [d1, d2, d3, d4, d5, d6] }
  | _ => none }
def fcsJoinsRow : OpenClaim := { program := "ytamcoppfjmggcaadoor", sum := "f0fbe46bc5671915e3519b02d63286379360a8034d319e5a15fff19e9b2bcac6", func := "tether/tetherlaw02.FcsJoins", spec := "fcsJoins", named := ["tether/fcs.half16", "tether/fcs.half32"], apart := false, laid := [("tether/fcs.half16", laid_tether_fcs_half16), ("tether/fcs.half32", laid_tether_fcs_half32)] }
def FcsJoinsSaid : Prop := fcsJoinsRow.holds Tryd.pinned (OpenSpec.ofChange fcsJoinsSpec)

/-- ITS FALSE NEIGHBOUR: 'it returns false'. Refute it at one input. -/
def fcsJoinsWrong : ChangeSpec := { name := "fcsJoins", fn := fun _ => fun
  | [d1, d2, d3, d4, d5, d6] => { results := [.lit (.bool false)], args := [d1, d2, d3, d4, d5, d6] }
  | _ => none }
def FcsJoinsWrongFalsely : Prop := fcsJoinsRow.holds Tryd.pinned (OpenSpec.ofChange fcsJoinsWrong)

/-- 'tetherlaw02.FcsFar': WHATEVER THE INPUT: true; the input reads as it did. -/
def fcsFarSpec : ChangeSpec := { name := "fcsFar", fn := fun _ => fun
  | [d1, d2, d3] => { results := [.lit (.bool true)], args := [d1, d2, d3] }
  | _ => none }
def fcsFarRow : OpenClaim := { program := "ytamcoppfjmggcaadoor", sum := "f0fbe46bc5671915e3519b02d63286379360a8034d319e5a15fff19e9b2bcac6", func := "tether/tetherlaw02.FcsFar", spec := "fcsFar", named := ["tether/fcs.half16", "tether/fcs.half32"], apart := false, laid := [("tether/fcs.half16", laid_tether_fcs_half16), ("tether/fcs.half32", laid_tether_fcs_half32)] }
def FcsFarSaid : Prop := fcsFarRow.holds Tryd.pinned (OpenSpec.ofChange fcsFarSpec)

/-- ITS FALSE NEIGHBOUR: 'it returns false'. Refute it at one input. -/
def fcsFarWrong : ChangeSpec := { name := "fcsFar", fn := fun _ => fun
  | [d1, d2, d3] => { results := [.lit (.bool false)], args := [d1, d2, d3] }
  | _ => none }
def FcsFarWrongFalsely : Prop := fcsFarRow.holds Tryd.pinned (OpenSpec.ofChange fcsFarWrong)

/-- 'tetherlaw02.FcsChecks': WHATEVER THE INPUT: true; the input reads as it did. -/
def fcsChecksSpec : ChangeSpec := { name := "fcsChecks", fn := fun _ => fun
  | [d1, d2] => { results := [.lit (.bool true)], args := [d1, d2] }
  | _ => none }
def fcsChecksRow : OpenClaim := { program := "ytamcoppfjmggcaadoor", sum := "f0fbe46bc5671915e3519b02d63286379360a8034d319e5a15fff19e9b2bcac6", func := "tether/tetherlaw02.FcsChecks", spec := "fcsChecks", named := ["tether/fcs.half16", "tether/fcs.half32"], apart := false, laid := [("tether/fcs.half16", laid_tether_fcs_half16), ("tether/fcs.half32", laid_tether_fcs_half32)] }
def FcsChecksSaid : Prop := fcsChecksRow.holds Tryd.pinned (OpenSpec.ofChange fcsChecksSpec)

/-- ITS FALSE NEIGHBOUR: 'it returns false'. Refute it at one input. -/
def fcsChecksWrong : ChangeSpec := { name := "fcsChecks", fn := fun _ => fun
  | [d1, d2] => { results := [.lit (.bool false)], args := [d1, d2] }
  | _ => none }
def FcsChecksWrongFalsely : Prop := fcsChecksRow.holds Tryd.pinned (OpenSpec.ofChange fcsChecksWrong)

/-- 'tetherlaw02.FcsGood': WHATEVER THE INPUT: true; the input reads as it did. -/
def fcsGoodSpec : ChangeSpec := { name := "fcsGood", fn := fun _ => fun
  | [d] => { results := [.lit (.bool true)], args := [d] }
  | _ => none }
def fcsGoodRow : OpenClaim := { program := "ytamcoppfjmggcaadoor", sum := "f0fbe46bc5671915e3519b02d63286379360a8034d319e5a15fff19e9b2bcac6", func := "tether/tetherlaw02.FcsGood", spec := "fcsGood", named := ["tether/fcs.half16", "tether/fcs.half32"], apart := false, laid := [("tether/fcs.half16", laid_tether_fcs_half16), ("tether/fcs.half32", laid_tether_fcs_half32)] }
def FcsGoodSaid : Prop := fcsGoodRow.holds Tryd.pinned (OpenSpec.ofChange fcsGoodSpec)

/-- ITS FALSE NEIGHBOUR: 'it returns false'. Refute it at one input. -/
def fcsGoodWrong : ChangeSpec := { name := "fcsGood", fn := fun _ => fun
  | [d] => { results := [.lit (.bool false)], args := [d] }
  | _ => none }
def FcsGoodWrongFalsely : Prop := fcsGoodRow.holds Tryd.pinned (OpenSpec.ofChange fcsGoodWrong)

/- THE SECOND FORM. 'bulk': how many values and letters a reading holds, each counted each time it is reached (what is shared counts as often as it is met; a slice's spare places count too). A statement '..UptoSaid' is the law's where the arguments, and the package variables that the reading takes, are together of bulk at most 1048576: NARROWER than '..Said'. Prove '..Said' where nothing that the law and all that it calls make is longer than what came in: it says more and counts as full. Else prove '..UptoSaid'. A law counts once. -/
mutual
def uptoBulk {H : Type} : DataW H → Nat
  | .lit (.string bytes) => bytes.length + 1
  | .lit _ => 1
  | .nil => 1
  | .ptr d => uptoBulk d + 1
  | .slice elems spare => uptoBulkAll elems + uptoBulkAll spare + 1
  | .agg parts => uptoBulkAll parts + 1
  | .iface _ d => uptoBulk d + 1
  | .map entries => uptoBulkEntries entries + 1
  | .held _ => 1
def uptoBulkAll {H : Type} : List (DataW H) → Nat
  | [] => 0
  | d :: r => uptoBulk d + uptoBulkAll r
def uptoBulkEntries {H : Type} : List (Lit × DataW H) → Nat
  | [] => 0
  | x :: r => uptoBulkEntry x + uptoBulkEntries r
def uptoBulkEntry {H : Type} : Lit × DataW H → Nat
  | (.string bytes, d) => bytes.length + uptoBulk d + 1
  | (_, d) => uptoBulk d + 1
 end
def uptoSmall : (H : Type) → List (DataW H) → Bool := fun _ ds => decide (uptoBulkAll ds ≤ 1048576)
def OpenSpec.upto (s : _root_.Go.ChangeSpec) : _root_.Go.OpenSpec := { _root_.Go.OpenSpec.ofChange s with cond := some uptoSmall }

/-- 'tetherlaw01.OctetDigits', WHERE WHAT IT READS IS OF BULK AT MOST 1048576: true; the input reads as it did. -/
def octetDigitsUptoRow : OpenClaim := { program := "ytamcoppfjmggcaadoor", sum := "f0fbe46bc5671915e3519b02d63286379360a8034d319e5a15fff19e9b2bcac6", func := "tether/tetherlaw01.OctetDigits", spec := "octetDigits", named := ["tether/octet.digits"], apart := false, laid := [("tether/octet.digits", laid_tether_octet_digits)], narrowed := true }
def OctetDigitsUptoSaid : Prop := octetDigitsUptoRow.holds Tryd.pinned (OpenSpec.upto octetDigitsSpec)

/-- 'tetherlaw02.FcsSums', WHERE WHAT IT READS IS OF BULK AT MOST 1048576: true; the input reads as it did. -/
def fcsSumsUptoRow : OpenClaim := { program := "ytamcoppfjmggcaadoor", sum := "f0fbe46bc5671915e3519b02d63286379360a8034d319e5a15fff19e9b2bcac6", func := "tether/tetherlaw02.FcsSums", spec := "fcsSums", named := ["tether/fcs.half16", "tether/fcs.half32"], apart := false, laid := [("tether/fcs.half16", laid_tether_fcs_half16), ("tether/fcs.half32", laid_tether_fcs_half32)], narrowed := true }
def FcsSumsUptoSaid : Prop := fcsSumsUptoRow.holds Tryd.pinned (OpenSpec.upto fcsSumsSpec)

/-- 'tetherlaw02.FcsCuts', WHERE WHAT IT READS IS OF BULK AT MOST 1048576: true; the input reads as it did. -/
def fcsCutsUptoRow : OpenClaim := { program := "ytamcoppfjmggcaadoor", sum := "f0fbe46bc5671915e3519b02d63286379360a8034d319e5a15fff19e9b2bcac6", func := "tether/tetherlaw02.FcsCuts", spec := "fcsCuts", named := ["tether/fcs.half16", "tether/fcs.half32"], apart := false, laid := [("tether/fcs.half16", laid_tether_fcs_half16), ("tether/fcs.half32", laid_tether_fcs_half32)], narrowed := true }
def FcsCutsUptoSaid : Prop := fcsCutsUptoRow.holds Tryd.pinned (OpenSpec.upto fcsCutsSpec)

/-- 'tetherlaw02.FcsJoins', WHERE WHAT IT READS IS OF BULK AT MOST 1048576: true; the input reads as it did. -/
def fcsJoinsUptoRow : OpenClaim := { program := "ytamcoppfjmggcaadoor", sum := "f0fbe46bc5671915e3519b02d63286379360a8034d319e5a15fff19e9b2bcac6", func := "tether/tetherlaw02.FcsJoins", spec := "fcsJoins", named := ["tether/fcs.half16", "tether/fcs.half32"], apart := false, laid := [("tether/fcs.half16", laid_tether_fcs_half16), ("tether/fcs.half32", laid_tether_fcs_half32)], narrowed := true }
def FcsJoinsUptoSaid : Prop := fcsJoinsUptoRow.holds Tryd.pinned (OpenSpec.upto fcsJoinsSpec)

/-- 'tetherlaw02.FcsFar', WHERE WHAT IT READS IS OF BULK AT MOST 1048576: true; the input reads as it did. -/
def fcsFarUptoRow : OpenClaim := { program := "ytamcoppfjmggcaadoor", sum := "f0fbe46bc5671915e3519b02d63286379360a8034d319e5a15fff19e9b2bcac6", func := "tether/tetherlaw02.FcsFar", spec := "fcsFar", named := ["tether/fcs.half16", "tether/fcs.half32"], apart := false, laid := [("tether/fcs.half16", laid_tether_fcs_half16), ("tether/fcs.half32", laid_tether_fcs_half32)], narrowed := true }
def FcsFarUptoSaid : Prop := fcsFarUptoRow.holds Tryd.pinned (OpenSpec.upto fcsFarSpec)

/-- 'tetherlaw02.FcsChecks', WHERE WHAT IT READS IS OF BULK AT MOST 1048576: true; the input reads as it did. -/
def fcsChecksUptoRow : OpenClaim := { program := "ytamcoppfjmggcaadoor", sum := "f0fbe46bc5671915e3519b02d63286379360a8034d319e5a15fff19e9b2bcac6", func := "tether/tetherlaw02.FcsChecks", spec := "fcsChecks", named := ["tether/fcs.half16", "tether/fcs.half32"], apart := false, laid := [("tether/fcs.half16", laid_tether_fcs_half16), ("tether/fcs.half32", laid_tether_fcs_half32)], narrowed := true }
def FcsChecksUptoSaid : Prop := fcsChecksUptoRow.holds Tryd.pinned (OpenSpec.upto fcsChecksSpec)

/-- 'tetherlaw02.FcsGood', WHERE WHAT IT READS IS OF BULK AT MOST 1048576: true; the input reads as it did. -/
def fcsGoodUptoRow : OpenClaim := { program := "ytamcoppfjmggcaadoor", sum := "f0fbe46bc5671915e3519b02d63286379360a8034d319e5a15fff19e9b2bcac6", func := "tether/tetherlaw02.FcsGood", spec := "fcsGood", named := ["tether/fcs.half16", "tether/fcs.half32"], apart := false, laid := [("tether/fcs.half16", laid_tether_fcs_half16), ("tether/fcs.half32", laid_tether_fcs_half32)], narrowed := true }
def FcsGoodUptoSaid : Prop := fcsGoodUptoRow.holds Tryd.pinned (OpenSpec.upto fcsGoodSpec)

end Rows
end Go.Proofs.YtamcoppfjmggcaaDoor
