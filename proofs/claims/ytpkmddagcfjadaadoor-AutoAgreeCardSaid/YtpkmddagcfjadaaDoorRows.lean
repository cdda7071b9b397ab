/-
  NARROWER THAN 'FOR EVERY INPUT', by the rows' own cells (each row's printed sentence says how): AutoTable: laid · AutoWhole: laid · AutoSends: laid · AutoPlays: laid · AutoRuns: laid · AutoMay: laid · AutoEnds: laid · AutoAgree: laid · AutoNil: laid.
  DERIVED. THE GIVEN ROWS OF THIS SEAT. 9 by the template 'for every input the law returns true; each argument reads behind the call as it read before'; 0 by the template 'total and deterministic' (their statements: YtpkmddagcfjadaaDoorTotals.lean).
  GIVEN WITH THE SEED: the statements are not yours to turn. If you find one false, say at which input.
  Laid BY PROGRAM, IN A SANDBOX (cutbox-rows.mjs): the forced cells as the released guide's own fill.sh prints them over the translation c873f3dd8a524667… (all of the seat's roots in one cut). By AI agents, Wed Nov 11 2026. No macro, syntax, notation, axiom, sorry.
-/
import Derived.Test.YtpkmddagcfjadaaDoorChecked
import GoSem.Claim
import GoSem.ClaimJoined
import GoSem.ClaimMapViews
import Derived.JoinedTies
import Derived.KernelRfl
namespace Go.Proofs.YtpkmddagcfjadaaDoor
/- THE CELL 'sum', in the pinned program and in every row, IS THE sha256 OF THE DUMP (.gsa) THAT YtpkmddagcfjadaaDoorProg.lean LOADS. Nothing in Lean hashes anything: it is a label: what it is worth is what the hold of that sum in a sandbox is worth. -/
noncomputable def Tryd.pinned : Pinned := { name := "ytpkmddagcfjadaadoor", sum := "c873f3dd8a524667d985b791737333456bf9fec87b57437af8cee522143f5e75", checked := Tryd.checked }
namespace Rows
def none {H : Type} : Left H := { results := [], args := [] }

/- WHAT THE LISTED PACKAGE-LEVEL VARIABLES READ AS WHEN THE CALL BEGINS. Each datum BY PROGRAM (the guide's laid-datum.mjs) off the statement by which the dump's own 'gosem.cut.vars' lays the variable. In a bare row this is a premise. The card (YtpkmddagcfjadaaDoorCards.lean) ties it to the program's text. -/
def laid_tether_auto_stateNames {H : Type} : DataW H := .agg [.lit (.string [73, 110, 105, 116, 105, 97, 108]), .lit (.string [83, 116, 97, 114, 116, 105, 110, 103]), .lit (.string [67, 108, 111, 115, 101, 100]), .lit (.string [83, 116, 111, 112, 112, 101, 100]), .lit (.string [67, 108, 111, 115, 105, 110, 103]), .lit (.string [83, 116, 111, 112, 112, 105, 110, 103]), .lit (.string [82, 101, 113, 45, 83, 101, 110, 116]), .lit (.string [65, 99, 107, 45, 82, 99, 118, 100]), .lit (.string [65, 99, 107, 45, 83, 101, 110, 116]), .lit (.string [79, 112, 101, 110, 101, 100])]
def laid_tether_auto_eventNames {H : Type} : DataW H := .agg [.lit (.string [85, 112]), .lit (.string [68, 111, 119, 110]), .lit (.string [79, 112, 101, 110]), .lit (.string [67, 108, 111, 115, 101]), .lit (.string [84, 79, 43]), .lit (.string [84, 79, 45]), .lit (.string [82, 67, 82, 43]), .lit (.string [82, 67, 82, 45]), .lit (.string [82, 67, 65]), .lit (.string [82, 67, 78]), .lit (.string [82, 84, 82]), .lit (.string [82, 84, 65]), .lit (.string [82, 85, 67]), .lit (.string [82, 88, 74, 43]), .lit (.string [82, 88, 74, 45]), .lit (.string [82, 88, 82])]
def laid_tether_auto_table {H : Type} : DataW H := .agg [.agg [.lit (.int .u16 2), .lit (.int .u16 1878), .lit (.int .u16 15), .lit (.int .u16 15), .lit (.int .u16 15), .lit (.int .u16 15), .lit (.int .u16 15), .lit (.int .u16 15), .lit (.int .u16 15), .lit (.int .u16 15)], .agg [.lit (.int .u16 15), .lit (.int .u16 15), .lit (.int .u16 0), .lit (.int .u16 49), .lit (.int .u16 0), .lit (.int .u16 1), .lit (.int .u16 1), .lit (.int .u16 1), .lit (.int .u16 1), .lit (.int .u16 33)], .agg [.lit (.int .u16 49), .lit (.int .u16 1), .lit (.int .u16 1878), .lit (.int .u16 3), .lit (.int .u16 5), .lit (.int .u16 5), .lit (.int .u16 6), .lit (.int .u16 7), .lit (.int .u16 8), .lit (.int .u16 9)], .agg [.lit (.int .u16 0), .lit (.int .u16 64), .lit (.int .u16 2), .lit (.int .u16 2), .lit (.int .u16 4), .lit (.int .u16 4), .lit (.int .u16 2644), .lit (.int .u16 2644), .lit (.int .u16 2644), .lit (.int .u16 42276)], .agg [.lit (.int .u16 15), .lit (.int .u16 15), .lit (.int .u16 15), .lit (.int .u16 15), .lit (.int .u16 164), .lit (.int .u16 165), .lit (.int .u16 118), .lit (.int .u16 118), .lit (.int .u16 120), .lit (.int .u16 15)], .agg [.lit (.int .u16 15), .lit (.int .u16 15), .lit (.int .u16 15), .lit (.int .u16 15), .lit (.int .u16 66), .lit (.int .u16 67), .lit (.int .u16 67), .lit (.int .u16 67), .lit (.int .u16 67), .lit (.int .u16 15)], .agg [.lit (.int .u16 15), .lit (.int .u16 15), .lit (.int .u16 178), .lit (.int .u16 34648), .lit (.int .u16 4), .lit (.int .u16 5), .lit (.int .u16 136), .lit (.int .u16 393), .lit (.int .u16 136), .lit (.int .u16 34600)], .agg [.lit (.int .u16 15), .lit (.int .u16 15), .lit (.int .u16 178), .lit (.int .u16 38742), .lit (.int .u16 4), .lit (.int .u16 5), .lit (.int .u16 150), .lit (.int .u16 151), .lit (.int .u16 150), .lit (.int .u16 38694)], .agg [.lit (.int .u16 15), .lit (.int .u16 15), .lit (.int .u16 178), .lit (.int .u16 179), .lit (.int .u16 4), .lit (.int .u16 5), .lit (.int .u16 87), .lit (.int .u16 118), .lit (.int .u16 345), .lit (.int .u16 1830)], .agg [.lit (.int .u16 15), .lit (.int .u16 15), .lit (.int .u16 178), .lit (.int .u16 179), .lit (.int .u16 4), .lit (.int .u16 5), .lit (.int .u16 1878), .lit (.int .u16 118), .lit (.int .u16 1880), .lit (.int .u16 1830)], .agg [.lit (.int .u16 15), .lit (.int .u16 15), .lit (.int .u16 178), .lit (.int .u16 179), .lit (.int .u16 180), .lit (.int .u16 181), .lit (.int .u16 182), .lit (.int .u16 182), .lit (.int .u16 182), .lit (.int .u16 46629)], .agg [.lit (.int .u16 15), .lit (.int .u16 15), .lit (.int .u16 2), .lit (.int .u16 3), .lit (.int .u16 66), .lit (.int .u16 67), .lit (.int .u16 6), .lit (.int .u16 6), .lit (.int .u16 8), .lit (.int .u16 1830)], .agg [.lit (.int .u16 15), .lit (.int .u16 15), .lit (.int .u16 194), .lit (.int .u16 195), .lit (.int .u16 196), .lit (.int .u16 197), .lit (.int .u16 198), .lit (.int .u16 199), .lit (.int .u16 200), .lit (.int .u16 201)], .agg [.lit (.int .u16 15), .lit (.int .u16 15), .lit (.int .u16 2), .lit (.int .u16 3), .lit (.int .u16 4), .lit (.int .u16 5), .lit (.int .u16 6), .lit (.int .u16 6), .lit (.int .u16 8), .lit (.int .u16 9)], .agg [.lit (.int .u16 15), .lit (.int .u16 15), .lit (.int .u16 66), .lit (.int .u16 67), .lit (.int .u16 66), .lit (.int .u16 67), .lit (.int .u16 67), .lit (.int .u16 67), .lit (.int .u16 67), .lit (.int .u16 42277)], .agg [.lit (.int .u16 15), .lit (.int .u16 15), .lit (.int .u16 2), .lit (.int .u16 3), .lit (.int .u16 4), .lit (.int .u16 5), .lit (.int .u16 6), .lit (.int .u16 7), .lit (.int .u16 8), .lit (.int .u16 217)]]
def laid_tether_auto_codes {H : Type} : DataW H := .agg [.lit (.int .i64 0), .lit (.int .i64 0), .lit (.int .i64 0), .lit (.int .i64 0), .lit (.int .i64 0), .lit (.int .i64 0), .lit (.int .i64 0), .lit (.int .i64 1), .lit (.int .i64 2), .lit (.int .i64 3), .lit (.int .i64 5), .lit (.int .i64 6), .lit (.int .i64 7), .lit (.int .i64 10)]

/-- 'tetherlaw10.AutoTable': WHATEVER THE INPUT: true; the input reads as it did. -/
def autoTableSpec : ChangeSpec := { name := "autoTable", fn := fun _ => fun
  | [d1, d2] => { results := [.lit (.bool true)], args := [d1, d2] }
  | _ => none }
def autoTableRow : OpenClaim := { program := "ytpkmddagcfjadaadoor", sum := "c873f3dd8a524667d985b791737333456bf9fec87b57437af8cee522143f5e75", func := "tether/tetherlaw10.AutoTable", spec := "autoTable", named := ["tether/auto.table", "tether/auto.stateNames", "tether/auto.eventNames"], apart := false, laid := [("tether/auto.stateNames", laid_tether_auto_stateNames), ("tether/auto.eventNames", laid_tether_auto_eventNames), ("tether/auto.table", laid_tether_auto_table)] }
def AutoTableSaid : Prop := autoTableRow.holds Tryd.pinned (OpenSpec.ofChange autoTableSpec)

/-- ITS FALSE NEIGHBOUR: 'it returns false'. Refute it at one input. -/
def autoTableWrong : ChangeSpec := { name := "autoTable", fn := fun _ => fun
  | [d1, d2] => { results := [.lit (.bool false)], args := [d1, d2] }
  | _ => none }
def AutoTableWrongFalsely : Prop := autoTableRow.holds Tryd.pinned (OpenSpec.ofChange autoTableWrong)

/-- 'tetherlaw10.AutoWhole': WHATEVER THE INPUT: true; the input reads as it did. -/
def autoWholeSpec : ChangeSpec := { name := "autoWhole", fn := fun _ => fun
  | [d] => { results := [.lit (.bool true)], args := [d] }
  | _ => none }
def autoWholeRow : OpenClaim := { program := "ytpkmddagcfjadaadoor", sum := "c873f3dd8a524667d985b791737333456bf9fec87b57437af8cee522143f5e75", func := "tether/tetherlaw10.AutoWhole", spec := "autoWhole", named := ["tether/auto.table", "tether/auto.stateNames"], apart := false, laid := [("tether/auto.stateNames", laid_tether_auto_stateNames), ("tether/auto.table", laid_tether_auto_table)] }
def AutoWholeSaid : Prop := autoWholeRow.holds Tryd.pinned (OpenSpec.ofChange autoWholeSpec)

/-- ITS FALSE NEIGHBOUR: 'it returns false'. Refute it at one input. -/
def autoWholeWrong : ChangeSpec := { name := "autoWhole", fn := fun _ => fun
  | [d] => { results := [.lit (.bool false)], args := [d] }
  | _ => none }
def AutoWholeWrongFalsely : Prop := autoWholeRow.holds Tryd.pinned (OpenSpec.ofChange autoWholeWrong)

/-- 'tetherlaw10.AutoSends': WHATEVER THE INPUT: true; the input reads as it did. -/
def autoSendsSpec : ChangeSpec := { name := "autoSends", fn := fun _ => fun
  | [d] => { results := [.lit (.bool true)], args := [d] }
  | _ => none }
def autoSendsRow : OpenClaim := { program := "ytpkmddagcfjadaadoor", sum := "c873f3dd8a524667d985b791737333456bf9fec87b57437af8cee522143f5e75", func := "tether/tetherlaw10.AutoSends", spec := "autoSends", named := ["tether/auto.codes", "tether/auto.table", "tether/auto.stateNames"], apart := false, laid := [("tether/auto.codes", laid_tether_auto_codes), ("tether/auto.stateNames", laid_tether_auto_stateNames), ("tether/auto.table", laid_tether_auto_table)] }
def AutoSendsSaid : Prop := autoSendsRow.holds Tryd.pinned (OpenSpec.ofChange autoSendsSpec)

/-- ITS FALSE NEIGHBOUR: 'it returns false'. Refute it at one input. -/
def autoSendsWrong : ChangeSpec := { name := "autoSends", fn := fun _ => fun
  | [d] => { results := [.lit (.bool false)], args := [d] }
  | _ => none }
def AutoSendsWrongFalsely : Prop := autoSendsRow.holds Tryd.pinned (OpenSpec.ofChange autoSendsWrong)

/-- 'tetherlaw10.AutoPlays': WHATEVER THE INPUT: true; the input reads as it did. -/
def autoPlaysSpec : ChangeSpec := { name := "autoPlays", fn := fun _ => fun
  | [d1, d2, d3, d4] => { results := [.lit (.bool true)], args := [d1, d2, d3, d4] }
  | _ => none }
def autoPlaysRow : OpenClaim := { program := "ytpkmddagcfjadaadoor", sum := "c873f3dd8a524667d985b791737333456bf9fec87b57437af8cee522143f5e75", func := "tether/tetherlaw10.AutoPlays", spec := "autoPlays", named := ["tether/auto.table", "tether/auto.stateNames"], apart := false, laid := [("tether/auto.stateNames", laid_tether_auto_stateNames), ("tether/auto.table", laid_tether_auto_table)] }
def AutoPlaysSaid : Prop := autoPlaysRow.holds Tryd.pinned (OpenSpec.ofChange autoPlaysSpec)

/-- ITS FALSE NEIGHBOUR: 'it returns false'. Refute it at one input. -/
def autoPlaysWrong : ChangeSpec := { name := "autoPlays", fn := fun _ => fun
  | [d1, d2, d3, d4] => { results := [.lit (.bool false)], args := [d1, d2, d3, d4] }
  | _ => none }
def AutoPlaysWrongFalsely : Prop := autoPlaysRow.holds Tryd.pinned (OpenSpec.ofChange autoPlaysWrong)

/-- 'tetherlaw10.AutoRuns': WHATEVER THE INPUT: true; the input reads as it did. -/
def autoRunsSpec : ChangeSpec := { name := "autoRuns", fn := fun _ => fun
  | [d1, d2, d3] => { results := [.lit (.bool true)], args := [d1, d2, d3] }
  | _ => none }
def autoRunsRow : OpenClaim := { program := "ytpkmddagcfjadaadoor", sum := "c873f3dd8a524667d985b791737333456bf9fec87b57437af8cee522143f5e75", func := "tether/tetherlaw10.AutoRuns", spec := "autoRuns", named := ["tether/auto.table", "tether/auto.stateNames"], apart := false, laid := [("tether/auto.stateNames", laid_tether_auto_stateNames), ("tether/auto.table", laid_tether_auto_table)] }
def AutoRunsSaid : Prop := autoRunsRow.holds Tryd.pinned (OpenSpec.ofChange autoRunsSpec)

/-- ITS FALSE NEIGHBOUR: 'it returns false'. Refute it at one input. -/
def autoRunsWrong : ChangeSpec := { name := "autoRuns", fn := fun _ => fun
  | [d1, d2, d3] => { results := [.lit (.bool false)], args := [d1, d2, d3] }
  | _ => none }
def AutoRunsWrongFalsely : Prop := autoRunsRow.holds Tryd.pinned (OpenSpec.ofChange autoRunsWrong)

/-- 'tetherlaw10.AutoMay': WHATEVER THE INPUT: true; the input reads as it did. -/
def autoMaySpec : ChangeSpec := { name := "autoMay", fn := fun _ => fun
  | [d1, d2, d3] => { results := [.lit (.bool true)], args := [d1, d2, d3] }
  | _ => none }
def autoMayRow : OpenClaim := { program := "ytpkmddagcfjadaadoor", sum := "c873f3dd8a524667d985b791737333456bf9fec87b57437af8cee522143f5e75", func := "tether/tetherlaw10.AutoMay", spec := "autoMay", named := ["tether/auto.table", "tether/auto.stateNames", "tether/auto.codes"], apart := false, laid := [("tether/auto.codes", laid_tether_auto_codes), ("tether/auto.stateNames", laid_tether_auto_stateNames), ("tether/auto.table", laid_tether_auto_table)] }
def AutoMaySaid : Prop := autoMayRow.holds Tryd.pinned (OpenSpec.ofChange autoMaySpec)

/-- ITS FALSE NEIGHBOUR: 'it returns false'. Refute it at one input. -/
def autoMayWrong : ChangeSpec := { name := "autoMay", fn := fun _ => fun
  | [d1, d2, d3] => { results := [.lit (.bool false)], args := [d1, d2, d3] }
  | _ => none }
def AutoMayWrongFalsely : Prop := autoMayRow.holds Tryd.pinned (OpenSpec.ofChange autoMayWrong)

/-- 'tetherlaw10.AutoEnds': WHATEVER THE INPUT: true; the input reads as it did. -/
def autoEndsSpec : ChangeSpec := { name := "autoEnds", fn := fun _ => fun
  | [d1, d2, d3] => { results := [.lit (.bool true)], args := [d1, d2, d3] }
  | _ => none }
def autoEndsRow : OpenClaim := { program := "ytpkmddagcfjadaadoor", sum := "c873f3dd8a524667d985b791737333456bf9fec87b57437af8cee522143f5e75", func := "tether/tetherlaw10.AutoEnds", spec := "autoEnds", named := ["tether/auto.table", "tether/auto.stateNames"], apart := false, laid := [("tether/auto.stateNames", laid_tether_auto_stateNames), ("tether/auto.table", laid_tether_auto_table)] }
def AutoEndsSaid : Prop := autoEndsRow.holds Tryd.pinned (OpenSpec.ofChange autoEndsSpec)

/-- ITS FALSE NEIGHBOUR: 'it returns false'. Refute it at one input. -/
def autoEndsWrong : ChangeSpec := { name := "autoEnds", fn := fun _ => fun
  | [d1, d2, d3] => { results := [.lit (.bool false)], args := [d1, d2, d3] }
  | _ => none }
def AutoEndsWrongFalsely : Prop := autoEndsRow.holds Tryd.pinned (OpenSpec.ofChange autoEndsWrong)

/-- 'tetherlaw10.AutoAgree': WHATEVER THE INPUT: true; the input reads as it did. -/
def autoAgreeSpec : ChangeSpec := { name := "autoAgree", fn := fun _ => fun
  | [d1, d2, d3] => { results := [.lit (.bool true)], args := [d1, d2, d3] }
  | _ => none }
def autoAgreeRow : OpenClaim := { program := "ytpkmddagcfjadaadoor", sum := "c873f3dd8a524667d985b791737333456bf9fec87b57437af8cee522143f5e75", func := "tether/tetherlaw10.AutoAgree", spec := "autoAgree", named := ["tether/auto.table", "tether/auto.codes", "tether/auto.stateNames"], apart := false, laid := [("tether/auto.codes", laid_tether_auto_codes), ("tether/auto.stateNames", laid_tether_auto_stateNames), ("tether/auto.table", laid_tether_auto_table)] }
def AutoAgreeSaid : Prop := autoAgreeRow.holds Tryd.pinned (OpenSpec.ofChange autoAgreeSpec)

/-- ITS FALSE NEIGHBOUR: 'it returns false'. Refute it at one input. -/
def autoAgreeWrong : ChangeSpec := { name := "autoAgree", fn := fun _ => fun
  | [d1, d2, d3] => { results := [.lit (.bool false)], args := [d1, d2, d3] }
  | _ => none }
def AutoAgreeWrongFalsely : Prop := autoAgreeRow.holds Tryd.pinned (OpenSpec.ofChange autoAgreeWrong)

/-- 'tetherlaw10.AutoNil': WHATEVER THE INPUT: true; the input reads as it did. -/
def autoNilSpec : ChangeSpec := { name := "autoNil", fn := fun _ => fun
  | [d] => { results := [.lit (.bool true)], args := [d] }
  | _ => none }
def autoNilRow : OpenClaim := { program := "ytpkmddagcfjadaadoor", sum := "c873f3dd8a524667d985b791737333456bf9fec87b57437af8cee522143f5e75", func := "tether/tetherlaw10.AutoNil", spec := "autoNil", named := ["tether/auto.table", "tether/auto.stateNames"], apart := false, laid := [("tether/auto.stateNames", laid_tether_auto_stateNames), ("tether/auto.table", laid_tether_auto_table)] }
def AutoNilSaid : Prop := autoNilRow.holds Tryd.pinned (OpenSpec.ofChange autoNilSpec)

/-- ITS FALSE NEIGHBOUR: 'it returns false'. Refute it at one input. -/
def autoNilWrong : ChangeSpec := { name := "autoNil", fn := fun _ => fun
  | [d] => { results := [.lit (.bool false)], args := [d] }
  | _ => none }
def AutoNilWrongFalsely : Prop := autoNilRow.holds Tryd.pinned (OpenSpec.ofChange autoNilWrong)

/- THE SECOND FORM. 'bulk': how many values and letters a reading holds, each counted each time it is reached (what is shared counts as often as it is met; a slice's spare places count too). A statement '..UptoSaid' is the law's where the arguments, and the package variables that the reading takes, are together of bulk at most 1048576: NARROWER than '..Said'. Prove '..Said' where nothing that the law and all that it calls make is longer than what came in: it says more and counts as full. Else prove '..UptoSaid'. A law counts once. -/
mutual
def uptoBulk {H : Type} : DataW H → Nat
  | .lit (.string bytes) => bytes.length + 1
  | .lit _ => 1
  | .nil => 1
  | .ptr d => uptoBulk d + 1
  | .slice elems spare => uptoBulkAll elems + uptoBulkAll spare + 1
  | .agg parts => uptoBulkAll parts + 1
  | .iface _ d => uptoBulk d + 1
  | .map entries => uptoBulkEntries entries + 1
  | .held _ => 1
def uptoBulkAll {H : Type} : List (DataW H) → Nat
  | [] => 0
  | d :: r => uptoBulk d + uptoBulkAll r
def uptoBulkEntries {H : Type} : List (Lit × DataW H) → Nat
  | [] => 0
  | x :: r => uptoBulkEntry x + uptoBulkEntries r
def uptoBulkEntry {H : Type} : Lit × DataW H → Nat
  | (.string bytes, d) => bytes.length + uptoBulk d + 1
  | (_, d) => uptoBulk d + 1
 end
def uptoSmall : (H : Type) → List (DataW H) → Bool := fun _ ds => decide (uptoBulkAll ds ≤ 1048576)
def OpenSpec.upto (s : _root_.Go.ChangeSpec) : _root_.Go.OpenSpec := { _root_.Go.OpenSpec.ofChange s with cond := some uptoSmall }

/-- 'tetherlaw10.AutoTable', WHERE WHAT IT READS IS OF BULK AT MOST 1048576: true; the input reads as it did. -/
def autoTableUptoRow : OpenClaim := { program := "ytpkmddagcfjadaadoor", sum := "c873f3dd8a524667d985b791737333456bf9fec87b57437af8cee522143f5e75", func := "tether/tetherlaw10.AutoTable", spec := "autoTable", named := ["tether/auto.table", "tether/auto.stateNames", "tether/auto.eventNames"], apart := false, laid := [("tether/auto.stateNames", laid_tether_auto_stateNames), ("tether/auto.eventNames", laid_tether_auto_eventNames), ("tether/auto.table", laid_tether_auto_table)], narrowed := true }
def AutoTableUptoSaid : Prop := autoTableUptoRow.holds Tryd.pinned (OpenSpec.upto autoTableSpec)

/-- 'tetherlaw10.AutoWhole', WHERE WHAT IT READS IS OF BULK AT MOST 1048576: true; the input reads as it did. -/
def autoWholeUptoRow : OpenClaim := { program := "ytpkmddagcfjadaadoor", sum := "c873f3dd8a524667d985b791737333456bf9fec87b57437af8cee522143f5e75", func := "tether/tetherlaw10.AutoWhole", spec := "autoWhole", named := ["tether/auto.table", "tether/auto.stateNames"], apart := false, laid := [("tether/auto.stateNames", laid_tether_auto_stateNames), ("tether/auto.table", laid_tether_auto_table)], narrowed := true }
def AutoWholeUptoSaid : Prop := autoWholeUptoRow.holds Tryd.pinned (OpenSpec.upto autoWholeSpec)

/-- 'tetherlaw10.AutoSends', WHERE WHAT IT READS IS OF BULK AT MOST 1048576: true; the input reads as it did. -/
def autoSendsUptoRow : OpenClaim := { program := "ytpkmddagcfjadaadoor", sum := "c873f3dd8a524667d985b791737333456bf9fec87b57437af8cee522143f5e75", func := "tether/tetherlaw10.AutoSends", spec := "autoSends", named := ["tether/auto.codes", "tether/auto.table", "tether/auto.stateNames"], apart := false, laid := [("tether/auto.codes", laid_tether_auto_codes), ("tether/auto.stateNames", laid_tether_auto_stateNames), ("tether/auto.table", laid_tether_auto_table)], narrowed := true }
def AutoSendsUptoSaid : Prop := autoSendsUptoRow.holds Tryd.pinned (OpenSpec.upto autoSendsSpec)

/-- 'tetherlaw10.AutoPlays', WHERE WHAT IT READS IS OF BULK AT MOST 1048576: true; the input reads as it did. -/
def autoPlaysUptoRow : OpenClaim := { program := "ytpkmddagcfjadaadoor", sum := "c873f3dd8a524667d985b791737333456bf9fec87b57437af8cee522143f5e75", func := "tether/tetherlaw10.AutoPlays", spec := "autoPlays", named := ["tether/auto.table", "tether/auto.stateNames"], apart := false, laid := [("tether/auto.stateNames", laid_tether_auto_stateNames), ("tether/auto.table", laid_tether_auto_table)], narrowed := true }
def AutoPlaysUptoSaid : Prop := autoPlaysUptoRow.holds Tryd.pinned (OpenSpec.upto autoPlaysSpec)

/-- 'tetherlaw10.AutoRuns', WHERE WHAT IT READS IS OF BULK AT MOST 1048576: true; the input reads as it did. -/
def autoRunsUptoRow : OpenClaim := { program := "ytpkmddagcfjadaadoor", sum := "c873f3dd8a524667d985b791737333456bf9fec87b57437af8cee522143f5e75", func := "tether/tetherlaw10.AutoRuns", spec := "autoRuns", named := ["tether/auto.table", "tether/auto.stateNames"], apart := false, laid := [("tether/auto.stateNames", laid_tether_auto_stateNames), ("tether/auto.table", laid_tether_auto_table)], narrowed := true }
def AutoRunsUptoSaid : Prop := autoRunsUptoRow.holds Tryd.pinned (OpenSpec.upto autoRunsSpec)

/-- 'tetherlaw10.AutoMay', WHERE WHAT IT READS IS OF BULK AT MOST 1048576: true; the input reads as it did. -/
def autoMayUptoRow : OpenClaim := { program := "ytpkmddagcfjadaadoor", sum := "c873f3dd8a524667d985b791737333456bf9fec87b57437af8cee522143f5e75", func := "tether/tetherlaw10.AutoMay", spec := "autoMay", named := ["tether/auto.table", "tether/auto.stateNames", "tether/auto.codes"], apart := false, laid := [("tether/auto.codes", laid_tether_auto_codes), ("tether/auto.stateNames", laid_tether_auto_stateNames), ("tether/auto.table", laid_tether_auto_table)], narrowed := true }
def AutoMayUptoSaid : Prop := autoMayUptoRow.holds Tryd.pinned (OpenSpec.upto autoMaySpec)

/-- 'tetherlaw10.AutoEnds', WHERE WHAT IT READS IS OF BULK AT MOST 1048576: true; the input reads as it did. -/
def autoEndsUptoRow : OpenClaim := { program := "ytpkmddagcfjadaadoor", sum := "c873f3dd8a524667d985b791737333456bf9fec87b57437af8cee522143f5e75", func := "tether/tetherlaw10.AutoEnds", spec := "autoEnds", named := ["tether/auto.table", "tether/auto.stateNames"], apart := false, laid := [("tether/auto.stateNames", laid_tether_auto_stateNames), ("tether/auto.table", laid_tether_auto_table)], narrowed := true }
def AutoEndsUptoSaid : Prop := autoEndsUptoRow.holds Tryd.pinned (OpenSpec.upto autoEndsSpec)

/-- 'tetherlaw10.AutoAgree', WHERE WHAT IT READS IS OF BULK AT MOST 1048576: true; the input reads as it did. -/
def autoAgreeUptoRow : OpenClaim := { program := "ytpkmddagcfjadaadoor", sum := "c873f3dd8a524667d985b791737333456bf9fec87b57437af8cee522143f5e75", func := "tether/tetherlaw10.AutoAgree", spec := "autoAgree", named := ["tether/auto.table", "tether/auto.codes", "tether/auto.stateNames"], apart := false, laid := [("tether/auto.codes", laid_tether_auto_codes), ("tether/auto.stateNames", laid_tether_auto_stateNames), ("tether/auto.table", laid_tether_auto_table)], narrowed := true }
def AutoAgreeUptoSaid : Prop := autoAgreeUptoRow.holds Tryd.pinned (OpenSpec.upto autoAgreeSpec)

/-- 'tetherlaw10.AutoNil', WHERE WHAT IT READS IS OF BULK AT MOST 1048576: true; the input reads as it did. -/
def autoNilUptoRow : OpenClaim := { program := "ytpkmddagcfjadaadoor", sum := "c873f3dd8a524667d985b791737333456bf9fec87b57437af8cee522143f5e75", func := "tether/tetherlaw10.AutoNil", spec := "autoNil", named := ["tether/auto.table", "tether/auto.stateNames"], apart := false, laid := [("tether/auto.stateNames", laid_tether_auto_stateNames), ("tether/auto.table", laid_tether_auto_table)], narrowed := true }
def AutoNilUptoSaid : Prop := autoNilUptoRow.holds Tryd.pinned (OpenSpec.upto autoNilSpec)

end Rows
end Go.Proofs.YtpkmddagcfjadaaDoor
