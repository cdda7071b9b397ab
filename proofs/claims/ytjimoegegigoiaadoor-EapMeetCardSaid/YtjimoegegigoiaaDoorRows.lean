/-
  NARROWER THAN 'FOR EVERY INPUT', by the rows' own cells (each row's printed sentence says how): EapMessages: laid · EapProves: laid · EapMeet: laid · EapNil: laid · IpTrims: laid · IpTurned: laid · IpLives: laid · IpSums: laid.
  DERIVED. THE GIVEN ROWS OF THIS SEAT. 8 by the template 'for every input the law returns true; each argument reads behind the call as it read before'; 0 by the template 'total and deterministic' (their statements: YtjimoegegigoiaaDoorTotals.lean).
  GIVEN WITH THE SEED: the statements are not yours to turn. If you find one false, say at which input.
  Laid BY PROGRAM, IN A SANDBOX (cutbox-rows.mjs): the forced cells as the released guide's own fill.sh prints them over the translation 1f5c0c3f5a9ad96d… (all of the seat's roots in one cut). By AI agents, Wed Nov 11 2026. No macro, syntax, notation, axiom, sorry.
-/
import Derived.Test.YtjimoegegigoiaaDoorChecked
import GoSem.Claim
import GoSem.ClaimJoined
import GoSem.ClaimMapViews
import Derived.JoinedTies
import Derived.KernelRfl
namespace Go.Proofs.YtjimoegegigoiaaDoor
/- THE CELL 'sum', in the pinned program and in every row, IS THE sha256 OF THE DUMP (.gsa) THAT YtjimoegegigoiaaDoorProg.lean LOADS. Nothing in Lean hashes anything: it is a label: what it is worth is what the hold of that sum in a sandbox is worth. -/
noncomputable def Tryd.pinned : Pinned := { name := "ytjimoegegigoiaadoor", sum := "1f5c0c3f5a9ad96dfd34115ddd55759a18b4989fd11dc318c1849538cef18d1b", checked := Tryd.checked }
namespace Rows
def none {H : Type} : Left H := { results := [], args := [] }

/- WHAT THE LISTED PACKAGE-LEVEL VARIABLES READ AS WHEN THE CALL BEGINS. Each datum BY PROGRAM (the guide's laid-datum.mjs) off the statement by which the dump's own 'gosem.cut.vars' lays the variable. In a bare row this is a premise. The card (YtjimoegegigoiaaDoorCards.lean) ties it to the program's text. -/
def laid_tether_md5_addends {H : Type} : DataW H := .agg [.lit (.int .u32 3614090360), .lit (.int .u32 3905402710), .lit (.int .u32 606105819), .lit (.int .u32 3250441966), .lit (.int .u32 4118548399), .lit (.int .u32 1200080426), .lit (.int .u32 2821735955), .lit (.int .u32 4249261313), .lit (.int .u32 1770035416), .lit (.int .u32 2336552879), .lit (.int .u32 4294925233), .lit (.int .u32 2304563134), .lit (.int .u32 1804603682), .lit (.int .u32 4254626195), .lit (.int .u32 2792965006), .lit (.int .u32 1236535329), .lit (.int .u32 4129170786), .lit (.int .u32 3225465664), .lit (.int .u32 643717713), .lit (.int .u32 3921069994), .lit (.int .u32 3593408605), .lit (.int .u32 38016083), .lit (.int .u32 3634488961), .lit (.int .u32 3889429448), .lit (.int .u32 568446438), .lit (.int .u32 3275163606), .lit (.int .u32 4107603335), .lit (.int .u32 1163531501), .lit (.int .u32 2850285829), .lit (.int .u32 4243563512), .lit (.int .u32 1735328473), .lit (.int .u32 2368359562), .lit (.int .u32 4294588738), .lit (.int .u32 2272392833), .lit (.int .u32 1839030562), .lit (.int .u32 4259657740), .lit (.int .u32 2763975236), .lit (.int .u32 1272893353), .lit (.int .u32 4139469664), .lit (.int .u32 3200236656), .lit (.int .u32 681279174), .lit (.int .u32 3936430074), .lit (.int .u32 3572445317), .lit (.int .u32 76029189), .lit (.int .u32 3654602809), .lit (.int .u32 3873151461), .lit (.int .u32 530742520), .lit (.int .u32 3299628645), .lit (.int .u32 4096336452), .lit (.int .u32 1126891415), .lit (.int .u32 2878612391), .lit (.int .u32 4237533241), .lit (.int .u32 1700485571), .lit (.int .u32 2399980690), .lit (.int .u32 4293915773), .lit (.int .u32 2240044497), .lit (.int .u32 1873313359), .lit (.int .u32 4264355552), .lit (.int .u32 2734768916), .lit (.int .u32 1309151649), .lit (.int .u32 4149444226), .lit (.int .u32 3174756917), .lit (.int .u32 718787259), .lit (.int .u32 3951481745)]
def laid_tether_md5_turns {H : Type} : DataW H := .agg [.agg [.lit (.int .i64 7), .lit (.int .i64 12), .lit (.int .i64 17), .lit (.int .i64 22)], .agg [.lit (.int .i64 5), .lit (.int .i64 9), .lit (.int .i64 14), .lit (.int .i64 20)], .agg [.lit (.int .i64 4), .lit (.int .i64 11), .lit (.int .i64 16), .lit (.int .i64 23)], .agg [.lit (.int .i64 6), .lit (.int .i64 10), .lit (.int .i64 15), .lit (.int .i64 21)]]
def laid_math_bits_deBruijn32tab {H : Type} : DataW H := .agg [.lit (.int .u8 0), .lit (.int .u8 1), .lit (.int .u8 28), .lit (.int .u8 2), .lit (.int .u8 29), .lit (.int .u8 14), .lit (.int .u8 24), .lit (.int .u8 3), .lit (.int .u8 30), .lit (.int .u8 22), .lit (.int .u8 20), .lit (.int .u8 15), .lit (.int .u8 25), .lit (.int .u8 17), .lit (.int .u8 4), .lit (.int .u8 8), .lit (.int .u8 31), .lit (.int .u8 27), .lit (.int .u8 13), .lit (.int .u8 23), .lit (.int .u8 21), .lit (.int .u8 19), .lit (.int .u8 16), .lit (.int .u8 7), .lit (.int .u8 26), .lit (.int .u8 12), .lit (.int .u8 18), .lit (.int .u8 6), .lit (.int .u8 11), .lit (.int .u8 5), .lit (.int .u8 10), .lit (.int .u8 9)]
def laid_math_bits_deBruijn64tab {H : Type} : DataW H := .agg [.lit (.int .u8 0), .lit (.int .u8 1), .lit (.int .u8 56), .lit (.int .u8 2), .lit (.int .u8 57), .lit (.int .u8 49), .lit (.int .u8 28), .lit (.int .u8 3), .lit (.int .u8 61), .lit (.int .u8 58), .lit (.int .u8 42), .lit (.int .u8 50), .lit (.int .u8 38), .lit (.int .u8 29), .lit (.int .u8 17), .lit (.int .u8 4), .lit (.int .u8 62), .lit (.int .u8 47), .lit (.int .u8 59), .lit (.int .u8 36), .lit (.int .u8 45), .lit (.int .u8 43), .lit (.int .u8 51), .lit (.int .u8 22), .lit (.int .u8 53), .lit (.int .u8 39), .lit (.int .u8 33), .lit (.int .u8 30), .lit (.int .u8 24), .lit (.int .u8 18), .lit (.int .u8 12), .lit (.int .u8 5), .lit (.int .u8 63), .lit (.int .u8 55), .lit (.int .u8 48), .lit (.int .u8 27), .lit (.int .u8 60), .lit (.int .u8 41), .lit (.int .u8 37), .lit (.int .u8 16), .lit (.int .u8 46), .lit (.int .u8 35), .lit (.int .u8 44), .lit (.int .u8 21), .lit (.int .u8 52), .lit (.int .u8 32), .lit (.int .u8 23), .lit (.int .u8 11), .lit (.int .u8 54), .lit (.int .u8 26), .lit (.int .u8 40), .lit (.int .u8 15), .lit (.int .u8 34), .lit (.int .u8 20), .lit (.int .u8 31), .lit (.int .u8 10), .lit (.int .u8 25), .lit (.int .u8 14), .lit (.int .u8 19), .lit (.int .u8 9), .lit (.int .u8 13), .lit (.int .u8 8), .lit (.int .u8 7), .lit (.int .u8 6)]
def laid_internal_strconv_uint64pow10 {H : Type} : DataW H := .agg [.lit (.int .u64 1), .lit (.int .u64 10), .lit (.int .u64 100), .lit (.int .u64 1000), .lit (.int .u64 10000), .lit (.int .u64 100000), .lit (.int .u64 1000000), .lit (.int .u64 10000000), .lit (.int .u64 100000000), .lit (.int .u64 1000000000), .lit (.int .u64 10000000000), .lit (.int .u64 100000000000), .lit (.int .u64 1000000000000), .lit (.int .u64 10000000000000), .lit (.int .u64 100000000000000), .lit (.int .u64 1000000000000000), .lit (.int .u64 10000000000000000), .lit (.int .u64 100000000000000000), .lit (.int .u64 1000000000000000000), .lit (.int .u64 10000000000000000000)]

/-- 'tetherlaw14.EapMessages': WHATEVER THE INPUT: true; the input reads as it did. -/
def eapMessagesSpec : ChangeSpec := { name := "eapMessages", fn := fun _ => fun
  | [d1, d2] => { results := [.lit (.bool true)], args := [d1, d2] }
  | _ => none }
def eapMessagesRow : OpenClaim := { program := "ytjimoegegigoiaadoor", sum := "1f5c0c3f5a9ad96dfd34115ddd55759a18b4989fd11dc318c1849538cef18d1b", func := "tether/tetherlaw14.EapMessages", spec := "eapMessages", unfollowed := true, recurses := true, named := ["tether/md5.addends", "tether/md5.turns"], plainKeys := false, apart := false, laid := [("tether/md5.addends", laid_tether_md5_addends), ("tether/md5.turns", laid_tether_md5_turns)] }
def EapMessagesSaid : Prop := eapMessagesRow.holds Tryd.pinned (OpenSpec.ofChange eapMessagesSpec)

/-- ITS FALSE NEIGHBOUR: 'it returns false'. Refute it at one input. -/
def eapMessagesWrong : ChangeSpec := { name := "eapMessages", fn := fun _ => fun
  | [d1, d2] => { results := [.lit (.bool false)], args := [d1, d2] }
  | _ => none }
def EapMessagesWrongFalsely : Prop := eapMessagesRow.holds Tryd.pinned (OpenSpec.ofChange eapMessagesWrong)

/-- 'tetherlaw14.EapProves': WHATEVER THE INPUT: true; the input reads as it did. -/
def eapProvesSpec : ChangeSpec := { name := "eapProves", fn := fun _ => fun
  | [d1, d2, d3, d4, d5, d6] => { results := [.lit (.bool true)], args := [d1, d2, d3, d4, d5, d6] }
  | _ => none }
def eapProvesRow : OpenClaim := { program := "ytjimoegegigoiaadoor", sum := "1f5c0c3f5a9ad96dfd34115ddd55759a18b4989fd11dc318c1849538cef18d1b", func := "tether/tetherlaw14.EapProves", spec := "eapProves", unfollowed := true, recurses := true, named := ["tether/md5.addends", "tether/md5.turns"], plainKeys := false, apart := false, laid := [("tether/md5.addends", laid_tether_md5_addends), ("tether/md5.turns", laid_tether_md5_turns)] }
def EapProvesSaid : Prop := eapProvesRow.holds Tryd.pinned (OpenSpec.ofChange eapProvesSpec)

/-- ITS FALSE NEIGHBOUR: 'it returns false'. Refute it at one input. -/
def eapProvesWrong : ChangeSpec := { name := "eapProves", fn := fun _ => fun
  | [d1, d2, d3, d4, d5, d6] => { results := [.lit (.bool false)], args := [d1, d2, d3, d4, d5, d6] }
  | _ => none }
def EapProvesWrongFalsely : Prop := eapProvesRow.holds Tryd.pinned (OpenSpec.ofChange eapProvesWrong)

/-- 'tetherlaw14.EapMeet': WHATEVER THE INPUT: true; the input reads as it did. -/
def eapMeetSpec : ChangeSpec := { name := "eapMeet", fn := fun _ => fun
  | [d1, d2, d3, d4, d5, d6] => { results := [.lit (.bool true)], args := [d1, d2, d3, d4, d5, d6] }
  | _ => none }
def eapMeetRow : OpenClaim := { program := "ytjimoegegigoiaadoor", sum := "1f5c0c3f5a9ad96dfd34115ddd55759a18b4989fd11dc318c1849538cef18d1b", func := "tether/tetherlaw14.EapMeet", spec := "eapMeet", unfollowed := true, recurses := true, named := ["tether/md5.addends", "tether/md5.turns"], plainKeys := false, apart := false, laid := [("tether/md5.addends", laid_tether_md5_addends), ("tether/md5.turns", laid_tether_md5_turns)] }
def EapMeetSaid : Prop := eapMeetRow.holds Tryd.pinned (OpenSpec.ofChange eapMeetSpec)

/-- ITS FALSE NEIGHBOUR: 'it returns false'. Refute it at one input. -/
def eapMeetWrong : ChangeSpec := { name := "eapMeet", fn := fun _ => fun
  | [d1, d2, d3, d4, d5, d6] => { results := [.lit (.bool false)], args := [d1, d2, d3, d4, d5, d6] }
  | _ => none }
def EapMeetWrongFalsely : Prop := eapMeetRow.holds Tryd.pinned (OpenSpec.ofChange eapMeetWrong)

/-- 'tetherlaw14.EapNil': WHATEVER THE INPUT: true; the input reads as it did. -/
def eapNilSpec : ChangeSpec := { name := "eapNil", fn := fun _ => fun
  | [d1, d2] => { results := [.lit (.bool true)], args := [d1, d2] }
  | _ => none }
def eapNilRow : OpenClaim := { program := "ytjimoegegigoiaadoor", sum := "1f5c0c3f5a9ad96dfd34115ddd55759a18b4989fd11dc318c1849538cef18d1b", func := "tether/tetherlaw14.EapNil", spec := "eapNil", unfollowed := true, recurses := true, named := ["tether/md5.addends", "tether/md5.turns"], plainKeys := false, apart := false, laid := [("tether/md5.addends", laid_tether_md5_addends), ("tether/md5.turns", laid_tether_md5_turns)] }
def EapNilSaid : Prop := eapNilRow.holds Tryd.pinned (OpenSpec.ofChange eapNilSpec)

/-- ITS FALSE NEIGHBOUR: 'it returns false'. Refute it at one input. -/
def eapNilWrong : ChangeSpec := { name := "eapNil", fn := fun _ => fun
  | [d1, d2] => { results := [.lit (.bool false)], args := [d1, d2] }
  | _ => none }
def EapNilWrongFalsely : Prop := eapNilRow.holds Tryd.pinned (OpenSpec.ofChange eapNilWrong)

/-- 'tetherlaw18.IpTrims': WHATEVER THE INPUT: true; the input reads as it did. -/
def ipTrimsSpec : ChangeSpec := { name := "ipTrims", fn := fun _ => fun
  | [d1, d2] => { results := [.lit (.bool true)], args := [d1, d2] }
  | _ => none }
def ipTrimsRow : OpenClaim := { program := "ytjimoegegigoiaadoor", sum := "1f5c0c3f5a9ad96dfd34115ddd55759a18b4989fd11dc318c1849538cef18d1b", func := "tether/tetherlaw18.IpTrims", spec := "ipTrims", inPlace := ["internal/abi.NoEscape", "internal/bytealg.MakeNoZero"], unfollowed := true, recurses := true, named := ["internal/strconv.uint64pow10", "math/bits.deBruijn32tab", "math/bits.deBruijn64tab"], plainKeys := false, apart := false, laid := [("math/bits.deBruijn32tab", laid_math_bits_deBruijn32tab), ("math/bits.deBruijn64tab", laid_math_bits_deBruijn64tab), ("internal/strconv.uint64pow10", laid_internal_strconv_uint64pow10)] }
def IpTrimsSaid : Prop := ipTrimsRow.holds Tryd.pinned (OpenSpec.ofChange ipTrimsSpec)

/-- ITS FALSE NEIGHBOUR: 'it returns false'. Refute it at one input. -/
def ipTrimsWrong : ChangeSpec := { name := "ipTrims", fn := fun _ => fun
  | [d1, d2] => { results := [.lit (.bool false)], args := [d1, d2] }
  | _ => none }
def IpTrimsWrongFalsely : Prop := ipTrimsRow.holds Tryd.pinned (OpenSpec.ofChange ipTrimsWrong)

/-- 'tetherlaw18.IpTurned': WHATEVER THE INPUT: true; the input reads as it did. -/
def ipTurnedSpec : ChangeSpec := { name := "ipTurned", fn := fun _ => fun
  | [d1, d2, d3] => { results := [.lit (.bool true)], args := [d1, d2, d3] }
  | _ => none }
def ipTurnedRow : OpenClaim := { program := "ytjimoegegigoiaadoor", sum := "1f5c0c3f5a9ad96dfd34115ddd55759a18b4989fd11dc318c1849538cef18d1b", func := "tether/tetherlaw18.IpTurned", spec := "ipTurned", inPlace := ["internal/abi.NoEscape", "internal/bytealg.MakeNoZero"], unfollowed := true, recurses := true, named := ["internal/strconv.uint64pow10", "math/bits.deBruijn32tab", "math/bits.deBruijn64tab"], plainKeys := false, apart := false, laid := [("math/bits.deBruijn32tab", laid_math_bits_deBruijn32tab), ("math/bits.deBruijn64tab", laid_math_bits_deBruijn64tab), ("internal/strconv.uint64pow10", laid_internal_strconv_uint64pow10)] }
def IpTurnedSaid : Prop := ipTurnedRow.holds Tryd.pinned (OpenSpec.ofChange ipTurnedSpec)

/-- ITS FALSE NEIGHBOUR: 'it returns false'. Refute it at one input. -/
def ipTurnedWrong : ChangeSpec := { name := "ipTurned", fn := fun _ => fun
  | [d1, d2, d3] => { results := [.lit (.bool false)], args := [d1, d2, d3] }
  | _ => none }
def IpTurnedWrongFalsely : Prop := ipTurnedRow.holds Tryd.pinned (OpenSpec.ofChange ipTurnedWrong)

/-- 'tetherlaw18.IpLives': WHATEVER THE INPUT: true; the input reads as it did. -/
def ipLivesSpec : ChangeSpec := { name := "ipLives", fn := fun _ => fun
  | [d] => { results := [.lit (.bool true)], args := [d] }
  | _ => none }
def ipLivesRow : OpenClaim := { program := "ytjimoegegigoiaadoor", sum := "1f5c0c3f5a9ad96dfd34115ddd55759a18b4989fd11dc318c1849538cef18d1b", func := "tether/tetherlaw18.IpLives", spec := "ipLives", inPlace := ["internal/abi.NoEscape", "internal/bytealg.MakeNoZero"], unfollowed := true, recurses := true, named := ["internal/strconv.uint64pow10", "math/bits.deBruijn32tab", "math/bits.deBruijn64tab"], plainKeys := false, apart := false, laid := [("math/bits.deBruijn32tab", laid_math_bits_deBruijn32tab), ("math/bits.deBruijn64tab", laid_math_bits_deBruijn64tab), ("internal/strconv.uint64pow10", laid_internal_strconv_uint64pow10)] }
def IpLivesSaid : Prop := ipLivesRow.holds Tryd.pinned (OpenSpec.ofChange ipLivesSpec)

/-- ITS FALSE NEIGHBOUR: 'it returns false'. Refute it at one input. -/
def ipLivesWrong : ChangeSpec := { name := "ipLives", fn := fun _ => fun
  | [d] => { results := [.lit (.bool false)], args := [d] }
  | _ => none }
def IpLivesWrongFalsely : Prop := ipLivesRow.holds Tryd.pinned (OpenSpec.ofChange ipLivesWrong)

/-- 'tetherlaw18.IpSums': WHATEVER THE INPUT: true; the input reads as it did. -/
def ipSumsSpec : ChangeSpec := { name := "ipSums", fn := fun _ => fun
  | [d1, d2] => { results := [.lit (.bool true)], args := [d1, d2] }
  | _ => none }
def ipSumsRow : OpenClaim := { program := "ytjimoegegigoiaadoor", sum := "1f5c0c3f5a9ad96dfd34115ddd55759a18b4989fd11dc318c1849538cef18d1b", func := "tether/tetherlaw18.IpSums", spec := "ipSums", inPlace := ["internal/abi.NoEscape", "internal/bytealg.MakeNoZero"], unfollowed := true, recurses := true, named := ["internal/strconv.uint64pow10", "math/bits.deBruijn32tab", "math/bits.deBruijn64tab"], plainKeys := false, apart := false, laid := [("math/bits.deBruijn32tab", laid_math_bits_deBruijn32tab), ("math/bits.deBruijn64tab", laid_math_bits_deBruijn64tab), ("internal/strconv.uint64pow10", laid_internal_strconv_uint64pow10)] }
def IpSumsSaid : Prop := ipSumsRow.holds Tryd.pinned (OpenSpec.ofChange ipSumsSpec)

/-- ITS FALSE NEIGHBOUR: 'it returns false'. Refute it at one input. -/
def ipSumsWrong : ChangeSpec := { name := "ipSums", fn := fun _ => fun
  | [d1, d2] => { results := [.lit (.bool false)], args := [d1, d2] }
  | _ => none }
def IpSumsWrongFalsely : Prop := ipSumsRow.holds Tryd.pinned (OpenSpec.ofChange ipSumsWrong)

/- THE SECOND FORM. 'bulk': how many values and letters a reading holds, each counted each time it is reached (what is shared counts as often as it is met; a slice's spare places count too). A statement '..UptoSaid' is the law's where the arguments, and the package variables that the reading takes, are together of bulk at most 1048576: NARROWER than '..Said'. Prove '..Said' where nothing that the law and all that it calls make is longer than what came in: it says more and counts as full. Else prove '..UptoSaid'. A law counts once. -/
mutual
def uptoBulk {H : Type} : DataW H → Nat
  | .lit (.string bytes) => bytes.length + 1
  | .lit _ => 1
  | .nil => 1
  | .ptr d => uptoBulk d + 1
  | .slice elems spare => uptoBulkAll elems + uptoBulkAll spare + 1
  | .agg parts => uptoBulkAll parts + 1
  | .iface _ d => uptoBulk d + 1
  | .map entries => uptoBulkEntries entries + 1
  | .held _ => 1
def uptoBulkAll {H : Type} : List (DataW H) → Nat
  | [] => 0
  | d :: r => uptoBulk d + uptoBulkAll r
def uptoBulkEntries {H : Type} : List (Lit × DataW H) → Nat
  | [] => 0
  | x :: r => uptoBulkEntry x + uptoBulkEntries r
def uptoBulkEntry {H : Type} : Lit × DataW H → Nat
  | (.string bytes, d) => bytes.length + uptoBulk d + 1
  | (_, d) => uptoBulk d + 1
 end
def uptoSmall : (H : Type) → List (DataW H) → Bool := fun _ ds => decide (uptoBulkAll ds ≤ 1048576)
def OpenSpec.upto (s : _root_.Go.ChangeSpec) : _root_.Go.OpenSpec := { _root_.Go.OpenSpec.ofChange s with cond := some uptoSmall }

/-- 'tetherlaw14.EapMessages', WHERE WHAT IT READS IS OF BULK AT MOST 1048576: true; the input reads as it did. -/
def eapMessagesUptoRow : OpenClaim := { program := "ytjimoegegigoiaadoor", sum := "1f5c0c3f5a9ad96dfd34115ddd55759a18b4989fd11dc318c1849538cef18d1b", func := "tether/tetherlaw14.EapMessages", spec := "eapMessages", unfollowed := true, recurses := true, named := ["tether/md5.addends", "tether/md5.turns"], plainKeys := false, apart := false, laid := [("tether/md5.addends", laid_tether_md5_addends), ("tether/md5.turns", laid_tether_md5_turns)], narrowed := true }
def EapMessagesUptoSaid : Prop := eapMessagesUptoRow.holds Tryd.pinned (OpenSpec.upto eapMessagesSpec)

/-- 'tetherlaw14.EapProves', WHERE WHAT IT READS IS OF BULK AT MOST 1048576: true; the input reads as it did. -/
def eapProvesUptoRow : OpenClaim := { program := "ytjimoegegigoiaadoor", sum := "1f5c0c3f5a9ad96dfd34115ddd55759a18b4989fd11dc318c1849538cef18d1b", func := "tether/tetherlaw14.EapProves", spec := "eapProves", unfollowed := true, recurses := true, named := ["tether/md5.addends", "tether/md5.turns"], plainKeys := false, apart := false, laid := [("tether/md5.addends", laid_tether_md5_addends), ("tether/md5.turns", laid_tether_md5_turns)], narrowed := true }
def EapProvesUptoSaid : Prop := eapProvesUptoRow.holds Tryd.pinned (OpenSpec.upto eapProvesSpec)

/-- 'tetherlaw14.EapMeet', WHERE WHAT IT READS IS OF BULK AT MOST 1048576: true; the input reads as it did. -/
def eapMeetUptoRow : OpenClaim := { program := "ytjimoegegigoiaadoor", sum := "1f5c0c3f5a9ad96dfd34115ddd55759a18b4989fd11dc318c1849538cef18d1b", func := "tether/tetherlaw14.EapMeet", spec := "eapMeet", unfollowed := true, recurses := true, named := ["tether/md5.addends", "tether/md5.turns"], plainKeys := false, apart := false, laid := [("tether/md5.addends", laid_tether_md5_addends), ("tether/md5.turns", laid_tether_md5_turns)], narrowed := true }
def EapMeetUptoSaid : Prop := eapMeetUptoRow.holds Tryd.pinned (OpenSpec.upto eapMeetSpec)

/-- 'tetherlaw14.EapNil', WHERE WHAT IT READS IS OF BULK AT MOST 1048576: true; the input reads as it did. -/
def eapNilUptoRow : OpenClaim := { program := "ytjimoegegigoiaadoor", sum := "1f5c0c3f5a9ad96dfd34115ddd55759a18b4989fd11dc318c1849538cef18d1b", func := "tether/tetherlaw14.EapNil", spec := "eapNil", unfollowed := true, recurses := true, named := ["tether/md5.addends", "tether/md5.turns"], plainKeys := false, apart := false, laid := [("tether/md5.addends", laid_tether_md5_addends), ("tether/md5.turns", laid_tether_md5_turns)], narrowed := true }
def EapNilUptoSaid : Prop := eapNilUptoRow.holds Tryd.pinned (OpenSpec.upto eapNilSpec)

/-- 'tetherlaw18.IpTrims', WHERE WHAT IT READS IS OF BULK AT MOST 1048576: true; the input reads as it did. -/
def ipTrimsUptoRow : OpenClaim := { program := "ytjimoegegigoiaadoor", sum := "1f5c0c3f5a9ad96dfd34115ddd55759a18b4989fd11dc318c1849538cef18d1b", func := "tether/tetherlaw18.IpTrims", spec := "ipTrims", inPlace := ["internal/abi.NoEscape", "internal/bytealg.MakeNoZero"], unfollowed := true, recurses := true, named := ["internal/strconv.uint64pow10", "math/bits.deBruijn32tab", "math/bits.deBruijn64tab"], plainKeys := false, apart := false, laid := [("math/bits.deBruijn32tab", laid_math_bits_deBruijn32tab), ("math/bits.deBruijn64tab", laid_math_bits_deBruijn64tab), ("internal/strconv.uint64pow10", laid_internal_strconv_uint64pow10)], narrowed := true }
def IpTrimsUptoSaid : Prop := ipTrimsUptoRow.holds Tryd.pinned (OpenSpec.upto ipTrimsSpec)

/-- 'tetherlaw18.IpTurned', WHERE WHAT IT READS IS OF BULK AT MOST 1048576: true; the input reads as it did. -/
def ipTurnedUptoRow : OpenClaim := { program := "ytjimoegegigoiaadoor", sum := "1f5c0c3f5a9ad96dfd34115ddd55759a18b4989fd11dc318c1849538cef18d1b", func := "tether/tetherlaw18.IpTurned", spec := "ipTurned", inPlace := ["internal/abi.NoEscape", "internal/bytealg.MakeNoZero"], unfollowed := true, recurses := true, named := ["internal/strconv.uint64pow10", "math/bits.deBruijn32tab", "math/bits.deBruijn64tab"], plainKeys := false, apart := false, laid := [("math/bits.deBruijn32tab", laid_math_bits_deBruijn32tab), ("math/bits.deBruijn64tab", laid_math_bits_deBruijn64tab), ("internal/strconv.uint64pow10", laid_internal_strconv_uint64pow10)], narrowed := true }
def IpTurnedUptoSaid : Prop := ipTurnedUptoRow.holds Tryd.pinned (OpenSpec.upto ipTurnedSpec)

/-- 'tetherlaw18.IpLives', WHERE WHAT IT READS IS OF BULK AT MOST 1048576: true; the input reads as it did. -/
def ipLivesUptoRow : OpenClaim := { program := "ytjimoegegigoiaadoor", sum := "1f5c0c3f5a9ad96dfd34115ddd55759a18b4989fd11dc318c1849538cef18d1b", func := "tether/tetherlaw18.IpLives", spec := "ipLives", inPlace := ["internal/abi.NoEscape", "internal/bytealg.MakeNoZero"], unfollowed := true, recurses := true, named := ["internal/strconv.uint64pow10", "math/bits.deBruijn32tab", "math/bits.deBruijn64tab"], plainKeys := false, apart := false, laid := [("math/bits.deBruijn32tab", laid_math_bits_deBruijn32tab), ("math/bits.deBruijn64tab", laid_math_bits_deBruijn64tab), ("internal/strconv.uint64pow10", laid_internal_strconv_uint64pow10)], narrowed := true }
def IpLivesUptoSaid : Prop := ipLivesUptoRow.holds Tryd.pinned (OpenSpec.upto ipLivesSpec)

/-- 'tetherlaw18.IpSums', WHERE WHAT IT READS IS OF BULK AT MOST 1048576: true; the input reads as it did. -/
def ipSumsUptoRow : OpenClaim := { program := "ytjimoegegigoiaadoor", sum := "1f5c0c3f5a9ad96dfd34115ddd55759a18b4989fd11dc318c1849538cef18d1b", func := "tether/tetherlaw18.IpSums", spec := "ipSums", inPlace := ["internal/abi.NoEscape", "internal/bytealg.MakeNoZero"], unfollowed := true, recurses := true, named := ["internal/strconv.uint64pow10", "math/bits.deBruijn32tab", "math/bits.deBruijn64tab"], plainKeys := false, apart := false, laid := [("math/bits.deBruijn32tab", laid_math_bits_deBruijn32tab), ("math/bits.deBruijn64tab", laid_math_bits_deBruijn64tab), ("internal/strconv.uint64pow10", laid_internal_strconv_uint64pow10)], narrowed := true }
def IpSumsUptoSaid : Prop := ipSumsUptoRow.holds Tryd.pinned (OpenSpec.upto ipSumsSpec)

end Rows
end Go.Proofs.YtjimoegegigoiaaDoor
