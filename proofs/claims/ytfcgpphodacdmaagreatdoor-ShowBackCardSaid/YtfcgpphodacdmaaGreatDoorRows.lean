/-
  NARROWER THAN 'FOR EVERY INPUT', by the rows' own cells (each row's printed sentence says how): ShowPrints: laid · ShowBack: laid · ShowTwice: laid · EarlyNames: laid · EarlyForms: laid · EarlyInner: laid · EarlyJoins: laid · EarlySaid: laid.
  DERIVED. THE GIVEN ROWS OF THIS SEAT. 8 by the template 'for every input the law returns true; each argument reads behind the call as it read before'; 0 by the template 'total and deterministic' (their statements: YtfcgpphodacdmaaGreatDoorTotals.lean).
  GIVEN WITH THE SEED: the statements are not yours to turn. If you find one false, say at which input.
  Laid BY PROGRAM, IN A SANDBOX (cutbox-rows.mjs): the forced cells as the released guide's own fill.sh prints them over the translation fc9ab0cdc461f4a9… (all of the seat's roots in one cut). By AI agents, Wed Nov 11 2026. No macro, syntax, notation, axiom, sorry.
-/
import Derived.Test.YtfcgpphodacdmaaGreatDoorChecked
import GoSem.Claim
import GoSem.ClaimJoined
import GoSem.ClaimMapViews
import Derived.JoinedTies
import Derived.KernelRfl
namespace Go.Proofs.YtfcgpphodacdmaaGreatDoor
/- THE CELL 'sum', in the pinned program and in every row, IS THE sha256 OF THE DUMP (.gsa) THAT YtfcgpphodacdmaaGreatDoorProg.lean LOADS. Nothing in Lean hashes anything: it is a label: what it is worth is what the hold of that sum in a sandbox is worth. -/
noncomputable def Tryz.pinned : Pinned := { name := "ytfcgpphodacdmaagreatdoor", sum := "fc9ab0cdc461f4a9b49eab65d885290f36b1fbde509640a9208422f085d7a164", checked := Tryz.checked }
namespace Rows
def none {H : Type} : Left H := { results := [], args := [] }

/- WHAT THE LISTED PACKAGE-LEVEL VARIABLES READ AS WHEN THE CALL BEGINS. Each datum BY PROGRAM (the guide's laid-datum.mjs) off the statement by which the dump's own 'gosem.cut.vars' lays the variable. In a bare row this is a premise. The card (YtfcgpphodacdmaaGreatDoorCards.lean) ties it to the program's text. -/
def laid_math_bits_deBruijn32tab {H : Type} : DataW H := .agg [.lit (.int .u8 0), .lit (.int .u8 1), .lit (.int .u8 28), .lit (.int .u8 2), .lit (.int .u8 29), .lit (.int .u8 14), .lit (.int .u8 24), .lit (.int .u8 3), .lit (.int .u8 30), .lit (.int .u8 22), .lit (.int .u8 20), .lit (.int .u8 15), .lit (.int .u8 25), .lit (.int .u8 17), .lit (.int .u8 4), .lit (.int .u8 8), .lit (.int .u8 31), .lit (.int .u8 27), .lit (.int .u8 13), .lit (.int .u8 23), .lit (.int .u8 21), .lit (.int .u8 19), .lit (.int .u8 16), .lit (.int .u8 7), .lit (.int .u8 26), .lit (.int .u8 12), .lit (.int .u8 18), .lit (.int .u8 6), .lit (.int .u8 11), .lit (.int .u8 5), .lit (.int .u8 10), .lit (.int .u8 9)]
def laid_math_bits_deBruijn64tab {H : Type} : DataW H := .agg [.lit (.int .u8 0), .lit (.int .u8 1), .lit (.int .u8 56), .lit (.int .u8 2), .lit (.int .u8 57), .lit (.int .u8 49), .lit (.int .u8 28), .lit (.int .u8 3), .lit (.int .u8 61), .lit (.int .u8 58), .lit (.int .u8 42), .lit (.int .u8 50), .lit (.int .u8 38), .lit (.int .u8 29), .lit (.int .u8 17), .lit (.int .u8 4), .lit (.int .u8 62), .lit (.int .u8 47), .lit (.int .u8 59), .lit (.int .u8 36), .lit (.int .u8 45), .lit (.int .u8 43), .lit (.int .u8 51), .lit (.int .u8 22), .lit (.int .u8 53), .lit (.int .u8 39), .lit (.int .u8 33), .lit (.int .u8 30), .lit (.int .u8 24), .lit (.int .u8 18), .lit (.int .u8 12), .lit (.int .u8 5), .lit (.int .u8 63), .lit (.int .u8 55), .lit (.int .u8 48), .lit (.int .u8 27), .lit (.int .u8 60), .lit (.int .u8 41), .lit (.int .u8 37), .lit (.int .u8 16), .lit (.int .u8 46), .lit (.int .u8 35), .lit (.int .u8 44), .lit (.int .u8 21), .lit (.int .u8 52), .lit (.int .u8 32), .lit (.int .u8 23), .lit (.int .u8 11), .lit (.int .u8 54), .lit (.int .u8 26), .lit (.int .u8 40), .lit (.int .u8 15), .lit (.int .u8 34), .lit (.int .u8 20), .lit (.int .u8 31), .lit (.int .u8 10), .lit (.int .u8 25), .lit (.int .u8 14), .lit (.int .u8 19), .lit (.int .u8 9), .lit (.int .u8 13), .lit (.int .u8 8), .lit (.int .u8 7), .lit (.int .u8 6)]
def laid_internal_strconv_uint64pow10 {H : Type} : DataW H := .agg [.lit (.int .u64 1), .lit (.int .u64 10), .lit (.int .u64 100), .lit (.int .u64 1000), .lit (.int .u64 10000), .lit (.int .u64 100000), .lit (.int .u64 1000000), .lit (.int .u64 10000000), .lit (.int .u64 100000000), .lit (.int .u64 1000000000), .lit (.int .u64 10000000000), .lit (.int .u64 100000000000), .lit (.int .u64 1000000000000), .lit (.int .u64 10000000000000), .lit (.int .u64 100000000000000), .lit (.int .u64 1000000000000000), .lit (.int .u64 10000000000000000), .lit (.int .u64 100000000000000000), .lit (.int .u64 1000000000000000000), .lit (.int .u64 10000000000000000000)]
def laid_septum_show_roles {H : Type} : DataW H := .agg [.lit (.int .i64 0), .lit (.int .i64 0), .lit (.int .i64 67), .lit (.int .i64 19), .lit (.int .i64 128), .lit (.int .i64 51), .lit (.int .i64 19), .lit (.int .i64 3), .lit (.int .i64 3), .lit (.int .i64 3), .lit (.int .i64 3), .lit (.int .i64 3), .lit (.int .i64 3), .lit (.int .i64 3), .lit (.int .i64 3), .lit (.int .i64 3), .lit (.int .i64 256), .lit (.int .i64 512), .lit (.int .i64 1), .lit (.int .i64 1024), .lit (.int .i64 2048), .lit (.int .i64 36), .lit (.int .i64 36), .lit (.int .i64 36), .lit (.int .i64 36), .lit (.int .i64 36), .lit (.int .i64 36), .lit (.int .i64 44), .lit (.int .i64 36), .lit (.int .i64 36), .lit (.int .i64 4096), .lit (.int .i64 36), .lit (.int .i64 44), .lit (.int .i64 44), .lit (.int .i64 36), .lit (.int .i64 36), .lit (.int .i64 36), .lit (.int .i64 36), .lit (.int .i64 36), .lit (.int .i64 36), .lit (.int .i64 36), .lit (.int .i64 36), .lit (.int .i64 36)]

/-- 'septumlaw05.ShowPrints': WHATEVER THE INPUT: true; the input reads as it did. -/
def showPrintsSpec : ChangeSpec := { name := "showPrints", fn := fun _ => fun
  | [d] => { results := [.lit (.bool true)], args := [d] }
  | _ => none }
def showPrintsRow : OpenClaim := { program := "ytfcgpphodacdmaagreatdoor", sum := "fc9ab0cdc461f4a9b49eab65d885290f36b1fbde509640a9208422f085d7a164", func := "septum/septumlaw05.ShowPrints", spec := "showPrints", inPlace := ["math.Float64frombits", "math.archTrunc", "math.Float64bits", "internal/abi.NoEscape", "internal/bytealg.MakeNoZero", "internal/bytealg.IndexByteString", "internal/bytealg.IndexString"], unfollowed := true, recurses := true, named := ["septum/show.roles", "internal/strconv.uint64pow10", "math/bits.deBruijn32tab", "math/bits.deBruijn64tab", "internal/bytealg.MaxLen"], plainKeys := false, apart := false, laid := [("math/bits.deBruijn32tab", laid_math_bits_deBruijn32tab), ("math/bits.deBruijn64tab", laid_math_bits_deBruijn64tab), ("internal/strconv.uint64pow10", laid_internal_strconv_uint64pow10), ("septum/show.roles", laid_septum_show_roles)] }
def ShowPrintsSaid : Prop := showPrintsRow.holds Tryz.pinned (OpenSpec.ofChange showPrintsSpec)

/-- ITS FALSE NEIGHBOUR: 'it returns false'. Refute it at one input. -/
def showPrintsWrong : ChangeSpec := { name := "showPrints", fn := fun _ => fun
  | [d] => { results := [.lit (.bool false)], args := [d] }
  | _ => none }
def ShowPrintsWrongFalsely : Prop := showPrintsRow.holds Tryz.pinned (OpenSpec.ofChange showPrintsWrong)

/-- 'septumlaw05.ShowBack': WHATEVER THE INPUT: true; the input reads as it did. -/
def showBackSpec : ChangeSpec := { name := "showBack", fn := fun _ => fun
  | [d] => { results := [.lit (.bool true)], args := [d] }
  | _ => none }
def showBackRow : OpenClaim := { program := "ytfcgpphodacdmaagreatdoor", sum := "fc9ab0cdc461f4a9b49eab65d885290f36b1fbde509640a9208422f085d7a164", func := "septum/septumlaw05.ShowBack", spec := "showBack", inPlace := ["internal/bytealg.IndexByteString", "internal/bytealg.IndexString", "math.Float64bits", "internal/abi.NoEscape", "math.Float64frombits", "math.archTrunc", "internal/bytealg.MakeNoZero"], unfollowed := true, recurses := true, named := ["internal/bytealg.MaxLen", "internal/strconv.uint64pow10", "math/bits.deBruijn32tab", "math/bits.deBruijn64tab", "septum/show.roles"], plainKeys := false, apart := false, laid := [("math/bits.deBruijn32tab", laid_math_bits_deBruijn32tab), ("math/bits.deBruijn64tab", laid_math_bits_deBruijn64tab), ("internal/strconv.uint64pow10", laid_internal_strconv_uint64pow10), ("septum/show.roles", laid_septum_show_roles)] }
def ShowBackSaid : Prop := showBackRow.holds Tryz.pinned (OpenSpec.ofChange showBackSpec)

/-- ITS FALSE NEIGHBOUR: 'it returns false'. Refute it at one input. -/
def showBackWrong : ChangeSpec := { name := "showBack", fn := fun _ => fun
  | [d] => { results := [.lit (.bool false)], args := [d] }
  | _ => none }
def ShowBackWrongFalsely : Prop := showBackRow.holds Tryz.pinned (OpenSpec.ofChange showBackWrong)

/-- 'septumlaw05.ShowTwice': WHATEVER THE INPUT: true; the input reads as it did. -/
def showTwiceSpec : ChangeSpec := { name := "showTwice", fn := fun _ => fun
  | [d1, d2] => { results := [.lit (.bool true)], args := [d1, d2] }
  | _ => none }
def showTwiceRow : OpenClaim := { program := "ytfcgpphodacdmaagreatdoor", sum := "fc9ab0cdc461f4a9b49eab65d885290f36b1fbde509640a9208422f085d7a164", func := "septum/septumlaw05.ShowTwice", spec := "showTwice", inPlace := ["internal/bytealg.IndexByteString", "internal/bytealg.IndexString", "math.Float64bits", "internal/abi.NoEscape", "math.Float64frombits", "math.archTrunc", "internal/bytealg.MakeNoZero"], unfollowed := true, recurses := true, named := ["internal/bytealg.MaxLen", "internal/strconv.uint64pow10", "math/bits.deBruijn32tab", "math/bits.deBruijn64tab", "septum/show.roles"], plainKeys := false, apart := false, laid := [("math/bits.deBruijn32tab", laid_math_bits_deBruijn32tab), ("math/bits.deBruijn64tab", laid_math_bits_deBruijn64tab), ("internal/strconv.uint64pow10", laid_internal_strconv_uint64pow10), ("septum/show.roles", laid_septum_show_roles)] }
def ShowTwiceSaid : Prop := showTwiceRow.holds Tryz.pinned (OpenSpec.ofChange showTwiceSpec)

/-- ITS FALSE NEIGHBOUR: 'it returns false'. Refute it at one input. -/
def showTwiceWrong : ChangeSpec := { name := "showTwice", fn := fun _ => fun
  | [d1, d2] => { results := [.lit (.bool false)], args := [d1, d2] }
  | _ => none }
def ShowTwiceWrongFalsely : Prop := showTwiceRow.holds Tryz.pinned (OpenSpec.ofChange showTwiceWrong)

/-- 'septumlaw06.EarlyNames': WHATEVER THE INPUT: true; the input reads as it did. -/
def earlyNamesSpec : ChangeSpec := { name := "earlyNames", fn := fun _ => fun
  | [d] => { results := [.lit (.bool true)], args := [d] }
  | _ => none }
def earlyNamesRow : OpenClaim := { program := "ytfcgpphodacdmaagreatdoor", sum := "fc9ab0cdc461f4a9b49eab65d885290f36b1fbde509640a9208422f085d7a164", func := "septum/septumlaw06.EarlyNames", spec := "earlyNames", inPlace := ["internal/bytealg.IndexByteString", "internal/bytealg.IndexString", "math.Float64bits", "internal/abi.NoEscape", "math.Float64frombits", "math.archTrunc"], unfollowed := true, recurses := true, named := ["internal/bytealg.MaxLen", "internal/strconv.uint64pow10", "math/bits.deBruijn32tab", "math/bits.deBruijn64tab", "septum/show.roles"], plainKeys := false, apart := false, laid := [("math/bits.deBruijn32tab", laid_math_bits_deBruijn32tab), ("math/bits.deBruijn64tab", laid_math_bits_deBruijn64tab), ("internal/strconv.uint64pow10", laid_internal_strconv_uint64pow10), ("septum/show.roles", laid_septum_show_roles)] }
def EarlyNamesSaid : Prop := earlyNamesRow.holds Tryz.pinned (OpenSpec.ofChange earlyNamesSpec)

/-- ITS FALSE NEIGHBOUR: 'it returns false'. Refute it at one input. -/
def earlyNamesWrong : ChangeSpec := { name := "earlyNames", fn := fun _ => fun
  | [d] => { results := [.lit (.bool false)], args := [d] }
  | _ => none }
def EarlyNamesWrongFalsely : Prop := earlyNamesRow.holds Tryz.pinned (OpenSpec.ofChange earlyNamesWrong)

/-- 'septumlaw06.EarlyForms': WHATEVER THE INPUT: true; the input reads as it did. -/
def earlyFormsSpec : ChangeSpec := { name := "earlyForms", fn := fun _ => fun
  | [d] => { results := [.lit (.bool true)], args := [d] }
  | _ => none }
def earlyFormsRow : OpenClaim := { program := "ytfcgpphodacdmaagreatdoor", sum := "fc9ab0cdc461f4a9b49eab65d885290f36b1fbde509640a9208422f085d7a164", func := "septum/septumlaw06.EarlyForms", spec := "earlyForms", inPlace := ["internal/bytealg.IndexByteString", "internal/bytealg.IndexString", "math.Float64bits", "internal/abi.NoEscape", "math.Float64frombits", "math.archTrunc", "internal/bytealg.MakeNoZero"], unfollowed := true, recurses := true, named := ["internal/bytealg.MaxLen", "internal/strconv.uint64pow10", "math/bits.deBruijn32tab", "math/bits.deBruijn64tab", "septum/show.roles"], plainKeys := false, apart := false, laid := [("math/bits.deBruijn32tab", laid_math_bits_deBruijn32tab), ("math/bits.deBruijn64tab", laid_math_bits_deBruijn64tab), ("internal/strconv.uint64pow10", laid_internal_strconv_uint64pow10), ("septum/show.roles", laid_septum_show_roles)] }
def EarlyFormsSaid : Prop := earlyFormsRow.holds Tryz.pinned (OpenSpec.ofChange earlyFormsSpec)

/-- ITS FALSE NEIGHBOUR: 'it returns false'. Refute it at one input. -/
def earlyFormsWrong : ChangeSpec := { name := "earlyForms", fn := fun _ => fun
  | [d] => { results := [.lit (.bool false)], args := [d] }
  | _ => none }
def EarlyFormsWrongFalsely : Prop := earlyFormsRow.holds Tryz.pinned (OpenSpec.ofChange earlyFormsWrong)

/-- 'septumlaw06.EarlyInner': WHATEVER THE INPUT: true; the input reads as it did. -/
def earlyInnerSpec : ChangeSpec := { name := "earlyInner", fn := fun _ => fun
  | [d] => { results := [.lit (.bool true)], args := [d] }
  | _ => none }
def earlyInnerRow : OpenClaim := { program := "ytfcgpphodacdmaagreatdoor", sum := "fc9ab0cdc461f4a9b49eab65d885290f36b1fbde509640a9208422f085d7a164", func := "septum/septumlaw06.EarlyInner", spec := "earlyInner", inPlace := ["internal/bytealg.IndexByteString", "internal/bytealg.IndexString", "math.Float64bits", "internal/abi.NoEscape", "math.Float64frombits", "math.archTrunc"], unfollowed := true, recurses := true, named := ["internal/bytealg.MaxLen", "internal/strconv.uint64pow10", "math/bits.deBruijn32tab", "math/bits.deBruijn64tab", "septum/show.roles"], plainKeys := false, apart := false, laid := [("math/bits.deBruijn32tab", laid_math_bits_deBruijn32tab), ("math/bits.deBruijn64tab", laid_math_bits_deBruijn64tab), ("internal/strconv.uint64pow10", laid_internal_strconv_uint64pow10), ("septum/show.roles", laid_septum_show_roles)] }
def EarlyInnerSaid : Prop := earlyInnerRow.holds Tryz.pinned (OpenSpec.ofChange earlyInnerSpec)

/-- ITS FALSE NEIGHBOUR: 'it returns false'. Refute it at one input. -/
def earlyInnerWrong : ChangeSpec := { name := "earlyInner", fn := fun _ => fun
  | [d] => { results := [.lit (.bool false)], args := [d] }
  | _ => none }
def EarlyInnerWrongFalsely : Prop := earlyInnerRow.holds Tryz.pinned (OpenSpec.ofChange earlyInnerWrong)

/-- 'septumlaw06.EarlyJoins': WHATEVER THE INPUT: true; the input reads as it did. -/
def earlyJoinsSpec : ChangeSpec := { name := "earlyJoins", fn := fun _ => fun
  | [d1, d2] => { results := [.lit (.bool true)], args := [d1, d2] }
  | _ => none }
def earlyJoinsRow : OpenClaim := { program := "ytfcgpphodacdmaagreatdoor", sum := "fc9ab0cdc461f4a9b49eab65d885290f36b1fbde509640a9208422f085d7a164", func := "septum/septumlaw06.EarlyJoins", spec := "earlyJoins", inPlace := ["internal/bytealg.IndexByteString", "internal/bytealg.IndexString", "math.Float64bits", "internal/abi.NoEscape", "math.Float64frombits", "math.archTrunc"], unfollowed := true, recurses := true, named := ["internal/bytealg.MaxLen", "internal/strconv.uint64pow10", "math/bits.deBruijn32tab", "math/bits.deBruijn64tab", "septum/show.roles"], plainKeys := false, apart := false, laid := [("math/bits.deBruijn32tab", laid_math_bits_deBruijn32tab), ("math/bits.deBruijn64tab", laid_math_bits_deBruijn64tab), ("internal/strconv.uint64pow10", laid_internal_strconv_uint64pow10), ("septum/show.roles", laid_septum_show_roles)] }
def EarlyJoinsSaid : Prop := earlyJoinsRow.holds Tryz.pinned (OpenSpec.ofChange earlyJoinsSpec)

/-- ITS FALSE NEIGHBOUR: 'it returns false'. Refute it at one input. -/
def earlyJoinsWrong : ChangeSpec := { name := "earlyJoins", fn := fun _ => fun
  | [d1, d2] => { results := [.lit (.bool false)], args := [d1, d2] }
  | _ => none }
def EarlyJoinsWrongFalsely : Prop := earlyJoinsRow.holds Tryz.pinned (OpenSpec.ofChange earlyJoinsWrong)

/-- 'septumlaw06.EarlySaid': WHATEVER THE INPUT: true; the input reads as it did. -/
def earlySaidSpec : ChangeSpec := { name := "earlySaid", fn := fun _ => fun
  | [d1, d2, d3] => { results := [.lit (.bool true)], args := [d1, d2, d3] }
  | _ => none }
def earlySaidRow : OpenClaim := { program := "ytfcgpphodacdmaagreatdoor", sum := "fc9ab0cdc461f4a9b49eab65d885290f36b1fbde509640a9208422f085d7a164", func := "septum/septumlaw06.EarlySaid", spec := "earlySaid", inPlace := ["internal/bytealg.IndexByteString", "internal/bytealg.IndexString", "math.Float64bits", "internal/abi.NoEscape", "math.Float64frombits", "math.archTrunc"], unfollowed := true, recurses := true, named := ["internal/bytealg.MaxLen", "internal/strconv.uint64pow10", "math/bits.deBruijn32tab", "math/bits.deBruijn64tab", "septum/show.roles"], plainKeys := false, apart := false, laid := [("math/bits.deBruijn32tab", laid_math_bits_deBruijn32tab), ("math/bits.deBruijn64tab", laid_math_bits_deBruijn64tab), ("internal/strconv.uint64pow10", laid_internal_strconv_uint64pow10), ("septum/show.roles", laid_septum_show_roles)] }
def EarlySaidSaid : Prop := earlySaidRow.holds Tryz.pinned (OpenSpec.ofChange earlySaidSpec)

/-- ITS FALSE NEIGHBOUR: 'it returns false'. Refute it at one input. -/
def earlySaidWrong : ChangeSpec := { name := "earlySaid", fn := fun _ => fun
  | [d1, d2, d3] => { results := [.lit (.bool false)], args := [d1, d2, d3] }
  | _ => none }
def EarlySaidWrongFalsely : Prop := earlySaidRow.holds Tryz.pinned (OpenSpec.ofChange earlySaidWrong)

/- THE SECOND FORM. 'bulk': how many values and letters a reading holds, each counted each time it is reached (what is shared counts as often as it is met; a slice's spare places count too). A statement '..UptoSaid' is the law's where the arguments, and the package variables that the reading takes, are together of bulk at most 1048576: NARROWER than '..Said'. Prove '..Said' where nothing that the law and all that it calls make is longer than what came in: it says more and counts as full. Else prove '..UptoSaid'. A law counts once. -/
mutual
def uptoBulk {H : Type} : DataW H → Nat
  | .lit (.string bytes) => bytes.length + 1
  | .lit _ => 1
  | .nil => 1
  | .ptr d => uptoBulk d + 1
  | .slice elems spare => uptoBulkAll elems + uptoBulkAll spare + 1
  | .agg parts => uptoBulkAll parts + 1
  | .iface _ d => uptoBulk d + 1
  | .map entries => uptoBulkEntries entries + 1
  | .held _ => 1
def uptoBulkAll {H : Type} : List (DataW H) → Nat
  | [] => 0
  | d :: r => uptoBulk d + uptoBulkAll r
def uptoBulkEntries {H : Type} : List (Lit × DataW H) → Nat
  | [] => 0
  | x :: r => uptoBulkEntry x + uptoBulkEntries r
def uptoBulkEntry {H : Type} : Lit × DataW H → Nat
  | (.string bytes, d) => bytes.length + uptoBulk d + 1
  | (_, d) => uptoBulk d + 1
 end
def uptoSmall : (H : Type) → List (DataW H) → Bool := fun _ ds => decide (uptoBulkAll ds ≤ 1048576)
def OpenSpec.upto (s : _root_.Go.ChangeSpec) : _root_.Go.OpenSpec := { _root_.Go.OpenSpec.ofChange s with cond := some uptoSmall }

/-- 'septumlaw05.ShowPrints', WHERE WHAT IT READS IS OF BULK AT MOST 1048576: true; the input reads as it did. -/
def showPrintsUptoRow : OpenClaim := { program := "ytfcgpphodacdmaagreatdoor", sum := "fc9ab0cdc461f4a9b49eab65d885290f36b1fbde509640a9208422f085d7a164", func := "septum/septumlaw05.ShowPrints", spec := "showPrints", inPlace := ["math.Float64frombits", "math.archTrunc", "math.Float64bits", "internal/abi.NoEscape", "internal/bytealg.MakeNoZero", "internal/bytealg.IndexByteString", "internal/bytealg.IndexString"], unfollowed := true, recurses := true, named := ["septum/show.roles", "internal/strconv.uint64pow10", "math/bits.deBruijn32tab", "math/bits.deBruijn64tab", "internal/bytealg.MaxLen"], plainKeys := false, apart := false, laid := [("math/bits.deBruijn32tab", laid_math_bits_deBruijn32tab), ("math/bits.deBruijn64tab", laid_math_bits_deBruijn64tab), ("internal/strconv.uint64pow10", laid_internal_strconv_uint64pow10), ("septum/show.roles", laid_septum_show_roles)], narrowed := true }
def ShowPrintsUptoSaid : Prop := showPrintsUptoRow.holds Tryz.pinned (OpenSpec.upto showPrintsSpec)

/-- 'septumlaw05.ShowBack', WHERE WHAT IT READS IS OF BULK AT MOST 1048576: true; the input reads as it did. -/
def showBackUptoRow : OpenClaim := { program := "ytfcgpphodacdmaagreatdoor", sum := "fc9ab0cdc461f4a9b49eab65d885290f36b1fbde509640a9208422f085d7a164", func := "septum/septumlaw05.ShowBack", spec := "showBack", inPlace := ["internal/bytealg.IndexByteString", "internal/bytealg.IndexString", "math.Float64bits", "internal/abi.NoEscape", "math.Float64frombits", "math.archTrunc", "internal/bytealg.MakeNoZero"], unfollowed := true, recurses := true, named := ["internal/bytealg.MaxLen", "internal/strconv.uint64pow10", "math/bits.deBruijn32tab", "math/bits.deBruijn64tab", "septum/show.roles"], plainKeys := false, apart := false, laid := [("math/bits.deBruijn32tab", laid_math_bits_deBruijn32tab), ("math/bits.deBruijn64tab", laid_math_bits_deBruijn64tab), ("internal/strconv.uint64pow10", laid_internal_strconv_uint64pow10), ("septum/show.roles", laid_septum_show_roles)], narrowed := true }
def ShowBackUptoSaid : Prop := showBackUptoRow.holds Tryz.pinned (OpenSpec.upto showBackSpec)

/-- 'septumlaw05.ShowTwice', WHERE WHAT IT READS IS OF BULK AT MOST 1048576: true; the input reads as it did. -/
def showTwiceUptoRow : OpenClaim := { program := "ytfcgpphodacdmaagreatdoor", sum := "fc9ab0cdc461f4a9b49eab65d885290f36b1fbde509640a9208422f085d7a164", func := "septum/septumlaw05.ShowTwice", spec := "showTwice", inPlace := ["internal/bytealg.IndexByteString", "internal/bytealg.IndexString", "math.Float64bits", "internal/abi.NoEscape", "math.Float64frombits", "math.archTrunc", "internal/bytealg.MakeNoZero"], unfollowed := true, recurses := true, named := ["internal/bytealg.MaxLen", "internal/strconv.uint64pow10", "math/bits.deBruijn32tab", "math/bits.deBruijn64tab", "septum/show.roles"], plainKeys := false, apart := false, laid := [("math/bits.deBruijn32tab", laid_math_bits_deBruijn32tab), ("math/bits.deBruijn64tab", laid_math_bits_deBruijn64tab), ("internal/strconv.uint64pow10", laid_internal_strconv_uint64pow10), ("septum/show.roles", laid_septum_show_roles)], narrowed := true }
def ShowTwiceUptoSaid : Prop := showTwiceUptoRow.holds Tryz.pinned (OpenSpec.upto showTwiceSpec)

/-- 'septumlaw06.EarlyNames', WHERE WHAT IT READS IS OF BULK AT MOST 1048576: true; the input reads as it did. -/
def earlyNamesUptoRow : OpenClaim := { program := "ytfcgpphodacdmaagreatdoor", sum := "fc9ab0cdc461f4a9b49eab65d885290f36b1fbde509640a9208422f085d7a164", func := "septum/septumlaw06.EarlyNames", spec := "earlyNames", inPlace := ["internal/bytealg.IndexByteString", "internal/bytealg.IndexString", "math.Float64bits", "internal/abi.NoEscape", "math.Float64frombits", "math.archTrunc"], unfollowed := true, recurses := true, named := ["internal/bytealg.MaxLen", "internal/strconv.uint64pow10", "math/bits.deBruijn32tab", "math/bits.deBruijn64tab", "septum/show.roles"], plainKeys := false, apart := false, laid := [("math/bits.deBruijn32tab", laid_math_bits_deBruijn32tab), ("math/bits.deBruijn64tab", laid_math_bits_deBruijn64tab), ("internal/strconv.uint64pow10", laid_internal_strconv_uint64pow10), ("septum/show.roles", laid_septum_show_roles)], narrowed := true }
def EarlyNamesUptoSaid : Prop := earlyNamesUptoRow.holds Tryz.pinned (OpenSpec.upto earlyNamesSpec)

/-- 'septumlaw06.EarlyForms', WHERE WHAT IT READS IS OF BULK AT MOST 1048576: true; the input reads as it did. -/
def earlyFormsUptoRow : OpenClaim := { program := "ytfcgpphodacdmaagreatdoor", sum := "fc9ab0cdc461f4a9b49eab65d885290f36b1fbde509640a9208422f085d7a164", func := "septum/septumlaw06.EarlyForms", spec := "earlyForms", inPlace := ["internal/bytealg.IndexByteString", "internal/bytealg.IndexString", "math.Float64bits", "internal/abi.NoEscape", "math.Float64frombits", "math.archTrunc", "internal/bytealg.MakeNoZero"], unfollowed := true, recurses := true, named := ["internal/bytealg.MaxLen", "internal/strconv.uint64pow10", "math/bits.deBruijn32tab", "math/bits.deBruijn64tab", "septum/show.roles"], plainKeys := false, apart := false, laid := [("math/bits.deBruijn32tab", laid_math_bits_deBruijn32tab), ("math/bits.deBruijn64tab", laid_math_bits_deBruijn64tab), ("internal/strconv.uint64pow10", laid_internal_strconv_uint64pow10), ("septum/show.roles", laid_septum_show_roles)], narrowed := true }
def EarlyFormsUptoSaid : Prop := earlyFormsUptoRow.holds Tryz.pinned (OpenSpec.upto earlyFormsSpec)

/-- 'septumlaw06.EarlyInner', WHERE WHAT IT READS IS OF BULK AT MOST 1048576: true; the input reads as it did. -/
def earlyInnerUptoRow : OpenClaim := { program := "ytfcgpphodacdmaagreatdoor", sum := "fc9ab0cdc461f4a9b49eab65d885290f36b1fbde509640a9208422f085d7a164", func := "septum/septumlaw06.EarlyInner", spec := "earlyInner", inPlace := ["internal/bytealg.IndexByteString", "internal/bytealg.IndexString", "math.Float64bits", "internal/abi.NoEscape", "math.Float64frombits", "math.archTrunc"], unfollowed := true, recurses := true, named := ["internal/bytealg.MaxLen", "internal/strconv.uint64pow10", "math/bits.deBruijn32tab", "math/bits.deBruijn64tab", "septum/show.roles"], plainKeys := false, apart := false, laid := [("math/bits.deBruijn32tab", laid_math_bits_deBruijn32tab), ("math/bits.deBruijn64tab", laid_math_bits_deBruijn64tab), ("internal/strconv.uint64pow10", laid_internal_strconv_uint64pow10), ("septum/show.roles", laid_septum_show_roles)], narrowed := true }
def EarlyInnerUptoSaid : Prop := earlyInnerUptoRow.holds Tryz.pinned (OpenSpec.upto earlyInnerSpec)

/-- 'septumlaw06.EarlyJoins', WHERE WHAT IT READS IS OF BULK AT MOST 1048576: true; the input reads as it did. -/
def earlyJoinsUptoRow : OpenClaim := { program := "ytfcgpphodacdmaagreatdoor", sum := "fc9ab0cdc461f4a9b49eab65d885290f36b1fbde509640a9208422f085d7a164", func := "septum/septumlaw06.EarlyJoins", spec := "earlyJoins", inPlace := ["internal/bytealg.IndexByteString", "internal/bytealg.IndexString", "math.Float64bits", "internal/abi.NoEscape", "math.Float64frombits", "math.archTrunc"], unfollowed := true, recurses := true, named := ["internal/bytealg.MaxLen", "internal/strconv.uint64pow10", "math/bits.deBruijn32tab", "math/bits.deBruijn64tab", "septum/show.roles"], plainKeys := false, apart := false, laid := [("math/bits.deBruijn32tab", laid_math_bits_deBruijn32tab), ("math/bits.deBruijn64tab", laid_math_bits_deBruijn64tab), ("internal/strconv.uint64pow10", laid_internal_strconv_uint64pow10), ("septum/show.roles", laid_septum_show_roles)], narrowed := true }
def EarlyJoinsUptoSaid : Prop := earlyJoinsUptoRow.holds Tryz.pinned (OpenSpec.upto earlyJoinsSpec)

/-- 'septumlaw06.EarlySaid', WHERE WHAT IT READS IS OF BULK AT MOST 1048576: true; the input reads as it did. -/
def earlySaidUptoRow : OpenClaim := { program := "ytfcgpphodacdmaagreatdoor", sum := "fc9ab0cdc461f4a9b49eab65d885290f36b1fbde509640a9208422f085d7a164", func := "septum/septumlaw06.EarlySaid", spec := "earlySaid", inPlace := ["internal/bytealg.IndexByteString", "internal/bytealg.IndexString", "math.Float64bits", "internal/abi.NoEscape", "math.Float64frombits", "math.archTrunc"], unfollowed := true, recurses := true, named := ["internal/bytealg.MaxLen", "internal/strconv.uint64pow10", "math/bits.deBruijn32tab", "math/bits.deBruijn64tab", "septum/show.roles"], plainKeys := false, apart := false, laid := [("math/bits.deBruijn32tab", laid_math_bits_deBruijn32tab), ("math/bits.deBruijn64tab", laid_math_bits_deBruijn64tab), ("internal/strconv.uint64pow10", laid_internal_strconv_uint64pow10), ("septum/show.roles", laid_septum_show_roles)], narrowed := true }
def EarlySaidUptoSaid : Prop := earlySaidUptoRow.holds Tryz.pinned (OpenSpec.upto earlySaidSpec)

end Rows
end Go.Proofs.YtfcgpphodacdmaaGreatDoor
