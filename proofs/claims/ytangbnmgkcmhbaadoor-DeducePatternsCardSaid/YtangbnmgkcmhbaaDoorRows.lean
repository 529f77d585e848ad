/-
  NARROWER THAN 'FOR EVERY INPUT', by the rows' own cells (each row's printed sentence says how): DeduceKnows: laid · DeducePatterns: laid · DeduceMore: laid · DeduceNames: laid · DeduceAlike: laid.
  DERIVED. THE GIVEN ROWS OF THIS SEAT. 5 by the template 'for every input the law returns true; each argument reads behind the call as it read before'; 0 by the template 'total and deterministic' (their statements: YtangbnmgkcmhbaaDoorTotals.lean).
  GIVEN WITH THE SEED: the statements are not yours to turn. If you find one false, say at which input.
  Laid BY PROGRAM, IN A SANDBOX (cutbox-rows.mjs): the forced cells as the released guide's own fill.sh prints them over the translation 59829b5fc0552a1e… (all of the seat's roots in one cut). By AI agents, Wed Nov 11 2026. No macro, syntax, notation, axiom, sorry.
-/
import Derived.Test.YtangbnmgkcmhbaaDoorChecked
import GoSem.Claim
import GoSem.ClaimJoined
import GoSem.ClaimMapViews
import Derived.JoinedTies
import Derived.KernelRfl
namespace Go.Proofs.YtangbnmgkcmhbaaDoor
/- THE CELL 'sum', in the pinned program and in every row, IS THE sha256 OF THE DUMP (.gsa) THAT YtangbnmgkcmhbaaDoorProg.lean LOADS. Nothing in Lean hashes anything: it is a label: what it is worth is what the hold of that sum in a sandbox is worth. -/
noncomputable def Tryd.pinned : Pinned := { name := "ytangbnmgkcmhbaadoor", sum := "59829b5fc0552a1e6ea118df7dbca60114f8c6fcb5009890bf30445765aed65b", checked := Tryd.checked }
namespace Rows
def none {H : Type} : Left H := { results := [], args := [] }

/- WHAT THE LISTED PACKAGE-LEVEL VARIABLES READ AS WHEN THE CALL BEGINS. Each datum BY PROGRAM (the guide's laid-datum.mjs) off the statement by which the dump's own 'gosem.cut.vars' lays the variable. In a bare row this is a premise. The card (YtangbnmgkcmhbaaDoorCards.lean) ties it to the program's text. -/
def laid_math_bits_deBruijn32tab {H : Type} : DataW H := .agg [.lit (.int .u8 0), .lit (.int .u8 1), .lit (.int .u8 28), .lit (.int .u8 2), .lit (.int .u8 29), .lit (.int .u8 14), .lit (.int .u8 24), .lit (.int .u8 3), .lit (.int .u8 30), .lit (.int .u8 22), .lit (.int .u8 20), .lit (.int .u8 15), .lit (.int .u8 25), .lit (.int .u8 17), .lit (.int .u8 4), .lit (.int .u8 8), .lit (.int .u8 31), .lit (.int .u8 27), .lit (.int .u8 13), .lit (.int .u8 23), .lit (.int .u8 21), .lit (.int .u8 19), .lit (.int .u8 16), .lit (.int .u8 7), .lit (.int .u8 26), .lit (.int .u8 12), .lit (.int .u8 18), .lit (.int .u8 6), .lit (.int .u8 11), .lit (.int .u8 5), .lit (.int .u8 10), .lit (.int .u8 9)]
def laid_math_bits_deBruijn64tab {H : Type} : DataW H := .agg [.lit (.int .u8 0), .lit (.int .u8 1), .lit (.int .u8 56), .lit (.int .u8 2), .lit (.int .u8 57), .lit (.int .u8 49), .lit (.int .u8 28), .lit (.int .u8 3), .lit (.int .u8 61), .lit (.int .u8 58), .lit (.int .u8 42), .lit (.int .u8 50), .lit (.int .u8 38), .lit (.int .u8 29), .lit (.int .u8 17), .lit (.int .u8 4), .lit (.int .u8 62), .lit (.int .u8 47), .lit (.int .u8 59), .lit (.int .u8 36), .lit (.int .u8 45), .lit (.int .u8 43), .lit (.int .u8 51), .lit (.int .u8 22), .lit (.int .u8 53), .lit (.int .u8 39), .lit (.int .u8 33), .lit (.int .u8 30), .lit (.int .u8 24), .lit (.int .u8 18), .lit (.int .u8 12), .lit (.int .u8 5), .lit (.int .u8 63), .lit (.int .u8 55), .lit (.int .u8 48), .lit (.int .u8 27), .lit (.int .u8 60), .lit (.int .u8 41), .lit (.int .u8 37), .lit (.int .u8 16), .lit (.int .u8 46), .lit (.int .u8 35), .lit (.int .u8 44), .lit (.int .u8 21), .lit (.int .u8 52), .lit (.int .u8 32), .lit (.int .u8 23), .lit (.int .u8 11), .lit (.int .u8 54), .lit (.int .u8 26), .lit (.int .u8 40), .lit (.int .u8 15), .lit (.int .u8 34), .lit (.int .u8 20), .lit (.int .u8 31), .lit (.int .u8 10), .lit (.int .u8 25), .lit (.int .u8 14), .lit (.int .u8 19), .lit (.int .u8 9), .lit (.int .u8 13), .lit (.int .u8 8), .lit (.int .u8 7), .lit (.int .u8 6)]
def laid_internal_strconv_uint64pow10 {H : Type} : DataW H := .agg [.lit (.int .u64 1), .lit (.int .u64 10), .lit (.int .u64 100), .lit (.int .u64 1000), .lit (.int .u64 10000), .lit (.int .u64 100000), .lit (.int .u64 1000000), .lit (.int .u64 10000000), .lit (.int .u64 100000000), .lit (.int .u64 1000000000), .lit (.int .u64 10000000000), .lit (.int .u64 100000000000), .lit (.int .u64 1000000000000), .lit (.int .u64 10000000000000), .lit (.int .u64 100000000000000), .lit (.int .u64 1000000000000000), .lit (.int .u64 10000000000000000), .lit (.int .u64 100000000000000000), .lit (.int .u64 1000000000000000000), .lit (.int .u64 10000000000000000000)]
def laid_cassock_term_kinds {H : Type} : DataW H := .agg [.agg [.lit (.string []), .lit (.int .i64 0), .lit (.int .i64 0)], .agg [.lit (.string []), .lit (.int .i64 0), .lit (.int .i64 0)], .agg [.lit (.string []), .lit (.int .i64 0), .lit (.int .i64 0)], .agg [.lit (.string [108, 105, 115, 116]), .lit (.int .i64 0), .lit (.int .i64 64)], .agg [.lit (.string [104, 97, 115, 104]), .lit (.int .i64 1), .lit (.int .i64 1)], .agg [.lit (.string [109, 105, 120]), .lit (.int .i64 2), .lit (.int .i64 2)], .agg [.lit (.string [107, 101, 121]), .lit (.int .i64 3), .lit (.int .i64 3)], .agg [.lit (.string [112, 117, 98]), .lit (.int .i64 1), .lit (.int .i64 1)], .agg [.lit (.string [115, 101, 97, 108]), .lit (.int .i64 4), .lit (.int .i64 4)], .agg [.lit (.string [101, 110, 99]), .lit (.int .i64 4), .lit (.int .i64 4)], .agg [.lit (.string [115, 105, 103]), .lit (.int .i64 2), .lit (.int .i64 2)], .agg [.lit (.string [109, 97, 99]), .lit (.int .i64 2), .lit (.int .i64 2)], .agg [.lit (.string [98, 108, 105, 110, 100]), .lit (.int .i64 2), .lit (.int .i64 2)]]
def laid_cassock_deduce_names {H : Type} : DataW H := .agg [.lit (.string []), .lit (.string [97, 116, 111, 109]), .lit (.string []), .lit (.string [108, 105, 115, 116]), .lit (.string [104, 97, 115, 104]), .lit (.string [109, 105, 120]), .lit (.string [107, 101, 121]), .lit (.string [112, 117, 98]), .lit (.string [115, 101, 97, 108]), .lit (.string [101, 110, 99]), .lit (.string [115, 105, 103]), .lit (.string [109, 97, 99]), .lit (.string [98, 108, 105, 110, 100])]

/-- 'cassocklaw05.DeduceKnows': WHATEVER THE INPUT: true; the input reads as it did. -/
def deduceKnowsSpec : ChangeSpec := { name := "deduceKnows", fn := fun _ => fun
  | [d1, d2, d3] => { results := [.lit (.bool true)], args := [d1, d2, d3] }
  | _ => none }
def deduceKnowsRow : OpenClaim := { program := "ytangbnmgkcmhbaadoor", sum := "59829b5fc0552a1e6ea118df7dbca60114f8c6fcb5009890bf30445765aed65b", func := "cassock/cassocklaw05.DeduceKnows", spec := "deduceKnows", inPlace := ["internal/abi.NoEscape", "internal/bytealg.MakeNoZero"], unfollowed := true, recurses := true, named := ["cassock/term.kinds", "internal/strconv.uint64pow10", "math/bits.deBruijn32tab", "math/bits.deBruijn64tab", "cassock/deduce.names"], plainKeys := false, apart := false, laid := [("math/bits.deBruijn32tab", laid_math_bits_deBruijn32tab), ("math/bits.deBruijn64tab", laid_math_bits_deBruijn64tab), ("internal/strconv.uint64pow10", laid_internal_strconv_uint64pow10), ("cassock/term.kinds", laid_cassock_term_kinds), ("cassock/deduce.names", laid_cassock_deduce_names)] }
def DeduceKnowsSaid : Prop := deduceKnowsRow.holds Tryd.pinned (OpenSpec.ofChange deduceKnowsSpec)

/-- ITS FALSE NEIGHBOUR: 'it returns false'. Refute it at one input. -/
def deduceKnowsWrong : ChangeSpec := { name := "deduceKnows", fn := fun _ => fun
  | [d1, d2, d3] => { results := [.lit (.bool false)], args := [d1, d2, d3] }
  | _ => none }
def DeduceKnowsWrongFalsely : Prop := deduceKnowsRow.holds Tryd.pinned (OpenSpec.ofChange deduceKnowsWrong)

/-- 'cassocklaw05.DeducePatterns': WHATEVER THE INPUT: true; the input reads as it did. -/
def deducePatternsSpec : ChangeSpec := { name := "deducePatterns", fn := fun _ => fun
  | [d1, d2, d3] => { results := [.lit (.bool true)], args := [d1, d2, d3] }
  | _ => none }
def deducePatternsRow : OpenClaim := { program := "ytangbnmgkcmhbaadoor", sum := "59829b5fc0552a1e6ea118df7dbca60114f8c6fcb5009890bf30445765aed65b", func := "cassock/cassocklaw05.DeducePatterns", spec := "deducePatterns", inPlace := ["internal/abi.NoEscape", "internal/bytealg.MakeNoZero"], unfollowed := true, recurses := true, named := ["cassock/term.kinds", "internal/strconv.uint64pow10", "math/bits.deBruijn32tab", "math/bits.deBruijn64tab", "cassock/deduce.names"], plainKeys := false, apart := false, laid := [("math/bits.deBruijn32tab", laid_math_bits_deBruijn32tab), ("math/bits.deBruijn64tab", laid_math_bits_deBruijn64tab), ("internal/strconv.uint64pow10", laid_internal_strconv_uint64pow10), ("cassock/term.kinds", laid_cassock_term_kinds), ("cassock/deduce.names", laid_cassock_deduce_names)] }
def DeducePatternsSaid : Prop := deducePatternsRow.holds Tryd.pinned (OpenSpec.ofChange deducePatternsSpec)

/-- ITS FALSE NEIGHBOUR: 'it returns false'. Refute it at one input. -/
def deducePatternsWrong : ChangeSpec := { name := "deducePatterns", fn := fun _ => fun
  | [d1, d2, d3] => { results := [.lit (.bool false)], args := [d1, d2, d3] }
  | _ => none }
def DeducePatternsWrongFalsely : Prop := deducePatternsRow.holds Tryd.pinned (OpenSpec.ofChange deducePatternsWrong)

/-- 'cassocklaw05.DeduceMore': WHATEVER THE INPUT: true; the input reads as it did. -/
def deduceMoreSpec : ChangeSpec := { name := "deduceMore", fn := fun _ => fun
  | [d1, d2, d3] => { results := [.lit (.bool true)], args := [d1, d2, d3] }
  | _ => none }
def deduceMoreRow : OpenClaim := { program := "ytangbnmgkcmhbaadoor", sum := "59829b5fc0552a1e6ea118df7dbca60114f8c6fcb5009890bf30445765aed65b", func := "cassock/cassocklaw05.DeduceMore", spec := "deduceMore", inPlace := ["internal/abi.NoEscape", "internal/bytealg.MakeNoZero"], unfollowed := true, recurses := true, named := ["cassock/term.kinds", "internal/strconv.uint64pow10", "math/bits.deBruijn32tab", "math/bits.deBruijn64tab", "cassock/deduce.names"], plainKeys := false, apart := false, laid := [("math/bits.deBruijn32tab", laid_math_bits_deBruijn32tab), ("math/bits.deBruijn64tab", laid_math_bits_deBruijn64tab), ("internal/strconv.uint64pow10", laid_internal_strconv_uint64pow10), ("cassock/term.kinds", laid_cassock_term_kinds), ("cassock/deduce.names", laid_cassock_deduce_names)] }
def DeduceMoreSaid : Prop := deduceMoreRow.holds Tryd.pinned (OpenSpec.ofChange deduceMoreSpec)

/-- ITS FALSE NEIGHBOUR: 'it returns false'. Refute it at one input. -/
def deduceMoreWrong : ChangeSpec := { name := "deduceMore", fn := fun _ => fun
  | [d1, d2, d3] => { results := [.lit (.bool false)], args := [d1, d2, d3] }
  | _ => none }
def DeduceMoreWrongFalsely : Prop := deduceMoreRow.holds Tryd.pinned (OpenSpec.ofChange deduceMoreWrong)

/-- 'cassocklaw05.DeduceNames': WHATEVER THE INPUT: true; the input reads as it did. -/
def deduceNamesSpec : ChangeSpec := { name := "deduceNames", fn := fun _ => fun
  | [d1, d2, d3] => { results := [.lit (.bool true)], args := [d1, d2, d3] }
  | _ => none }
def deduceNamesRow : OpenClaim := { program := "ytangbnmgkcmhbaadoor", sum := "59829b5fc0552a1e6ea118df7dbca60114f8c6fcb5009890bf30445765aed65b", func := "cassock/cassocklaw05.DeduceNames", spec := "deduceNames", inPlace := ["internal/abi.NoEscape", "internal/bytealg.MakeNoZero"], unfollowed := true, recurses := true, named := ["cassock/term.kinds", "internal/strconv.uint64pow10", "math/bits.deBruijn32tab", "math/bits.deBruijn64tab", "cassock/deduce.names"], plainKeys := false, apart := false, laid := [("math/bits.deBruijn32tab", laid_math_bits_deBruijn32tab), ("math/bits.deBruijn64tab", laid_math_bits_deBruijn64tab), ("internal/strconv.uint64pow10", laid_internal_strconv_uint64pow10), ("cassock/term.kinds", laid_cassock_term_kinds), ("cassock/deduce.names", laid_cassock_deduce_names)] }
def DeduceNamesSaid : Prop := deduceNamesRow.holds Tryd.pinned (OpenSpec.ofChange deduceNamesSpec)

/-- ITS FALSE NEIGHBOUR: 'it returns false'. Refute it at one input. -/
def deduceNamesWrong : ChangeSpec := { name := "deduceNames", fn := fun _ => fun
  | [d1, d2, d3] => { results := [.lit (.bool false)], args := [d1, d2, d3] }
  | _ => none }
def DeduceNamesWrongFalsely : Prop := deduceNamesRow.holds Tryd.pinned (OpenSpec.ofChange deduceNamesWrong)

/-- 'cassocklaw05.DeduceAlike': WHATEVER THE INPUT: true; the input reads as it did. -/
def deduceAlikeSpec : ChangeSpec := { name := "deduceAlike", fn := fun _ => fun
  | [d1, d2, d3] => { results := [.lit (.bool true)], args := [d1, d2, d3] }
  | _ => none }
def deduceAlikeRow : OpenClaim := { program := "ytangbnmgkcmhbaadoor", sum := "59829b5fc0552a1e6ea118df7dbca60114f8c6fcb5009890bf30445765aed65b", func := "cassock/cassocklaw05.DeduceAlike", spec := "deduceAlike", inPlace := ["internal/abi.NoEscape", "internal/bytealg.MakeNoZero"], unfollowed := true, recurses := true, named := ["cassock/term.kinds", "internal/strconv.uint64pow10", "math/bits.deBruijn32tab", "math/bits.deBruijn64tab", "cassock/deduce.names"], plainKeys := false, apart := false, laid := [("math/bits.deBruijn32tab", laid_math_bits_deBruijn32tab), ("math/bits.deBruijn64tab", laid_math_bits_deBruijn64tab), ("internal/strconv.uint64pow10", laid_internal_strconv_uint64pow10), ("cassock/term.kinds", laid_cassock_term_kinds), ("cassock/deduce.names", laid_cassock_deduce_names)] }
def DeduceAlikeSaid : Prop := deduceAlikeRow.holds Tryd.pinned (OpenSpec.ofChange deduceAlikeSpec)

/-- ITS FALSE NEIGHBOUR: 'it returns false'. Refute it at one input. -/
def deduceAlikeWrong : ChangeSpec := { name := "deduceAlike", fn := fun _ => fun
  | [d1, d2, d3] => { results := [.lit (.bool false)], args := [d1, d2, d3] }
  | _ => none }
def DeduceAlikeWrongFalsely : Prop := deduceAlikeRow.holds Tryd.pinned (OpenSpec.ofChange deduceAlikeWrong)

/- THE SECOND FORM. 'bulk': how many values and letters a reading holds, each counted each time it is reached (what is shared counts as often as it is met; a slice's spare places count too). A statement '..UptoSaid' is the law's where the arguments, and the package variables that the reading takes, are together of bulk at most 1048576: NARROWER than '..Said'. Prove '..Said' where nothing that the law and all that it calls make is longer than what came in: it says more and counts as full. Else prove '..UptoSaid'. A law counts once. -/
mutual
def uptoBulk {H : Type} : DataW H → Nat
  | .lit (.string bytes) => bytes.length + 1
  | .lit _ => 1
  | .nil => 1
  | .ptr d => uptoBulk d + 1
  | .slice elems spare => uptoBulkAll elems + uptoBulkAll spare + 1
  | .agg parts => uptoBulkAll parts + 1
  | .iface _ d => uptoBulk d + 1
  | .map entries => uptoBulkEntries entries + 1
  | .held _ => 1
def uptoBulkAll {H : Type} : List (DataW H) → Nat
  | [] => 0
  | d :: r => uptoBulk d + uptoBulkAll r
def uptoBulkEntries {H : Type} : List (Lit × DataW H) → Nat
  | [] => 0
  | x :: r => uptoBulkEntry x + uptoBulkEntries r
def uptoBulkEntry {H : Type} : Lit × DataW H → Nat
  | (.string bytes, d) => bytes.length + uptoBulk d + 1
  | (_, d) => uptoBulk d + 1
 end
def uptoSmall : (H : Type) → List (DataW H) → Bool := fun _ ds => decide (uptoBulkAll ds ≤ 1048576)
def OpenSpec.upto (s : _root_.Go.ChangeSpec) : _root_.Go.OpenSpec := { _root_.Go.OpenSpec.ofChange s with cond := some uptoSmall }

/-- 'cassocklaw05.DeduceKnows', WHERE WHAT IT READS IS OF BULK AT MOST 1048576: true; the input reads as it did. -/
def deduceKnowsUptoRow : OpenClaim := { program := "ytangbnmgkcmhbaadoor", sum := "59829b5fc0552a1e6ea118df7dbca60114f8c6fcb5009890bf30445765aed65b", func := "cassock/cassocklaw05.DeduceKnows", spec := "deduceKnows", inPlace := ["internal/abi.NoEscape", "internal/bytealg.MakeNoZero"], unfollowed := true, recurses := true, named := ["cassock/term.kinds", "internal/strconv.uint64pow10", "math/bits.deBruijn32tab", "math/bits.deBruijn64tab", "cassock/deduce.names"], plainKeys := false, apart := false, laid := [("math/bits.deBruijn32tab", laid_math_bits_deBruijn32tab), ("math/bits.deBruijn64tab", laid_math_bits_deBruijn64tab), ("internal/strconv.uint64pow10", laid_internal_strconv_uint64pow10), ("cassock/term.kinds", laid_cassock_term_kinds), ("cassock/deduce.names", laid_cassock_deduce_names)], narrowed := true }
def DeduceKnowsUptoSaid : Prop := deduceKnowsUptoRow.holds Tryd.pinned (OpenSpec.upto deduceKnowsSpec)

/-- 'cassocklaw05.DeducePatterns', WHERE WHAT IT READS IS OF BULK AT MOST 1048576: true; the input reads as it did. -/
def deducePatternsUptoRow : OpenClaim := { program := "ytangbnmgkcmhbaadoor", sum := "59829b5fc0552a1e6ea118df7dbca60114f8c6fcb5009890bf30445765aed65b", func := "cassock/cassocklaw05.DeducePatterns", spec := "deducePatterns", inPlace := ["internal/abi.NoEscape", "internal/bytealg.MakeNoZero"], unfollowed := true, recurses := true, named := ["cassock/term.kinds", "internal/strconv.uint64pow10", "math/bits.deBruijn32tab", "math/bits.deBruijn64tab", "cassock/deduce.names"], plainKeys := false, apart := false, laid := [("math/bits.deBruijn32tab", laid_math_bits_deBruijn32tab), ("math/bits.deBruijn64tab", laid_math_bits_deBruijn64tab), ("internal/strconv.uint64pow10", laid_internal_strconv_uint64pow10), ("cassock/term.kinds", laid_cassock_term_kinds), ("cassock/deduce.names", laid_cassock_deduce_names)], narrowed := true }
def DeducePatternsUptoSaid : Prop := deducePatternsUptoRow.holds Tryd.pinned (OpenSpec.upto deducePatternsSpec)

/-- 'cassocklaw05.DeduceMore', WHERE WHAT IT READS IS OF BULK AT MOST 1048576: true; the input reads as it did. -/
def deduceMoreUptoRow : OpenClaim := { program := "ytangbnmgkcmhbaadoor", sum := "59829b5fc0552a1e6ea118df7dbca60114f8c6fcb5009890bf30445765aed65b", func := "cassock/cassocklaw05.DeduceMore", spec := "deduceMore", inPlace := ["internal/abi.NoEscape", "internal/bytealg.MakeNoZero"], unfollowed := true, recurses := true, named := ["cassock/term.kinds", "internal/strconv.uint64pow10", "math/bits.deBruijn32tab", "math/bits.deBruijn64tab", "cassock/deduce.names"], plainKeys := false, apart := false, laid := [("math/bits.deBruijn32tab", laid_math_bits_deBruijn32tab), ("math/bits.deBruijn64tab", laid_math_bits_deBruijn64tab), ("internal/strconv.uint64pow10", laid_internal_strconv_uint64pow10), ("cassock/term.kinds", laid_cassock_term_kinds), ("cassock/deduce.names", laid_cassock_deduce_names)], narrowed := true }
def DeduceMoreUptoSaid : Prop := deduceMoreUptoRow.holds Tryd.pinned (OpenSpec.upto deduceMoreSpec)

/-- 'cassocklaw05.DeduceNames', WHERE WHAT IT READS IS OF BULK AT MOST 1048576: true; the input reads as it did. -/
def deduceNamesUptoRow : OpenClaim := { program := "ytangbnmgkcmhbaadoor", sum := "59829b5fc0552a1e6ea118df7dbca60114f8c6fcb5009890bf30445765aed65b", func := "cassock/cassocklaw05.DeduceNames", spec := "deduceNames", inPlace := ["internal/abi.NoEscape", "internal/bytealg.MakeNoZero"], unfollowed := true, recurses := true, named := ["cassock/term.kinds", "internal/strconv.uint64pow10", "math/bits.deBruijn32tab", "math/bits.deBruijn64tab", "cassock/deduce.names"], plainKeys := false, apart := false, laid := [("math/bits.deBruijn32tab", laid_math_bits_deBruijn32tab), ("math/bits.deBruijn64tab", laid_math_bits_deBruijn64tab), ("internal/strconv.uint64pow10", laid_internal_strconv_uint64pow10), ("cassock/term.kinds", laid_cassock_term_kinds), ("cassock/deduce.names", laid_cassock_deduce_names)], narrowed := true }
def DeduceNamesUptoSaid : Prop := deduceNamesUptoRow.holds Tryd.pinned (OpenSpec.upto deduceNamesSpec)

/-- 'cassocklaw05.DeduceAlike', WHERE WHAT IT READS IS OF BULK AT MOST 1048576: true; the input reads as it did. -/
def deduceAlikeUptoRow : OpenClaim := { program := "ytangbnmgkcmhbaadoor", sum := "59829b5fc0552a1e6ea118df7dbca60114f8c6fcb5009890bf30445765aed65b", func := "cassock/cassocklaw05.DeduceAlike", spec := "deduceAlike", inPlace := ["internal/abi.NoEscape", "internal/bytealg.MakeNoZero"], unfollowed := true, recurses := true, named := ["cassock/term.kinds", "internal/strconv.uint64pow10", "math/bits.deBruijn32tab", "math/bits.deBruijn64tab", "cassock/deduce.names"], plainKeys := false, apart := false, laid := [("math/bits.deBruijn32tab", laid_math_bits_deBruijn32tab), ("math/bits.deBruijn64tab", laid_math_bits_deBruijn64tab), ("internal/strconv.uint64pow10", laid_internal_strconv_uint64pow10), ("cassock/term.kinds", laid_cassock_term_kinds), ("cassock/deduce.names", laid_cassock_deduce_names)], narrowed := true }
def DeduceAlikeUptoSaid : Prop := deduceAlikeUptoRow.holds Tryd.pinned (OpenSpec.upto deduceAlikeSpec)

end Rows
end Go.Proofs.YtangbnmgkcmhbaaDoor
