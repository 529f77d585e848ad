/-
  NARROWER THAN 'FOR EVERY INPUT', by the rows' own cells (each row's printed sentence says how): TranscriptMakes: laid · TranscriptReads: laid · TranscriptApart: laid · TranscriptBack: laid · TranscriptGoes: laid · TranscriptTags: laid.
  DERIVED. THE GIVEN ROWS OF THIS SEAT. 6 by the template 'for every input the law returns true; each argument reads behind the call as it read before'; 0 by the template 'total and deterministic' (their statements: YtdjfdobcjakmhaaDoorTotals.lean).
  GIVEN WITH THE SEED: the statements are not yours to turn. If you find one false, say at which input.
  Laid BY PROGRAM, IN A SANDBOX (cutbox-rows.mjs): the forced cells as the released guide's own fill.sh prints them over the translation d7d41936a1475c3a… (all of the seat's roots in one cut). By AI agents, Wed Nov 11 2026. No macro, syntax, notation, axiom, sorry.
-/
import Derived.Test.YtdjfdobcjakmhaaDoorChecked
import GoSem.Claim
import GoSem.ClaimJoined
import GoSem.ClaimMapViews
import Derived.JoinedTies
import Derived.KernelRfl
namespace Go.Proofs.YtdjfdobcjakmhaaDoor
/- THE CELL 'sum', in the pinned program and in every row, IS THE sha256 OF THE DUMP (.gsa) THAT YtdjfdobcjakmhaaDoorProg.lean LOADS. Nothing in Lean hashes anything: it is a label: what it is worth is what the hold of that sum in a sandbox is worth. -/
noncomputable def Tryd.pinned : Pinned := { name := "ytdjfdobcjakmhaadoor", sum := "d7d41936a1475c3add0752c6bc216c84a1614ed5109abfa9a77661f62f4d389e", checked := Tryd.checked }
namespace Rows
def none {H : Type} : Left H := { results := [], args := [] }

/- WHAT THE LISTED PACKAGE-LEVEL VARIABLES READ AS WHEN THE CALL BEGINS. Each datum BY PROGRAM (the guide's laid-datum.mjs) off the statement by which the dump's own 'gosem.cut.vars' lays the variable. In a bare row this is a premise. The card (YtdjfdobcjakmhaaDoorCards.lean) ties it to the program's text. -/
def laid_math_bits_deBruijn32tab {H : Type} : DataW H := .agg [.lit (.int .u8 0), .lit (.int .u8 1), .lit (.int .u8 28), .lit (.int .u8 2), .lit (.int .u8 29), .lit (.int .u8 14), .lit (.int .u8 24), .lit (.int .u8 3), .lit (.int .u8 30), .lit (.int .u8 22), .lit (.int .u8 20), .lit (.int .u8 15), .lit (.int .u8 25), .lit (.int .u8 17), .lit (.int .u8 4), .lit (.int .u8 8), .lit (.int .u8 31), .lit (.int .u8 27), .lit (.int .u8 13), .lit (.int .u8 23), .lit (.int .u8 21), .lit (.int .u8 19), .lit (.int .u8 16), .lit (.int .u8 7), .lit (.int .u8 26), .lit (.int .u8 12), .lit (.int .u8 18), .lit (.int .u8 6), .lit (.int .u8 11), .lit (.int .u8 5), .lit (.int .u8 10), .lit (.int .u8 9)]
def laid_math_bits_deBruijn64tab {H : Type} : DataW H := .agg [.lit (.int .u8 0), .lit (.int .u8 1), .lit (.int .u8 56), .lit (.int .u8 2), .lit (.int .u8 57), .lit (.int .u8 49), .lit (.int .u8 28), .lit (.int .u8 3), .lit (.int .u8 61), .lit (.int .u8 58), .lit (.int .u8 42), .lit (.int .u8 50), .lit (.int .u8 38), .lit (.int .u8 29), .lit (.int .u8 17), .lit (.int .u8 4), .lit (.int .u8 62), .lit (.int .u8 47), .lit (.int .u8 59), .lit (.int .u8 36), .lit (.int .u8 45), .lit (.int .u8 43), .lit (.int .u8 51), .lit (.int .u8 22), .lit (.int .u8 53), .lit (.int .u8 39), .lit (.int .u8 33), .lit (.int .u8 30), .lit (.int .u8 24), .lit (.int .u8 18), .lit (.int .u8 12), .lit (.int .u8 5), .lit (.int .u8 63), .lit (.int .u8 55), .lit (.int .u8 48), .lit (.int .u8 27), .lit (.int .u8 60), .lit (.int .u8 41), .lit (.int .u8 37), .lit (.int .u8 16), .lit (.int .u8 46), .lit (.int .u8 35), .lit (.int .u8 44), .lit (.int .u8 21), .lit (.int .u8 52), .lit (.int .u8 32), .lit (.int .u8 23), .lit (.int .u8 11), .lit (.int .u8 54), .lit (.int .u8 26), .lit (.int .u8 40), .lit (.int .u8 15), .lit (.int .u8 34), .lit (.int .u8 20), .lit (.int .u8 31), .lit (.int .u8 10), .lit (.int .u8 25), .lit (.int .u8 14), .lit (.int .u8 19), .lit (.int .u8 9), .lit (.int .u8 13), .lit (.int .u8 8), .lit (.int .u8 7), .lit (.int .u8 6)]
def laid_internal_strconv_uint64pow10 {H : Type} : DataW H := .agg [.lit (.int .u64 1), .lit (.int .u64 10), .lit (.int .u64 100), .lit (.int .u64 1000), .lit (.int .u64 10000), .lit (.int .u64 100000), .lit (.int .u64 1000000), .lit (.int .u64 10000000), .lit (.int .u64 100000000), .lit (.int .u64 1000000000), .lit (.int .u64 10000000000), .lit (.int .u64 100000000000), .lit (.int .u64 1000000000000), .lit (.int .u64 10000000000000), .lit (.int .u64 100000000000000), .lit (.int .u64 1000000000000000), .lit (.int .u64 10000000000000000), .lit (.int .u64 100000000000000000), .lit (.int .u64 1000000000000000000), .lit (.int .u64 10000000000000000000)]
def laid_strconv_ErrRange {H : Type} : DataW H := .iface "*errors.errorString" (.ptr (.agg [.lit (.string [118, 97, 108, 117, 101, 32, 111, 117, 116, 32, 111, 102, 32, 114, 97, 110, 103, 101])]))
def laid_strconv_ErrSyntax {H : Type} : DataW H := .iface "*errors.errorString" (.ptr (.agg [.lit (.string [105, 110, 118, 97, 108, 105, 100, 32, 115, 121, 110, 116, 97, 120])]))
def laid_cassock_term_kinds {H : Type} : DataW H := .agg [.agg [.lit (.string []), .lit (.int .i64 0), .lit (.int .i64 0)], .agg [.lit (.string []), .lit (.int .i64 0), .lit (.int .i64 0)], .agg [.lit (.string []), .lit (.int .i64 0), .lit (.int .i64 0)], .agg [.lit (.string [108, 105, 115, 116]), .lit (.int .i64 0), .lit (.int .i64 64)], .agg [.lit (.string [104, 97, 115, 104]), .lit (.int .i64 1), .lit (.int .i64 1)], .agg [.lit (.string [109, 105, 120]), .lit (.int .i64 2), .lit (.int .i64 2)], .agg [.lit (.string [107, 101, 121]), .lit (.int .i64 3), .lit (.int .i64 3)], .agg [.lit (.string [112, 117, 98]), .lit (.int .i64 1), .lit (.int .i64 1)], .agg [.lit (.string [115, 101, 97, 108]), .lit (.int .i64 4), .lit (.int .i64 4)], .agg [.lit (.string [101, 110, 99]), .lit (.int .i64 4), .lit (.int .i64 4)], .agg [.lit (.string [115, 105, 103]), .lit (.int .i64 2), .lit (.int .i64 2)], .agg [.lit (.string [109, 97, 99]), .lit (.int .i64 2), .lit (.int .i64 2)], .agg [.lit (.string [98, 108, 105, 110, 100]), .lit (.int .i64 2), .lit (.int .i64 2)]]

/-- 'cassocklaw12.TranscriptMakes': WHATEVER THE INPUT: true; the input reads as it did. -/
def transcriptMakesSpec : ChangeSpec := { name := "transcriptMakes", fn := fun _ => fun
  | [d1, d2, d3, d4, d5, d6] => { results := [.lit (.bool true)], args := [d1, d2, d3, d4, d5, d6] }
  | _ => none }
def transcriptMakesRow : OpenClaim := { program := "ytdjfdobcjakmhaadoor", sum := "d7d41936a1475c3add0752c6bc216c84a1614ed5109abfa9a77661f62f4d389e", func := "cassock/cassocklaw12.TranscriptMakes", spec := "transcriptMakes", inPlace := ["internal/abi.NoEscape"], recurses := true, named := ["cassock/term.kinds", "internal/strconv.uint64pow10", "math/bits.deBruijn32tab", "math/bits.deBruijn64tab", "strconv.ErrSyntax", "strconv.ErrRange"], plainKeys := false, apart := false, laid := [("math/bits.deBruijn32tab", laid_math_bits_deBruijn32tab), ("math/bits.deBruijn64tab", laid_math_bits_deBruijn64tab), ("internal/strconv.uint64pow10", laid_internal_strconv_uint64pow10), ("strconv.ErrRange", laid_strconv_ErrRange), ("strconv.ErrSyntax", laid_strconv_ErrSyntax), ("cassock/term.kinds", laid_cassock_term_kinds)] }
def TranscriptMakesSaid : Prop := transcriptMakesRow.holds Tryd.pinned (OpenSpec.ofChange transcriptMakesSpec)

/-- ITS FALSE NEIGHBOUR: 'it returns false'. Refute it at one input. -/
def transcriptMakesWrong : ChangeSpec := { name := "transcriptMakes", fn := fun _ => fun
  | [d1, d2, d3, d4, d5, d6] => { results := [.lit (.bool false)], args := [d1, d2, d3, d4, d5, d6] }
  | _ => none }
def TranscriptMakesWrongFalsely : Prop := transcriptMakesRow.holds Tryd.pinned (OpenSpec.ofChange transcriptMakesWrong)

/-- 'cassocklaw12.TranscriptReads': WHATEVER THE INPUT: true; the input reads as it did. -/
def transcriptReadsSpec : ChangeSpec := { name := "transcriptReads", fn := fun _ => fun
  | [d1, d2, d3, d4] => { results := [.lit (.bool true)], args := [d1, d2, d3, d4] }
  | _ => none }
def transcriptReadsRow : OpenClaim := { program := "ytdjfdobcjakmhaadoor", sum := "d7d41936a1475c3add0752c6bc216c84a1614ed5109abfa9a77661f62f4d389e", func := "cassock/cassocklaw12.TranscriptReads", spec := "transcriptReads", inPlace := ["internal/abi.NoEscape"], recurses := true, named := ["cassock/term.kinds", "internal/strconv.uint64pow10", "math/bits.deBruijn32tab", "math/bits.deBruijn64tab", "strconv.ErrSyntax", "strconv.ErrRange"], plainKeys := false, apart := false, laid := [("math/bits.deBruijn32tab", laid_math_bits_deBruijn32tab), ("math/bits.deBruijn64tab", laid_math_bits_deBruijn64tab), ("internal/strconv.uint64pow10", laid_internal_strconv_uint64pow10), ("strconv.ErrRange", laid_strconv_ErrRange), ("strconv.ErrSyntax", laid_strconv_ErrSyntax), ("cassock/term.kinds", laid_cassock_term_kinds)] }
def TranscriptReadsSaid : Prop := transcriptReadsRow.holds Tryd.pinned (OpenSpec.ofChange transcriptReadsSpec)

/-- ITS FALSE NEIGHBOUR: 'it returns false'. Refute it at one input. -/
def transcriptReadsWrong : ChangeSpec := { name := "transcriptReads", fn := fun _ => fun
  | [d1, d2, d3, d4] => { results := [.lit (.bool false)], args := [d1, d2, d3, d4] }
  | _ => none }
def TranscriptReadsWrongFalsely : Prop := transcriptReadsRow.holds Tryd.pinned (OpenSpec.ofChange transcriptReadsWrong)

/-- 'cassocklaw12.TranscriptApart': WHATEVER THE INPUT: true; the input reads as it did. -/
def transcriptApartSpec : ChangeSpec := { name := "transcriptApart", fn := fun _ => fun
  | [d1, d2, d3] => { results := [.lit (.bool true)], args := [d1, d2, d3] }
  | _ => none }
def transcriptApartRow : OpenClaim := { program := "ytdjfdobcjakmhaadoor", sum := "d7d41936a1475c3add0752c6bc216c84a1614ed5109abfa9a77661f62f4d389e", func := "cassock/cassocklaw12.TranscriptApart", spec := "transcriptApart", inPlace := ["internal/abi.NoEscape"], recurses := true, named := ["cassock/term.kinds", "internal/strconv.uint64pow10", "math/bits.deBruijn32tab", "math/bits.deBruijn64tab", "strconv.ErrSyntax", "strconv.ErrRange"], plainKeys := false, apart := false, laid := [("math/bits.deBruijn32tab", laid_math_bits_deBruijn32tab), ("math/bits.deBruijn64tab", laid_math_bits_deBruijn64tab), ("internal/strconv.uint64pow10", laid_internal_strconv_uint64pow10), ("strconv.ErrRange", laid_strconv_ErrRange), ("strconv.ErrSyntax", laid_strconv_ErrSyntax), ("cassock/term.kinds", laid_cassock_term_kinds)] }
def TranscriptApartSaid : Prop := transcriptApartRow.holds Tryd.pinned (OpenSpec.ofChange transcriptApartSpec)

/-- ITS FALSE NEIGHBOUR: 'it returns false'. Refute it at one input. -/
def transcriptApartWrong : ChangeSpec := { name := "transcriptApart", fn := fun _ => fun
  | [d1, d2, d3] => { results := [.lit (.bool false)], args := [d1, d2, d3] }
  | _ => none }
def TranscriptApartWrongFalsely : Prop := transcriptApartRow.holds Tryd.pinned (OpenSpec.ofChange transcriptApartWrong)

/-- 'cassocklaw12.TranscriptBack': WHATEVER THE INPUT: true; the input reads as it did. -/
def transcriptBackSpec : ChangeSpec := { name := "transcriptBack", fn := fun _ => fun
  | [d1, d2] => { results := [.lit (.bool true)], args := [d1, d2] }
  | _ => none }
def transcriptBackRow : OpenClaim := { program := "ytdjfdobcjakmhaadoor", sum := "d7d41936a1475c3add0752c6bc216c84a1614ed5109abfa9a77661f62f4d389e", func := "cassock/cassocklaw12.TranscriptBack", spec := "transcriptBack", inPlace := ["internal/abi.NoEscape"], recurses := true, named := ["cassock/term.kinds", "internal/strconv.uint64pow10", "math/bits.deBruijn32tab", "math/bits.deBruijn64tab", "strconv.ErrSyntax", "strconv.ErrRange"], plainKeys := false, apart := false, laid := [("math/bits.deBruijn32tab", laid_math_bits_deBruijn32tab), ("math/bits.deBruijn64tab", laid_math_bits_deBruijn64tab), ("internal/strconv.uint64pow10", laid_internal_strconv_uint64pow10), ("strconv.ErrRange", laid_strconv_ErrRange), ("strconv.ErrSyntax", laid_strconv_ErrSyntax), ("cassock/term.kinds", laid_cassock_term_kinds)] }
def TranscriptBackSaid : Prop := transcriptBackRow.holds Tryd.pinned (OpenSpec.ofChange transcriptBackSpec)

/-- ITS FALSE NEIGHBOUR: 'it returns false'. Refute it at one input. -/
def transcriptBackWrong : ChangeSpec := { name := "transcriptBack", fn := fun _ => fun
  | [d1, d2] => { results := [.lit (.bool false)], args := [d1, d2] }
  | _ => none }
def TranscriptBackWrongFalsely : Prop := transcriptBackRow.holds Tryd.pinned (OpenSpec.ofChange transcriptBackWrong)

/-- 'cassocklaw12.TranscriptGoes': WHATEVER THE INPUT: true; the input reads as it did. -/
def transcriptGoesSpec : ChangeSpec := { name := "transcriptGoes", fn := fun _ => fun
  | [d1, d2, d3] => { results := [.lit (.bool true)], args := [d1, d2, d3] }
  | _ => none }
def transcriptGoesRow : OpenClaim := { program := "ytdjfdobcjakmhaadoor", sum := "d7d41936a1475c3add0752c6bc216c84a1614ed5109abfa9a77661f62f4d389e", func := "cassock/cassocklaw12.TranscriptGoes", spec := "transcriptGoes", inPlace := ["internal/abi.NoEscape"], recurses := true, named := ["cassock/term.kinds", "internal/strconv.uint64pow10", "math/bits.deBruijn32tab", "math/bits.deBruijn64tab", "strconv.ErrSyntax", "strconv.ErrRange"], plainKeys := false, apart := false, laid := [("math/bits.deBruijn32tab", laid_math_bits_deBruijn32tab), ("math/bits.deBruijn64tab", laid_math_bits_deBruijn64tab), ("internal/strconv.uint64pow10", laid_internal_strconv_uint64pow10), ("strconv.ErrRange", laid_strconv_ErrRange), ("strconv.ErrSyntax", laid_strconv_ErrSyntax), ("cassock/term.kinds", laid_cassock_term_kinds)] }
def TranscriptGoesSaid : Prop := transcriptGoesRow.holds Tryd.pinned (OpenSpec.ofChange transcriptGoesSpec)

/-- ITS FALSE NEIGHBOUR: 'it returns false'. Refute it at one input. -/
def transcriptGoesWrong : ChangeSpec := { name := "transcriptGoes", fn := fun _ => fun
  | [d1, d2, d3] => { results := [.lit (.bool false)], args := [d1, d2, d3] }
  | _ => none }
def TranscriptGoesWrongFalsely : Prop := transcriptGoesRow.holds Tryd.pinned (OpenSpec.ofChange transcriptGoesWrong)

/-- 'cassocklaw12.TranscriptTags': WHATEVER THE INPUT: true; the input reads as it did. -/
def transcriptTagsSpec : ChangeSpec := { name := "transcriptTags", fn := fun _ => fun
  | [d1, d2] => { results := [.lit (.bool true)], args := [d1, d2] }
  | _ => none }
def transcriptTagsRow : OpenClaim := { program := "ytdjfdobcjakmhaadoor", sum := "d7d41936a1475c3add0752c6bc216c84a1614ed5109abfa9a77661f62f4d389e", func := "cassock/cassocklaw12.TranscriptTags", spec := "transcriptTags", inPlace := ["internal/abi.NoEscape"], recurses := true, named := ["cassock/term.kinds", "internal/strconv.uint64pow10", "math/bits.deBruijn32tab", "math/bits.deBruijn64tab", "strconv.ErrSyntax", "strconv.ErrRange"], plainKeys := false, apart := false, laid := [("math/bits.deBruijn32tab", laid_math_bits_deBruijn32tab), ("math/bits.deBruijn64tab", laid_math_bits_deBruijn64tab), ("internal/strconv.uint64pow10", laid_internal_strconv_uint64pow10), ("strconv.ErrRange", laid_strconv_ErrRange), ("strconv.ErrSyntax", laid_strconv_ErrSyntax), ("cassock/term.kinds", laid_cassock_term_kinds)] }
def TranscriptTagsSaid : Prop := transcriptTagsRow.holds Tryd.pinned (OpenSpec.ofChange transcriptTagsSpec)

/-- ITS FALSE NEIGHBOUR: 'it returns false'. Refute it at one input. -/
def transcriptTagsWrong : ChangeSpec := { name := "transcriptTags", fn := fun _ => fun
  | [d1, d2] => { results := [.lit (.bool false)], args := [d1, d2] }
  | _ => none }
def TranscriptTagsWrongFalsely : Prop := transcriptTagsRow.holds Tryd.pinned (OpenSpec.ofChange transcriptTagsWrong)

/- THE SECOND FORM. 'bulk': how many values and letters a reading holds, each counted each time it is reached (what is shared counts as often as it is met; a slice's spare places count too). A statement '..UptoSaid' is the law's where the arguments, and the package variables that the reading takes, are together of bulk at most 1048576: NARROWER than '..Said'. Prove '..Said' where nothing that the law and all that it calls make is longer than what came in: it says more and counts as full. Else prove '..UptoSaid'. A law counts once. -/
mutual
def uptoBulk {H : Type} : DataW H → Nat
  | .lit (.string bytes) => bytes.length + 1
  | .lit _ => 1
  | .nil => 1
  | .ptr d => uptoBulk d + 1
  | .slice elems spare => uptoBulkAll elems + uptoBulkAll spare + 1
  | .agg parts => uptoBulkAll parts + 1
  | .iface _ d => uptoBulk d + 1
  | .map entries => uptoBulkEntries entries + 1
  | .held _ => 1
def uptoBulkAll {H : Type} : List (DataW H) → Nat
  | [] => 0
  | d :: r => uptoBulk d + uptoBulkAll r
def uptoBulkEntries {H : Type} : List (Lit × DataW H) → Nat
  | [] => 0
  | x :: r => uptoBulkEntry x + uptoBulkEntries r
def uptoBulkEntry {H : Type} : Lit × DataW H → Nat
  | (.string bytes, d) => bytes.length + uptoBulk d + 1
  | (_, d) => uptoBulk d + 1
 end
def uptoSmall : (H : Type) → List (DataW H) → Bool := fun _ ds => decide (uptoBulkAll ds ≤ 1048576)
def OpenSpec.upto (s : _root_.Go.ChangeSpec) : _root_.Go.OpenSpec := { _root_.Go.OpenSpec.ofChange s with cond := some uptoSmall }

/-- 'cassocklaw12.TranscriptMakes', WHERE WHAT IT READS IS OF BULK AT MOST 1048576: true; the input reads as it did. -/
def transcriptMakesUptoRow : OpenClaim := { program := "ytdjfdobcjakmhaadoor", sum := "d7d41936a1475c3add0752c6bc216c84a1614ed5109abfa9a77661f62f4d389e", func := "cassock/cassocklaw12.TranscriptMakes", spec := "transcriptMakes", inPlace := ["internal/abi.NoEscape"], recurses := true, named := ["cassock/term.kinds", "internal/strconv.uint64pow10", "math/bits.deBruijn32tab", "math/bits.deBruijn64tab", "strconv.ErrSyntax", "strconv.ErrRange"], plainKeys := false, apart := false, laid := [("math/bits.deBruijn32tab", laid_math_bits_deBruijn32tab), ("math/bits.deBruijn64tab", laid_math_bits_deBruijn64tab), ("internal/strconv.uint64pow10", laid_internal_strconv_uint64pow10), ("strconv.ErrRange", laid_strconv_ErrRange), ("strconv.ErrSyntax", laid_strconv_ErrSyntax), ("cassock/term.kinds", laid_cassock_term_kinds)], narrowed := true }
def TranscriptMakesUptoSaid : Prop := transcriptMakesUptoRow.holds Tryd.pinned (OpenSpec.upto transcriptMakesSpec)

/-- 'cassocklaw12.TranscriptReads', WHERE WHAT IT READS IS OF BULK AT MOST 1048576: true; the input reads as it did. -/
def transcriptReadsUptoRow : OpenClaim := { program := "ytdjfdobcjakmhaadoor", sum := "d7d41936a1475c3add0752c6bc216c84a1614ed5109abfa9a77661f62f4d389e", func := "cassock/cassocklaw12.TranscriptReads", spec := "transcriptReads", inPlace := ["internal/abi.NoEscape"], recurses := true, named := ["cassock/term.kinds", "internal/strconv.uint64pow10", "math/bits.deBruijn32tab", "math/bits.deBruijn64tab", "strconv.ErrSyntax", "strconv.ErrRange"], plainKeys := false, apart := false, laid := [("math/bits.deBruijn32tab", laid_math_bits_deBruijn32tab), ("math/bits.deBruijn64tab", laid_math_bits_deBruijn64tab), ("internal/strconv.uint64pow10", laid_internal_strconv_uint64pow10), ("strconv.ErrRange", laid_strconv_ErrRange), ("strconv.ErrSyntax", laid_strconv_ErrSyntax), ("cassock/term.kinds", laid_cassock_term_kinds)], narrowed := true }
def TranscriptReadsUptoSaid : Prop := transcriptReadsUptoRow.holds Tryd.pinned (OpenSpec.upto transcriptReadsSpec)

/-- 'cassocklaw12.TranscriptApart', WHERE WHAT IT READS IS OF BULK AT MOST 1048576: true; the input reads as it did. -/
def transcriptApartUptoRow : OpenClaim := { program := "ytdjfdobcjakmhaadoor", sum := "d7d41936a1475c3add0752c6bc216c84a1614ed5109abfa9a77661f62f4d389e", func := "cassock/cassocklaw12.TranscriptApart", spec := "transcriptApart", inPlace := ["internal/abi.NoEscape"], recurses := true, named := ["cassock/term.kinds", "internal/strconv.uint64pow10", "math/bits.deBruijn32tab", "math/bits.deBruijn64tab", "strconv.ErrSyntax", "strconv.ErrRange"], plainKeys := false, apart := false, laid := [("math/bits.deBruijn32tab", laid_math_bits_deBruijn32tab), ("math/bits.deBruijn64tab", laid_math_bits_deBruijn64tab), ("internal/strconv.uint64pow10", laid_internal_strconv_uint64pow10), ("strconv.ErrRange", laid_strconv_ErrRange), ("strconv.ErrSyntax", laid_strconv_ErrSyntax), ("cassock/term.kinds", laid_cassock_term_kinds)], narrowed := true }
def TranscriptApartUptoSaid : Prop := transcriptApartUptoRow.holds Tryd.pinned (OpenSpec.upto transcriptApartSpec)

/-- 'cassocklaw12.TranscriptBack', WHERE WHAT IT READS IS OF BULK AT MOST 1048576: true; the input reads as it did. -/
def transcriptBackUptoRow : OpenClaim := { program := "ytdjfdobcjakmhaadoor", sum := "d7d41936a1475c3add0752c6bc216c84a1614ed5109abfa9a77661f62f4d389e", func := "cassock/cassocklaw12.TranscriptBack", spec := "transcriptBack", inPlace := ["internal/abi.NoEscape"], recurses := true, named := ["cassock/term.kinds", "internal/strconv.uint64pow10", "math/bits.deBruijn32tab", "math/bits.deBruijn64tab", "strconv.ErrSyntax", "strconv.ErrRange"], plainKeys := false, apart := false, laid := [("math/bits.deBruijn32tab", laid_math_bits_deBruijn32tab), ("math/bits.deBruijn64tab", laid_math_bits_deBruijn64tab), ("internal/strconv.uint64pow10", laid_internal_strconv_uint64pow10), ("strconv.ErrRange", laid_strconv_ErrRange), ("strconv.ErrSyntax", laid_strconv_ErrSyntax), ("cassock/term.kinds", laid_cassock_term_kinds)], narrowed := true }
def TranscriptBackUptoSaid : Prop := transcriptBackUptoRow.holds Tryd.pinned (OpenSpec.upto transcriptBackSpec)

/-- 'cassocklaw12.TranscriptGoes', WHERE WHAT IT READS IS OF BULK AT MOST 1048576: true; the input reads as it did. -/
def transcriptGoesUptoRow : OpenClaim := { program := "ytdjfdobcjakmhaadoor", sum := "d7d41936a1475c3add0752c6bc216c84a1614ed5109abfa9a77661f62f4d389e", func := "cassock/cassocklaw12.TranscriptGoes", spec := "transcriptGoes", inPlace := ["internal/abi.NoEscape"], recurses := true, named := ["cassock/term.kinds", "internal/strconv.uint64pow10", "math/bits.deBruijn32tab", "math/bits.deBruijn64tab", "strconv.ErrSyntax", "strconv.ErrRange"], plainKeys := false, apart := false, laid := [("math/bits.deBruijn32tab", laid_math_bits_deBruijn32tab), ("math/bits.deBruijn64tab", laid_math_bits_deBruijn64tab), ("internal/strconv.uint64pow10", laid_internal_strconv_uint64pow10), ("strconv.ErrRange", laid_strconv_ErrRange), ("strconv.ErrSyntax", laid_strconv_ErrSyntax), ("cassock/term.kinds", laid_cassock_term_kinds)], narrowed := true }
def TranscriptGoesUptoSaid : Prop := transcriptGoesUptoRow.holds Tryd.pinned (OpenSpec.upto transcriptGoesSpec)

/-- 'cassocklaw12.TranscriptTags', WHERE WHAT IT READS IS OF BULK AT MOST 1048576: true; the input reads as it did. -/
def transcriptTagsUptoRow : OpenClaim := { program := "ytdjfdobcjakmhaadoor", sum := "d7d41936a1475c3add0752c6bc216c84a1614ed5109abfa9a77661f62f4d389e", func := "cassock/cassocklaw12.TranscriptTags", spec := "transcriptTags", inPlace := ["internal/abi.NoEscape"], recurses := true, named := ["cassock/term.kinds", "internal/strconv.uint64pow10", "math/bits.deBruijn32tab", "math/bits.deBruijn64tab", "strconv.ErrSyntax", "strconv.ErrRange"], plainKeys := false, apart := false, laid := [("math/bits.deBruijn32tab", laid_math_bits_deBruijn32tab), ("math/bits.deBruijn64tab", laid_math_bits_deBruijn64tab), ("internal/strconv.uint64pow10", laid_internal_strconv_uint64pow10), ("strconv.ErrRange", laid_strconv_ErrRange), ("strconv.ErrSyntax", laid_strconv_ErrSyntax), ("cassock/term.kinds", laid_cassock_term_kinds)], narrowed := true }
def TranscriptTagsUptoSaid : Prop := transcriptTagsUptoRow.holds Tryd.pinned (OpenSpec.upto transcriptTagsSpec)

end Rows
end Go.Proofs.YtdjfdobcjakmhaaDoor
