/-
  NARROWER THAN 'FOR EVERY INPUT', by the rows' own cells (each row's printed sentence says how): TermMakes: laid · TermParts: laid · TermOnce: laid · TermShort: laid · TermBelow: laid · TermShown: laid.
  DERIVED. THE GIVEN ROWS OF THIS SEAT. 6 by the template 'for every input the law returns true; each argument reads behind the call as it read before'; 0 by the template 'total and deterministic' (their statements: YtdhdgbihalfgeaaDoorTotals.lean).
  GIVEN WITH THE SEED: the statements are not yours to turn. If you find one false, say at which input.
  Laid BY PROGRAM, IN A SANDBOX (cutbox-rows.mjs): the forced cells as the released guide's own fill.sh prints them over the translation f24009db5aa62480… (all of the seat's roots in one cut). By AI agents, Wed Nov 11 2026. No macro, syntax, notation, axiom, sorry.
-/
import Derived.Test.YtdhdgbihalfgeaaDoorChecked
import GoSem.Claim
import GoSem.ClaimJoined
import GoSem.ClaimMapViews
import Derived.JoinedTies
import Derived.KernelRfl
namespace Go.Proofs.YtdhdgbihalfgeaaDoor
/- THE CELL 'sum', in the pinned program and in every row, IS THE sha256 OF THE DUMP (.gsa) THAT YtdhdgbihalfgeaaDoorProg.lean LOADS. Nothing in Lean hashes anything: it is a label: what it is worth is what the hold of that sum in a sandbox is worth. -/
noncomputable def Tryd.pinned : Pinned := { name := "ytdhdgbihalfgeaadoor", sum := "f24009db5aa6248027be7a7206514ce2002f6431e2073b1ac34bda6c8148d49b", checked := Tryd.checked }
namespace Rows
def none {H : Type} : Left H := { results := [], args := [] }

/- WHAT THE LISTED PACKAGE-LEVEL VARIABLES READ AS WHEN THE CALL BEGINS. Each datum BY PROGRAM (the guide's laid-datum.mjs) off the statement by which the dump's own 'gosem.cut.vars' lays the variable. In a bare row this is a premise. The card (YtdhdgbihalfgeaaDoorCards.lean) ties it to the program's text. -/
def laid_math_bits_deBruijn32tab {H : Type} : DataW H := .agg [.lit (.int .u8 0), .lit (.int .u8 1), .lit (.int .u8 28), .lit (.int .u8 2), .lit (.int .u8 29), .lit (.int .u8 14), .lit (.int .u8 24), .lit (.int .u8 3), .lit (.int .u8 30), .lit (.int .u8 22), .lit (.int .u8 20), .lit (.int .u8 15), .lit (.int .u8 25), .lit (.int .u8 17), .lit (.int .u8 4), .lit (.int .u8 8), .lit (.int .u8 31), .lit (.int .u8 27), .lit (.int .u8 13), .lit (.int .u8 23), .lit (.int .u8 21), .lit (.int .u8 19), .lit (.int .u8 16), .lit (.int .u8 7), .lit (.int .u8 26), .lit (.int .u8 12), .lit (.int .u8 18), .lit (.int .u8 6), .lit (.int .u8 11), .lit (.int .u8 5), .lit (.int .u8 10), .lit (.int .u8 9)]
def laid_math_bits_deBruijn64tab {H : Type} : DataW H := .agg [.lit (.int .u8 0), .lit (.int .u8 1), .lit (.int .u8 56), .lit (.int .u8 2), .lit (.int .u8 57), .lit (.int .u8 49), .lit (.int .u8 28), .lit (.int .u8 3), .lit (.int .u8 61), .lit (.int .u8 58), .lit (.int .u8 42), .lit (.int .u8 50), .lit (.int .u8 38), .lit (.int .u8 29), .lit (.int .u8 17), .lit (.int .u8 4), .lit (.int .u8 62), .lit (.int .u8 47), .lit (.int .u8 59), .lit (.int .u8 36), .lit (.int .u8 45), .lit (.int .u8 43), .lit (.int .u8 51), .lit (.int .u8 22), .lit (.int .u8 53), .lit (.int .u8 39), .lit (.int .u8 33), .lit (.int .u8 30), .lit (.int .u8 24), .lit (.int .u8 18), .lit (.int .u8 12), .lit (.int .u8 5), .lit (.int .u8 63), .lit (.int .u8 55), .lit (.int .u8 48), .lit (.int .u8 27), .lit (.int .u8 60), .lit (.int .u8 41), .lit (.int .u8 37), .lit (.int .u8 16), .lit (.int .u8 46), .lit (.int .u8 35), .lit (.int .u8 44), .lit (.int .u8 21), .lit (.int .u8 52), .lit (.int .u8 32), .lit (.int .u8 23), .lit (.int .u8 11), .lit (.int .u8 54), .lit (.int .u8 26), .lit (.int .u8 40), .lit (.int .u8 15), .lit (.int .u8 34), .lit (.int .u8 20), .lit (.int .u8 31), .lit (.int .u8 10), .lit (.int .u8 25), .lit (.int .u8 14), .lit (.int .u8 19), .lit (.int .u8 9), .lit (.int .u8 13), .lit (.int .u8 8), .lit (.int .u8 7), .lit (.int .u8 6)]
def laid_internal_strconv_uint64pow10 {H : Type} : DataW H := .agg [.lit (.int .u64 1), .lit (.int .u64 10), .lit (.int .u64 100), .lit (.int .u64 1000), .lit (.int .u64 10000), .lit (.int .u64 100000), .lit (.int .u64 1000000), .lit (.int .u64 10000000), .lit (.int .u64 100000000), .lit (.int .u64 1000000000), .lit (.int .u64 10000000000), .lit (.int .u64 100000000000), .lit (.int .u64 1000000000000), .lit (.int .u64 10000000000000), .lit (.int .u64 100000000000000), .lit (.int .u64 1000000000000000), .lit (.int .u64 10000000000000000), .lit (.int .u64 100000000000000000), .lit (.int .u64 1000000000000000000), .lit (.int .u64 10000000000000000000)]
def laid_cassock_term_kinds {H : Type} : DataW H := .agg [.agg [.lit (.string []), .lit (.int .i64 0), .lit (.int .i64 0)], .agg [.lit (.string []), .lit (.int .i64 0), .lit (.int .i64 0)], .agg [.lit (.string []), .lit (.int .i64 0), .lit (.int .i64 0)], .agg [.lit (.string [108, 105, 115, 116]), .lit (.int .i64 0), .lit (.int .i64 64)], .agg [.lit (.string [104, 97, 115, 104]), .lit (.int .i64 1), .lit (.int .i64 1)], .agg [.lit (.string [109, 105, 120]), .lit (.int .i64 2), .lit (.int .i64 2)], .agg [.lit (.string [107, 101, 121]), .lit (.int .i64 3), .lit (.int .i64 3)], .agg [.lit (.string [112, 117, 98]), .lit (.int .i64 1), .lit (.int .i64 1)], .agg [.lit (.string [115, 101, 97, 108]), .lit (.int .i64 4), .lit (.int .i64 4)], .agg [.lit (.string [101, 110, 99]), .lit (.int .i64 4), .lit (.int .i64 4)], .agg [.lit (.string [115, 105, 103]), .lit (.int .i64 2), .lit (.int .i64 2)], .agg [.lit (.string [109, 97, 99]), .lit (.int .i64 2), .lit (.int .i64 2)], .agg [.lit (.string [98, 108, 105, 110, 100]), .lit (.int .i64 2), .lit (.int .i64 2)]]

/-- 'cassocklaw03.TermMakes': WHATEVER THE INPUT: true; the input reads as it did. -/
def termMakesSpec : ChangeSpec := { name := "termMakes", fn := fun _ => fun
  | [d1, d2] => { results := [.lit (.bool true)], args := [d1, d2] }
  | _ => none }
def termMakesRow : OpenClaim := { program := "ytdhdgbihalfgeaadoor", sum := "f24009db5aa6248027be7a7206514ce2002f6431e2073b1ac34bda6c8148d49b", func := "cassock/cassocklaw03.TermMakes", spec := "termMakes", inPlace := ["internal/abi.NoEscape"], recurses := true, named := ["cassock/term.kinds", "internal/strconv.uint64pow10", "math/bits.deBruijn32tab", "math/bits.deBruijn64tab"], apart := false, laid := [("math/bits.deBruijn32tab", laid_math_bits_deBruijn32tab), ("math/bits.deBruijn64tab", laid_math_bits_deBruijn64tab), ("internal/strconv.uint64pow10", laid_internal_strconv_uint64pow10), ("cassock/term.kinds", laid_cassock_term_kinds)] }
def TermMakesSaid : Prop := termMakesRow.holds Tryd.pinned (OpenSpec.ofChange termMakesSpec)

/-- ITS FALSE NEIGHBOUR: 'it returns false'. Refute it at one input. -/
def termMakesWrong : ChangeSpec := { name := "termMakes", fn := fun _ => fun
  | [d1, d2] => { results := [.lit (.bool false)], args := [d1, d2] }
  | _ => none }
def TermMakesWrongFalsely : Prop := termMakesRow.holds Tryd.pinned (OpenSpec.ofChange termMakesWrong)

/-- 'cassocklaw03.TermParts': WHATEVER THE INPUT: true; the input reads as it did. -/
def termPartsSpec : ChangeSpec := { name := "termParts", fn := fun _ => fun
  | [d1, d2] => { results := [.lit (.bool true)], args := [d1, d2] }
  | _ => none }
def termPartsRow : OpenClaim := { program := "ytdhdgbihalfgeaadoor", sum := "f24009db5aa6248027be7a7206514ce2002f6431e2073b1ac34bda6c8148d49b", func := "cassock/cassocklaw03.TermParts", spec := "termParts", inPlace := ["internal/abi.NoEscape"], recurses := true, named := ["cassock/term.kinds", "internal/strconv.uint64pow10", "math/bits.deBruijn32tab", "math/bits.deBruijn64tab"], apart := false, laid := [("math/bits.deBruijn32tab", laid_math_bits_deBruijn32tab), ("math/bits.deBruijn64tab", laid_math_bits_deBruijn64tab), ("internal/strconv.uint64pow10", laid_internal_strconv_uint64pow10), ("cassock/term.kinds", laid_cassock_term_kinds)] }
def TermPartsSaid : Prop := termPartsRow.holds Tryd.pinned (OpenSpec.ofChange termPartsSpec)

/-- ITS FALSE NEIGHBOUR: 'it returns false'. Refute it at one input. -/
def termPartsWrong : ChangeSpec := { name := "termParts", fn := fun _ => fun
  | [d1, d2] => { results := [.lit (.bool false)], args := [d1, d2] }
  | _ => none }
def TermPartsWrongFalsely : Prop := termPartsRow.holds Tryd.pinned (OpenSpec.ofChange termPartsWrong)

/-- 'cassocklaw03.TermOnce': WHATEVER THE INPUT: true; the input reads as it did. -/
def termOnceSpec : ChangeSpec := { name := "termOnce", fn := fun _ => fun
  | [d] => { results := [.lit (.bool true)], args := [d] }
  | _ => none }
def termOnceRow : OpenClaim := { program := "ytdhdgbihalfgeaadoor", sum := "f24009db5aa6248027be7a7206514ce2002f6431e2073b1ac34bda6c8148d49b", func := "cassock/cassocklaw03.TermOnce", spec := "termOnce", inPlace := ["internal/abi.NoEscape"], recurses := true, named := ["cassock/term.kinds", "internal/strconv.uint64pow10", "math/bits.deBruijn32tab", "math/bits.deBruijn64tab"], apart := false, laid := [("math/bits.deBruijn32tab", laid_math_bits_deBruijn32tab), ("math/bits.deBruijn64tab", laid_math_bits_deBruijn64tab), ("internal/strconv.uint64pow10", laid_internal_strconv_uint64pow10), ("cassock/term.kinds", laid_cassock_term_kinds)] }
def TermOnceSaid : Prop := termOnceRow.holds Tryd.pinned (OpenSpec.ofChange termOnceSpec)

/-- ITS FALSE NEIGHBOUR: 'it returns false'. Refute it at one input. -/
def termOnceWrong : ChangeSpec := { name := "termOnce", fn := fun _ => fun
  | [d] => { results := [.lit (.bool false)], args := [d] }
  | _ => none }
def TermOnceWrongFalsely : Prop := termOnceRow.holds Tryd.pinned (OpenSpec.ofChange termOnceWrong)

/-- 'cassocklaw03.TermShort': WHATEVER THE INPUT: true; the input reads as it did. -/
def termShortSpec : ChangeSpec := { name := "termShort", fn := fun _ => fun
  | [d1, d2, d3] => { results := [.lit (.bool true)], args := [d1, d2, d3] }
  | _ => none }
def termShortRow : OpenClaim := { program := "ytdhdgbihalfgeaadoor", sum := "f24009db5aa6248027be7a7206514ce2002f6431e2073b1ac34bda6c8148d49b", func := "cassock/cassocklaw03.TermShort", spec := "termShort", inPlace := ["internal/abi.NoEscape"], recurses := true, named := ["cassock/term.kinds", "internal/strconv.uint64pow10", "math/bits.deBruijn32tab", "math/bits.deBruijn64tab"], apart := false, laid := [("math/bits.deBruijn32tab", laid_math_bits_deBruijn32tab), ("math/bits.deBruijn64tab", laid_math_bits_deBruijn64tab), ("internal/strconv.uint64pow10", laid_internal_strconv_uint64pow10), ("cassock/term.kinds", laid_cassock_term_kinds)] }
def TermShortSaid : Prop := termShortRow.holds Tryd.pinned (OpenSpec.ofChange termShortSpec)

/-- ITS FALSE NEIGHBOUR: 'it returns false'. Refute it at one input. -/
def termShortWrong : ChangeSpec := { name := "termShort", fn := fun _ => fun
  | [d1, d2, d3] => { results := [.lit (.bool false)], args := [d1, d2, d3] }
  | _ => none }
def TermShortWrongFalsely : Prop := termShortRow.holds Tryd.pinned (OpenSpec.ofChange termShortWrong)

/-- 'cassocklaw03.TermBelow': WHATEVER THE INPUT: true; the input reads as it did. -/
def termBelowSpec : ChangeSpec := { name := "termBelow", fn := fun _ => fun
  | [d1, d2] => { results := [.lit (.bool true)], args := [d1, d2] }
  | _ => none }
def termBelowRow : OpenClaim := { program := "ytdhdgbihalfgeaadoor", sum := "f24009db5aa6248027be7a7206514ce2002f6431e2073b1ac34bda6c8148d49b", func := "cassock/cassocklaw03.TermBelow", spec := "termBelow", inPlace := ["internal/abi.NoEscape"], recurses := true, named := ["cassock/term.kinds", "internal/strconv.uint64pow10", "math/bits.deBruijn32tab", "math/bits.deBruijn64tab"], apart := false, laid := [("math/bits.deBruijn32tab", laid_math_bits_deBruijn32tab), ("math/bits.deBruijn64tab", laid_math_bits_deBruijn64tab), ("internal/strconv.uint64pow10", laid_internal_strconv_uint64pow10), ("cassock/term.kinds", laid_cassock_term_kinds)] }
def TermBelowSaid : Prop := termBelowRow.holds Tryd.pinned (OpenSpec.ofChange termBelowSpec)

/-- ITS FALSE NEIGHBOUR: 'it returns false'. Refute it at one input. -/
def termBelowWrong : ChangeSpec := { name := "termBelow", fn := fun _ => fun
  | [d1, d2] => { results := [.lit (.bool false)], args := [d1, d2] }
  | _ => none }
def TermBelowWrongFalsely : Prop := termBelowRow.holds Tryd.pinned (OpenSpec.ofChange termBelowWrong)

/-- 'cassocklaw03.TermShown': WHATEVER THE INPUT: true; the input reads as it did. -/
def termShownSpec : ChangeSpec := { name := "termShown", fn := fun _ => fun
  | [d1, d2, d3] => { results := [.lit (.bool true)], args := [d1, d2, d3] }
  | _ => none }
def termShownRow : OpenClaim := { program := "ytdhdgbihalfgeaadoor", sum := "f24009db5aa6248027be7a7206514ce2002f6431e2073b1ac34bda6c8148d49b", func := "cassock/cassocklaw03.TermShown", spec := "termShown", inPlace := ["internal/abi.NoEscape"], recurses := true, named := ["cassock/term.kinds", "internal/strconv.uint64pow10", "math/bits.deBruijn32tab", "math/bits.deBruijn64tab"], apart := false, laid := [("math/bits.deBruijn32tab", laid_math_bits_deBruijn32tab), ("math/bits.deBruijn64tab", laid_math_bits_deBruijn64tab), ("internal/strconv.uint64pow10", laid_internal_strconv_uint64pow10), ("cassock/term.kinds", laid_cassock_term_kinds)] }
def TermShownSaid : Prop := termShownRow.holds Tryd.pinned (OpenSpec.ofChange termShownSpec)

/-- ITS FALSE NEIGHBOUR: 'it returns false'. Refute it at one input. -/
def termShownWrong : ChangeSpec := { name := "termShown", fn := fun _ => fun
  | [d1, d2, d3] => { results := [.lit (.bool false)], args := [d1, d2, d3] }
  | _ => none }
def TermShownWrongFalsely : Prop := termShownRow.holds Tryd.pinned (OpenSpec.ofChange termShownWrong)

/- THE SECOND FORM. 'bulk': how many values and letters a reading holds, each counted each time it is reached (what is shared counts as often as it is met; a slice's spare places count too). A statement '..UptoSaid' is the law's where the arguments, and the package variables that the reading takes, are together of bulk at most 1048576: NARROWER than '..Said'. Prove '..Said' where nothing that the law and all that it calls make is longer than what came in: it says more and counts as full. Else prove '..UptoSaid'. A law counts once. -/
mutual
def uptoBulk {H : Type} : DataW H → Nat
  | .lit (.string bytes) => bytes.length + 1
  | .lit _ => 1
  | .nil => 1
  | .ptr d => uptoBulk d + 1
  | .slice elems spare => uptoBulkAll elems + uptoBulkAll spare + 1
  | .agg parts => uptoBulkAll parts + 1
  | .iface _ d => uptoBulk d + 1
  | .map entries => uptoBulkEntries entries + 1
  | .held _ => 1
def uptoBulkAll {H : Type} : List (DataW H) → Nat
  | [] => 0
  | d :: r => uptoBulk d + uptoBulkAll r
def uptoBulkEntries {H : Type} : List (Lit × DataW H) → Nat
  | [] => 0
  | x :: r => uptoBulkEntry x + uptoBulkEntries r
def uptoBulkEntry {H : Type} : Lit × DataW H → Nat
  | (.string bytes, d) => bytes.length + uptoBulk d + 1
  | (_, d) => uptoBulk d + 1
 end
def uptoSmall : (H : Type) → List (DataW H) → Bool := fun _ ds => decide (uptoBulkAll ds ≤ 1048576)
def OpenSpec.upto (s : _root_.Go.ChangeSpec) : _root_.Go.OpenSpec := { _root_.Go.OpenSpec.ofChange s with cond := some uptoSmall }

/-- 'cassocklaw03.TermMakes', WHERE WHAT IT READS IS OF BULK AT MOST 1048576: true; the input reads as it did. -/
def termMakesUptoRow : OpenClaim := { program := "ytdhdgbihalfgeaadoor", sum := "f24009db5aa6248027be7a7206514ce2002f6431e2073b1ac34bda6c8148d49b", func := "cassock/cassocklaw03.TermMakes", spec := "termMakes", inPlace := ["internal/abi.NoEscape"], recurses := true, named := ["cassock/term.kinds", "internal/strconv.uint64pow10", "math/bits.deBruijn32tab", "math/bits.deBruijn64tab"], apart := false, laid := [("math/bits.deBruijn32tab", laid_math_bits_deBruijn32tab), ("math/bits.deBruijn64tab", laid_math_bits_deBruijn64tab), ("internal/strconv.uint64pow10", laid_internal_strconv_uint64pow10), ("cassock/term.kinds", laid_cassock_term_kinds)], narrowed := true }
def TermMakesUptoSaid : Prop := termMakesUptoRow.holds Tryd.pinned (OpenSpec.upto termMakesSpec)

/-- 'cassocklaw03.TermParts', WHERE WHAT IT READS IS OF BULK AT MOST 1048576: true; the input reads as it did. -/
def termPartsUptoRow : OpenClaim := { program := "ytdhdgbihalfgeaadoor", sum := "f24009db5aa6248027be7a7206514ce2002f6431e2073b1ac34bda6c8148d49b", func := "cassock/cassocklaw03.TermParts", spec := "termParts", inPlace := ["internal/abi.NoEscape"], recurses := true, named := ["cassock/term.kinds", "internal/strconv.uint64pow10", "math/bits.deBruijn32tab", "math/bits.deBruijn64tab"], apart := false, laid := [("math/bits.deBruijn32tab", laid_math_bits_deBruijn32tab), ("math/bits.deBruijn64tab", laid_math_bits_deBruijn64tab), ("internal/strconv.uint64pow10", laid_internal_strconv_uint64pow10), ("cassock/term.kinds", laid_cassock_term_kinds)], narrowed := true }
def TermPartsUptoSaid : Prop := termPartsUptoRow.holds Tryd.pinned (OpenSpec.upto termPartsSpec)

/-- 'cassocklaw03.TermOnce', WHERE WHAT IT READS IS OF BULK AT MOST 1048576: true; the input reads as it did. -/
def termOnceUptoRow : OpenClaim := { program := "ytdhdgbihalfgeaadoor", sum := "f24009db5aa6248027be7a7206514ce2002f6431e2073b1ac34bda6c8148d49b", func := "cassock/cassocklaw03.TermOnce", spec := "termOnce", inPlace := ["internal/abi.NoEscape"], recurses := true, named := ["cassock/term.kinds", "internal/strconv.uint64pow10", "math/bits.deBruijn32tab", "math/bits.deBruijn64tab"], apart := false, laid := [("math/bits.deBruijn32tab", laid_math_bits_deBruijn32tab), ("math/bits.deBruijn64tab", laid_math_bits_deBruijn64tab), ("internal/strconv.uint64pow10", laid_internal_strconv_uint64pow10), ("cassock/term.kinds", laid_cassock_term_kinds)], narrowed := true }
def TermOnceUptoSaid : Prop := termOnceUptoRow.holds Tryd.pinned (OpenSpec.upto termOnceSpec)

/-- 'cassocklaw03.TermShort', WHERE WHAT IT READS IS OF BULK AT MOST 1048576: true; the input reads as it did. -/
def termShortUptoRow : OpenClaim := { program := "ytdhdgbihalfgeaadoor", sum := "f24009db5aa6248027be7a7206514ce2002f6431e2073b1ac34bda6c8148d49b", func := "cassock/cassocklaw03.TermShort", spec := "termShort", inPlace := ["internal/abi.NoEscape"], recurses := true, named := ["cassock/term.kinds", "internal/strconv.uint64pow10", "math/bits.deBruijn32tab", "math/bits.deBruijn64tab"], apart := false, laid := [("math/bits.deBruijn32tab", laid_math_bits_deBruijn32tab), ("math/bits.deBruijn64tab", laid_math_bits_deBruijn64tab), ("internal/strconv.uint64pow10", laid_internal_strconv_uint64pow10), ("cassock/term.kinds", laid_cassock_term_kinds)], narrowed := true }
def TermShortUptoSaid : Prop := termShortUptoRow.holds Tryd.pinned (OpenSpec.upto termShortSpec)

/-- 'cassocklaw03.TermBelow', WHERE WHAT IT READS IS OF BULK AT MOST 1048576: true; the input reads as it did. -/
def termBelowUptoRow : OpenClaim := { program := "ytdhdgbihalfgeaadoor", sum := "f24009db5aa6248027be7a7206514ce2002f6431e2073b1ac34bda6c8148d49b", func := "cassock/cassocklaw03.TermBelow", spec := "termBelow", inPlace := ["internal/abi.NoEscape"], recurses := true, named := ["cassock/term.kinds", "internal/strconv.uint64pow10", "math/bits.deBruijn32tab", "math/bits.deBruijn64tab"], apart := false, laid := [("math/bits.deBruijn32tab", laid_math_bits_deBruijn32tab), ("math/bits.deBruijn64tab", laid_math_bits_deBruijn64tab), ("internal/strconv.uint64pow10", laid_internal_strconv_uint64pow10), ("cassock/term.kinds", laid_cassock_term_kinds)], narrowed := true }
def TermBelowUptoSaid : Prop := termBelowUptoRow.holds Tryd.pinned (OpenSpec.upto termBelowSpec)

/-- 'cassocklaw03.TermShown', WHERE WHAT IT READS IS OF BULK AT MOST 1048576: true; the input reads as it did. -/
def termShownUptoRow : OpenClaim := { program := "ytdhdgbihalfgeaadoor", sum := "f24009db5aa6248027be7a7206514ce2002f6431e2073b1ac34bda6c8148d49b", func := "cassock/cassocklaw03.TermShown", spec := "termShown", inPlace := ["internal/abi.NoEscape"], recurses := true, named := ["cassock/term.kinds", "internal/strconv.uint64pow10", "math/bits.deBruijn32tab", "math/bits.deBruijn64tab"], apart := false, laid := [("math/bits.deBruijn32tab", laid_math_bits_deBruijn32tab), ("math/bits.deBruijn64tab", laid_math_bits_deBruijn64tab), ("internal/strconv.uint64pow10", laid_internal_strconv_uint64pow10), ("cassock/term.kinds", laid_cassock_term_kinds)], narrowed := true }
def TermShownUptoSaid : Prop := termShownUptoRow.holds Tryd.pinned (OpenSpec.upto termShownSpec)

end Rows
end Go.Proofs.YtdhdgbihalfgeaaDoor
