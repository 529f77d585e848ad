/-
  NARROWER THAN 'FOR EVERY INPUT', by the rows' own cells (each row's printed sentence says how): RatchetChecks: laid · RatchetAdds: laid · RatchetGoes: laid · RatchetMay: laid · RatchetBack: laid.
  DERIVED. THE GIVEN ROWS OF THIS SEAT. 5 by the template 'for every input the law returns true; each argument reads behind the call as it read before'; 0 by the template 'total and deterministic' (their statements: YtlmpejfkpidbeaaDoorTotals.lean).
  GIVEN WITH THE SEED: the statements are not yours to turn. If you find one false, say at which input.
  Laid BY PROGRAM, IN A SANDBOX (cutbox-rows.mjs): the forced cells as the released guide's own fill.sh prints them over the translation 3847eebe3e30535d… (all of the seat's roots in one cut). By AI agents, Wed Nov 11 2026. No macro, syntax, notation, axiom, sorry.
-/
import Derived.Test.YtlmpejfkpidbeaaDoorChecked
import GoSem.Claim
import GoSem.ClaimJoined
import GoSem.ClaimMapViews
import Derived.JoinedTies
import Derived.KernelRfl
namespace Go.Proofs.YtlmpejfkpidbeaaDoor
/- THE CELL 'sum', in the pinned program and in every row, IS THE sha256 OF THE DUMP (.gsa) THAT YtlmpejfkpidbeaaDoorProg.lean LOADS. Nothing in Lean hashes anything: it is a label: what it is worth is what the hold of that sum in a sandbox is worth. -/
noncomputable def Tryd.pinned : Pinned := { name := "ytlmpejfkpidbeaadoor", sum := "3847eebe3e30535dafe7d82945a7c8ac211677092fdc22f24d341f6a171119d9", checked := Tryd.checked }
namespace Rows
def none {H : Type} : Left H := { results := [], args := [] }

/- WHAT THE LISTED PACKAGE-LEVEL VARIABLES READ AS WHEN THE CALL BEGINS. Each datum BY PROGRAM (the guide's laid-datum.mjs) off the statement by which the dump's own 'gosem.cut.vars' lays the variable. In a bare row this is a premise. The card (YtlmpejfkpidbeaaDoorCards.lean) ties it to the program's text. -/
def laid_math_bits_deBruijn32tab {H : Type} : DataW H := .agg [.lit (.int .u8 0), .lit (.int .u8 1), .lit (.int .u8 28), .lit (.int .u8 2), .lit (.int .u8 29), .lit (.int .u8 14), .lit (.int .u8 24), .lit (.int .u8 3), .lit (.int .u8 30), .lit (.int .u8 22), .lit (.int .u8 20), .lit (.int .u8 15), .lit (.int .u8 25), .lit (.int .u8 17), .lit (.int .u8 4), .lit (.int .u8 8), .lit (.int .u8 31), .lit (.int .u8 27), .lit (.int .u8 13), .lit (.int .u8 23), .lit (.int .u8 21), .lit (.int .u8 19), .lit (.int .u8 16), .lit (.int .u8 7), .lit (.int .u8 26), .lit (.int .u8 12), .lit (.int .u8 18), .lit (.int .u8 6), .lit (.int .u8 11), .lit (.int .u8 5), .lit (.int .u8 10), .lit (.int .u8 9)]
def laid_math_bits_deBruijn64tab {H : Type} : DataW H := .agg [.lit (.int .u8 0), .lit (.int .u8 1), .lit (.int .u8 56), .lit (.int .u8 2), .lit (.int .u8 57), .lit (.int .u8 49), .lit (.int .u8 28), .lit (.int .u8 3), .lit (.int .u8 61), .lit (.int .u8 58), .lit (.int .u8 42), .lit (.int .u8 50), .lit (.int .u8 38), .lit (.int .u8 29), .lit (.int .u8 17), .lit (.int .u8 4), .lit (.int .u8 62), .lit (.int .u8 47), .lit (.int .u8 59), .lit (.int .u8 36), .lit (.int .u8 45), .lit (.int .u8 43), .lit (.int .u8 51), .lit (.int .u8 22), .lit (.int .u8 53), .lit (.int .u8 39), .lit (.int .u8 33), .lit (.int .u8 30), .lit (.int .u8 24), .lit (.int .u8 18), .lit (.int .u8 12), .lit (.int .u8 5), .lit (.int .u8 63), .lit (.int .u8 55), .lit (.int .u8 48), .lit (.int .u8 27), .lit (.int .u8 60), .lit (.int .u8 41), .lit (.int .u8 37), .lit (.int .u8 16), .lit (.int .u8 46), .lit (.int .u8 35), .lit (.int .u8 44), .lit (.int .u8 21), .lit (.int .u8 52), .lit (.int .u8 32), .lit (.int .u8 23), .lit (.int .u8 11), .lit (.int .u8 54), .lit (.int .u8 26), .lit (.int .u8 40), .lit (.int .u8 15), .lit (.int .u8 34), .lit (.int .u8 20), .lit (.int .u8 31), .lit (.int .u8 10), .lit (.int .u8 25), .lit (.int .u8 14), .lit (.int .u8 19), .lit (.int .u8 9), .lit (.int .u8 13), .lit (.int .u8 8), .lit (.int .u8 7), .lit (.int .u8 6)]

/-- 'cassocklaw07.RatchetChecks': WHATEVER THE INPUT: true; the input reads as it did. -/
def ratchetChecksSpec : ChangeSpec := { name := "ratchetChecks", fn := fun _ => fun
  | [d1, d2] => { results := [.lit (.bool true)], args := [d1, d2] }
  | _ => none }
def ratchetChecksRow : OpenClaim := { program := "ytlmpejfkpidbeaadoor", sum := "3847eebe3e30535dafe7d82945a7c8ac211677092fdc22f24d341f6a171119d9", func := "cassock/cassocklaw07.RatchetChecks", spec := "ratchetChecks", inPlace := ["slices.overlaps[int]"], unfollowed := true, recurses := true, named := ["math/bits.deBruijn32tab", "math/bits.deBruijn64tab"], apart := false, laid := [("math/bits.deBruijn32tab", laid_math_bits_deBruijn32tab), ("math/bits.deBruijn64tab", laid_math_bits_deBruijn64tab)] }
def RatchetChecksSaid : Prop := ratchetChecksRow.holds Tryd.pinned (OpenSpec.ofChange ratchetChecksSpec)

/-- ITS FALSE NEIGHBOUR: 'it returns false'. Refute it at one input. -/
def ratchetChecksWrong : ChangeSpec := { name := "ratchetChecks", fn := fun _ => fun
  | [d1, d2] => { results := [.lit (.bool false)], args := [d1, d2] }
  | _ => none }
def RatchetChecksWrongFalsely : Prop := ratchetChecksRow.holds Tryd.pinned (OpenSpec.ofChange ratchetChecksWrong)

/-- 'cassocklaw07.RatchetAdds': WHATEVER THE INPUT: true; the input reads as it did. -/
def ratchetAddsSpec : ChangeSpec := { name := "ratchetAdds", fn := fun _ => fun
  | [d1, d2] => { results := [.lit (.bool true)], args := [d1, d2] }
  | _ => none }
def ratchetAddsRow : OpenClaim := { program := "ytlmpejfkpidbeaadoor", sum := "3847eebe3e30535dafe7d82945a7c8ac211677092fdc22f24d341f6a171119d9", func := "cassock/cassocklaw07.RatchetAdds", spec := "ratchetAdds", inPlace := ["slices.overlaps[int]"], unfollowed := true, recurses := true, named := ["math/bits.deBruijn32tab", "math/bits.deBruijn64tab"], apart := false, laid := [("math/bits.deBruijn32tab", laid_math_bits_deBruijn32tab), ("math/bits.deBruijn64tab", laid_math_bits_deBruijn64tab)] }
def RatchetAddsSaid : Prop := ratchetAddsRow.holds Tryd.pinned (OpenSpec.ofChange ratchetAddsSpec)

/-- ITS FALSE NEIGHBOUR: 'it returns false'. Refute it at one input. -/
def ratchetAddsWrong : ChangeSpec := { name := "ratchetAdds", fn := fun _ => fun
  | [d1, d2] => { results := [.lit (.bool false)], args := [d1, d2] }
  | _ => none }
def RatchetAddsWrongFalsely : Prop := ratchetAddsRow.holds Tryd.pinned (OpenSpec.ofChange ratchetAddsWrong)

/-- 'cassocklaw07.RatchetGoes': WHATEVER THE INPUT: true; the input reads as it did. -/
def ratchetGoesSpec : ChangeSpec := { name := "ratchetGoes", fn := fun _ => fun
  | [d1, d2, d3] => { results := [.lit (.bool true)], args := [d1, d2, d3] }
  | _ => none }
def ratchetGoesRow : OpenClaim := { program := "ytlmpejfkpidbeaadoor", sum := "3847eebe3e30535dafe7d82945a7c8ac211677092fdc22f24d341f6a171119d9", func := "cassock/cassocklaw07.RatchetGoes", spec := "ratchetGoes", inPlace := ["slices.overlaps[int]"], unfollowed := true, recurses := true, named := ["math/bits.deBruijn32tab", "math/bits.deBruijn64tab"], apart := false, laid := [("math/bits.deBruijn32tab", laid_math_bits_deBruijn32tab), ("math/bits.deBruijn64tab", laid_math_bits_deBruijn64tab)] }
def RatchetGoesSaid : Prop := ratchetGoesRow.holds Tryd.pinned (OpenSpec.ofChange ratchetGoesSpec)

/-- ITS FALSE NEIGHBOUR: 'it returns false'. Refute it at one input. -/
def ratchetGoesWrong : ChangeSpec := { name := "ratchetGoes", fn := fun _ => fun
  | [d1, d2, d3] => { results := [.lit (.bool false)], args := [d1, d2, d3] }
  | _ => none }
def RatchetGoesWrongFalsely : Prop := ratchetGoesRow.holds Tryd.pinned (OpenSpec.ofChange ratchetGoesWrong)

/-- 'cassocklaw07.RatchetMay': WHATEVER THE INPUT: true; the input reads as it did. -/
def ratchetMaySpec : ChangeSpec := { name := "ratchetMay", fn := fun _ => fun
  | [d1, d2, d3] => { results := [.lit (.bool true)], args := [d1, d2, d3] }
  | _ => none }
def ratchetMayRow : OpenClaim := { program := "ytlmpejfkpidbeaadoor", sum := "3847eebe3e30535dafe7d82945a7c8ac211677092fdc22f24d341f6a171119d9", func := "cassock/cassocklaw07.RatchetMay", spec := "ratchetMay", inPlace := ["slices.overlaps[int]"], unfollowed := true, recurses := true, named := ["math/bits.deBruijn32tab", "math/bits.deBruijn64tab"], apart := false, laid := [("math/bits.deBruijn32tab", laid_math_bits_deBruijn32tab), ("math/bits.deBruijn64tab", laid_math_bits_deBruijn64tab)] }
def RatchetMaySaid : Prop := ratchetMayRow.holds Tryd.pinned (OpenSpec.ofChange ratchetMaySpec)

/-- ITS FALSE NEIGHBOUR: 'it returns false'. Refute it at one input. -/
def ratchetMayWrong : ChangeSpec := { name := "ratchetMay", fn := fun _ => fun
  | [d1, d2, d3] => { results := [.lit (.bool false)], args := [d1, d2, d3] }
  | _ => none }
def RatchetMayWrongFalsely : Prop := ratchetMayRow.holds Tryd.pinned (OpenSpec.ofChange ratchetMayWrong)

/-- 'cassocklaw07.RatchetBack': WHATEVER THE INPUT: true; the input reads as it did. -/
def ratchetBackSpec : ChangeSpec := { name := "ratchetBack", fn := fun _ => fun
  | [d1, d2] => { results := [.lit (.bool true)], args := [d1, d2] }
  | _ => none }
def ratchetBackRow : OpenClaim := { program := "ytlmpejfkpidbeaadoor", sum := "3847eebe3e30535dafe7d82945a7c8ac211677092fdc22f24d341f6a171119d9", func := "cassock/cassocklaw07.RatchetBack", spec := "ratchetBack", inPlace := ["slices.overlaps[int]"], unfollowed := true, recurses := true, named := ["math/bits.deBruijn32tab", "math/bits.deBruijn64tab"], apart := false, laid := [("math/bits.deBruijn32tab", laid_math_bits_deBruijn32tab), ("math/bits.deBruijn64tab", laid_math_bits_deBruijn64tab)] }
def RatchetBackSaid : Prop := ratchetBackRow.holds Tryd.pinned (OpenSpec.ofChange ratchetBackSpec)

/-- ITS FALSE NEIGHBOUR: 'it returns false'. Refute it at one input. -/
def ratchetBackWrong : ChangeSpec := { name := "ratchetBack", fn := fun _ => fun
  | [d1, d2] => { results := [.lit (.bool false)], args := [d1, d2] }
  | _ => none }
def RatchetBackWrongFalsely : Prop := ratchetBackRow.holds Tryd.pinned (OpenSpec.ofChange ratchetBackWrong)

/- THE SECOND FORM. 'bulk': how many values and letters a reading holds, each counted each time it is reached (what is shared counts as often as it is met; a slice's spare places count too). A statement '..UptoSaid' is the law's where the arguments, and the package variables that the reading takes, are together of bulk at most 1048576: NARROWER than '..Said'. Prove '..Said' where nothing that the law and all that it calls make is longer than what came in: it says more and counts as full. Else prove '..UptoSaid'. A law counts once. -/
mutual
def uptoBulk {H : Type} : DataW H → Nat
  | .lit (.string bytes) => bytes.length + 1
  | .lit _ => 1
  | .nil => 1
  | .ptr d => uptoBulk d + 1
  | .slice elems spare => uptoBulkAll elems + uptoBulkAll spare + 1
  | .agg parts => uptoBulkAll parts + 1
  | .iface _ d => uptoBulk d + 1
  | .map entries => uptoBulkEntries entries + 1
  | .held _ => 1
def uptoBulkAll {H : Type} : List (DataW H) → Nat
  | [] => 0
  | d :: r => uptoBulk d + uptoBulkAll r
def uptoBulkEntries {H : Type} : List (Lit × DataW H) → Nat
  | [] => 0
  | x :: r => uptoBulkEntry x + uptoBulkEntries r
def uptoBulkEntry {H : Type} : Lit × DataW H → Nat
  | (.string bytes, d) => bytes.length + uptoBulk d + 1
  | (_, d) => uptoBulk d + 1
 end
def uptoSmall : (H : Type) → List (DataW H) → Bool := fun _ ds => decide (uptoBulkAll ds ≤ 1048576)
def OpenSpec.upto (s : _root_.Go.ChangeSpec) : _root_.Go.OpenSpec := { _root_.Go.OpenSpec.ofChange s with cond := some uptoSmall }

/-- 'cassocklaw07.RatchetChecks', WHERE WHAT IT READS IS OF BULK AT MOST 1048576: true; the input reads as it did. -/
def ratchetChecksUptoRow : OpenClaim := { program := "ytlmpejfkpidbeaadoor", sum := "3847eebe3e30535dafe7d82945a7c8ac211677092fdc22f24d341f6a171119d9", func := "cassock/cassocklaw07.RatchetChecks", spec := "ratchetChecks", inPlace := ["slices.overlaps[int]"], unfollowed := true, recurses := true, named := ["math/bits.deBruijn32tab", "math/bits.deBruijn64tab"], apart := false, laid := [("math/bits.deBruijn32tab", laid_math_bits_deBruijn32tab), ("math/bits.deBruijn64tab", laid_math_bits_deBruijn64tab)], narrowed := true }
def RatchetChecksUptoSaid : Prop := ratchetChecksUptoRow.holds Tryd.pinned (OpenSpec.upto ratchetChecksSpec)

/-- 'cassocklaw07.RatchetAdds', WHERE WHAT IT READS IS OF BULK AT MOST 1048576: true; the input reads as it did. -/
def ratchetAddsUptoRow : OpenClaim := { program := "ytlmpejfkpidbeaadoor", sum := "3847eebe3e30535dafe7d82945a7c8ac211677092fdc22f24d341f6a171119d9", func := "cassock/cassocklaw07.RatchetAdds", spec := "ratchetAdds", inPlace := ["slices.overlaps[int]"], unfollowed := true, recurses := true, named := ["math/bits.deBruijn32tab", "math/bits.deBruijn64tab"], apart := false, laid := [("math/bits.deBruijn32tab", laid_math_bits_deBruijn32tab), ("math/bits.deBruijn64tab", laid_math_bits_deBruijn64tab)], narrowed := true }
def RatchetAddsUptoSaid : Prop := ratchetAddsUptoRow.holds Tryd.pinned (OpenSpec.upto ratchetAddsSpec)

/-- 'cassocklaw07.RatchetGoes', WHERE WHAT IT READS IS OF BULK AT MOST 1048576: true; the input reads as it did. -/
def ratchetGoesUptoRow : OpenClaim := { program := "ytlmpejfkpidbeaadoor", sum := "3847eebe3e30535dafe7d82945a7c8ac211677092fdc22f24d341f6a171119d9", func := "cassock/cassocklaw07.RatchetGoes", spec := "ratchetGoes", inPlace := ["slices.overlaps[int]"], unfollowed := true, recurses := true, named := ["math/bits.deBruijn32tab", "math/bits.deBruijn64tab"], apart := false, laid := [("math/bits.deBruijn32tab", laid_math_bits_deBruijn32tab), ("math/bits.deBruijn64tab", laid_math_bits_deBruijn64tab)], narrowed := true }
def RatchetGoesUptoSaid : Prop := ratchetGoesUptoRow.holds Tryd.pinned (OpenSpec.upto ratchetGoesSpec)

/-- 'cassocklaw07.RatchetMay', WHERE WHAT IT READS IS OF BULK AT MOST 1048576: true; the input reads as it did. -/
def ratchetMayUptoRow : OpenClaim := { program := "ytlmpejfkpidbeaadoor", sum := "3847eebe3e30535dafe7d82945a7c8ac211677092fdc22f24d341f6a171119d9", func := "cassock/cassocklaw07.RatchetMay", spec := "ratchetMay", inPlace := ["slices.overlaps[int]"], unfollowed := true, recurses := true, named := ["math/bits.deBruijn32tab", "math/bits.deBruijn64tab"], apart := false, laid := [("math/bits.deBruijn32tab", laid_math_bits_deBruijn32tab), ("math/bits.deBruijn64tab", laid_math_bits_deBruijn64tab)], narrowed := true }
def RatchetMayUptoSaid : Prop := ratchetMayUptoRow.holds Tryd.pinned (OpenSpec.upto ratchetMaySpec)

/-- 'cassocklaw07.RatchetBack', WHERE WHAT IT READS IS OF BULK AT MOST 1048576: true; the input reads as it did. -/
def ratchetBackUptoRow : OpenClaim := { program := "ytlmpejfkpidbeaadoor", sum := "3847eebe3e30535dafe7d82945a7c8ac211677092fdc22f24d341f6a171119d9", func := "cassock/cassocklaw07.RatchetBack", spec := "ratchetBack", inPlace := ["slices.overlaps[int]"], unfollowed := true, recurses := true, named := ["math/bits.deBruijn32tab", "math/bits.deBruijn64tab"], apart := false, laid := [("math/bits.deBruijn32tab", laid_math_bits_deBruijn32tab), ("math/bits.deBruijn64tab", laid_math_bits_deBruijn64tab)], narrowed := true }
def RatchetBackUptoSaid : Prop := ratchetBackUptoRow.holds Tryd.pinned (OpenSpec.upto ratchetBackSpec)

end Rows
end Go.Proofs.YtlmpejfkpidbeaaDoor
