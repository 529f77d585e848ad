/- Walks of package wire: options are read. -/
import Derived.Test.YtegeflbppagbkaaWireD
import Derived.Outline
set_option linter.unusedSimpArgs false
set_option linter.unusedVariables false
namespace Go.Proofs.Ytegeflbppagbkaa
open Go.RowKit

theorem By.drop {zs : List Int} (h : By zs) (k : Nat) : By (zs.drop k) := fun z hz => h z (List.mem_of_mem_drop hz)
theorem By.take {zs : List Int} (h : By zs) (k : Nat) : By (zs.take k) := fun z hz => h z (List.mem_of_mem_take hz)

end Go.Proofs.Ytegeflbppagbkaa
