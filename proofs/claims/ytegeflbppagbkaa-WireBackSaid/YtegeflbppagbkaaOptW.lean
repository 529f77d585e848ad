/- The walk of the statement on options. -/
import Derived.Test.YtegeflbppagbkaaPlain
set_option linter.unusedSimpArgs false
set_option linter.unusedVariables false
namespace Go.Proofs.Ytegeflbppagbkaa
open Go.RowKit

theorem lsum_one (zs : List Int) : lsum bigN [zs] = zs.length + 1 := by simp [lsum, bigN]
theorem lsum_vsz_one (zs : List Int) : lsum vsz [zs] = (vecB zs).length := by simp [lsum, vsz]
theorem vecs_one (zs : List Int) : vecs [zs] = vecB zs := by simp [vecs]
theorem strs {w : World} {v : Value} {zs : List Int} (h : Rd w v zs) : ∀ n, (convert 23 9 v).run Try.prog (w.drewN n) = .ok (.string (strOfNums zs)) (w.drewN n) := fun n =>
  go_str_run (P := Try.prog) Try.underlying23 Try.underlying5 (h.kept ((Kept.refl w).drewN n)) 9 Try.underlying9
theorem strs0 {w : World} {v : Value} {zs : List Int} (h : Rd w v zs) : (convert 23 9 v).run Try.prog w = .ok (.string (strOfNums zs)) w :=
  go_str_run (P := Try.prog) Try.underlying23 Try.underlying5 h 9 Try.underlying9

end Go.Proofs.Ytegeflbppagbkaa
