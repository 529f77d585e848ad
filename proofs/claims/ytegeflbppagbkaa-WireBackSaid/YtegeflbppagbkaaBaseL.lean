/- Lists of slices of bytes that the call owns: append. -/
import Derived.Test.YtegeflbppagbkaaBase
set_option linter.unusedSimpArgs false
set_option linter.unusedVariables false
namespace Go.Proofs.Ytegeflbppagbkaa
open Go.RowKit

theorem Try.info26 : (Try.prog.info? 23).map (fun i => (i.zero, i.size, i.bytes)) = some (some (.slice none 0 0), 1, 24) := by kernel_rfl

/-- append of slices of bytes to a list of them, the call's own. -/
theorem go_appl {w : World} {ops : Array Oper} {rest : List Oper} {a : Act} {Q : Exit → Act → World → Prop} {d : Option Tmp} {ty : TypeId} {ps : String} {af : Array Edge} {s x : Operand}
    (B : Nat) (v : Value) (n : Nat) (xs : List Value) (hs : a.eval s = v) (ho : Ownv B 23 1 w v n xs) (u : Value) (m : Nat) (news : List Value) (hx : a.eval x = u) (hr : Rdv 1 w u m news)
    (h1 : ∀ u ∈ news, u.oneCell' = true) (hl : n + m ≤ 4000000000) (hB : B ≤ w.heap.size)
    (hK : ∀ v' w', Ownv B 23 1 w' v' (n + m) (xs ++ news) → Below B w w' → w.grownBy w' v.ownBlock → wpList Try.prog ops Q rest (a.put d v') w') :
    wpList Try.prog ops Q (⟨d, .call { callee := .builtin .append, args := #[s, x], argTypes := #[22, 22] }, ty, ps, af, none⟩ :: rest) a w := by
  obtain ⟨i0, hi, hz0, hz1, hz2⟩ := info_parts Try.info26
  exact go_appg B 23 1 24 i0 (.slice none 0 0) Try.underlying22 hi hz0 hz1 hz2 rfl (by decide) v n xs hs ho u m news hx hr h1 (by unfold maxLen; omega) (by omega) hB hK


end Go.Proofs.Ytegeflbppagbkaa
