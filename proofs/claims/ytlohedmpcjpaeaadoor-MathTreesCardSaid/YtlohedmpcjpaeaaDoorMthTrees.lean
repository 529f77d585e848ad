/- The walk of the statement MathTrees. -/
import Derived.Test.YtlohedmpcjpaeaaDoorMthL
set_option linter.unusedSimpArgs false
set_option linter.unusedVariables false
namespace Go.Proofs.YtlohedmpcjpaeaaDoor
open Go.RowKit

set_option maxHeartbeats 4000000 in
set_option maxRecDepth 100000 in
theorem trees_any {x : Int} (hx : I64 x) {n : Int} (hn : I64 n) {w : World} (ht : Tabs w) : Calls Tryd.prog 4 #[.int .i64 x, .int .i64 n] w fun e w' => e = .returned (.bool true) ∧ Kept w w' := by
  have HL := Lib.hid (live_any w ht)
  have H1 := Lib.hid (fun W (k : Kept w W) => Parent_any x n W hx hn (ht.kept k))
  have H2 := Lib.hid (fun W => RParent_any x n W hx hn)
  have H3 := Lib.hid (fun W (k : Kept w W) => Sibling_any x n W hx hn (ht.kept k))
  have H4 := Lib.hid (fun W => RSibling_any x n W hx hn)
  have H5 := Lib.hid (fun W (k : Kept w W) => Path_any x n W hx hn (ht.kept k))
  have H6 := Lib.hid (fun W => RPath_any x n W hx hn)
  have H7 := Lib.hid (fun W (k : Kept w W) => Copath_any x n W hx hn (ht.kept k))
  have H8 := Lib.hid (fun W => RCopath_any x n W hx hn)
  unfold ListPost at H5 H6 H7 H8
  generalize pk (upB x n) (Mth.par x.toNat : Nat) = v1 at H1 H2
  generalize pk (upB x n) (Mth.sib x.toNat : Nat) = v2 at H3 H4
  generalize er (upB x n) = e1 at H1 H2 H3 H4
  generalize er (inB x n) = e2 at H5 H6 H7 H8
  generalize (bif inB x n then ints (Mth.path x.toNat n.toNat) else []) = l1 at H5 H6
  generalize (bif inB x n then ints (Mth.copath x.toNat n.toNat) else []) = l2 at H7 H8
  go_enter Tryd.func4, Tryd.ntmps4
  go_wp2_with fail
  refine HL.out.mono ?_; rintro e w1 ⟨rfl, k1⟩
  go_wp2_with fail
  refine (H1.out _ k1).mono ?_; rintro e w2 ⟨rfl, q⟩
  have k2 := k1.trans q
  clear q k1
  go_wp2_with fail
  refine (H2.out _).mono ?_; rintro e w3 ⟨rfl, rfl⟩
  go_wp2_with fail
  refine (H3.out _ k2).mono ?_; rintro e w4 ⟨rfl, q⟩
  have k4 := k2.trans q
  clear q k2
  go_wp2_with fail
  refine (H4.out _).mono ?_; rintro e w5 ⟨rfl, rfl⟩
  go_wp2_with fail
  refine (H5.out _ k4).mono ?_; rintro e w6 ⟨a1, rfl, r1, q⟩
  have k6 := k4.trans q
  clear q k4
  go_wp2_with fail
  refine (H6.out _).mono ?_; rintro e w7 ⟨a2, rfl, r2, q⟩
  have k7 := k6.trans q
  have r1 := r1.kept q
  clear q k6
  go_wp2_with fail
  refine (H7.out _ k7).mono ?_; rintro e w8 ⟨a3, rfl, r3, q⟩
  have k8 := k7.trans q
  have r1 := r1.kept q
  have r2 := r2.kept q
  clear q k7
  go_wp2_with fail
  refine (H8.out _).mono ?_; rintro e w9 ⟨a4, rfl, r4, q⟩
  have k9 := k8.trans q
  have r1 := r1.kept q
  have r2 := r2.kept q
  have r3 := r3.kept q
  clear q k8
  have S1 := sameInts_any r1 r2
  have S2 := fun W (k : Kept w9 W) => sameInts_any (r3.kept k) (r4.kept k)
  simp only [decide_true] at S1 S2
  have HS1 := Lib.hid S1
  have HS2 := Lib.hid S2
  clear S1 S2 r1 r2 r3 r4
  go_wp2_with fail
  refine HS1.out.mono ?_; rintro e w10 ⟨rfl, q⟩
  go_wp2_with fail
  refine (HS2.out _ q).mono ?_; rintro e w11 ⟨rfl, q2⟩
  go_wp2
  go_ret
  exact ⟨rfl, (k9.trans q).trans q2⟩
end Go.Proofs.YtlohedmpcjpaeaaDoor
