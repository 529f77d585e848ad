/- The statements' own helper: live. -/
import Derived.Test.YtlohedmpcjpaeaaDoorMthG
import Derived.Test.YtlohedmpcjpaeaaDoorMthW
set_option linter.unusedSimpArgs false
set_option linter.unusedVariables false
namespace Go.Proofs.YtlohedmpcjpaeaaDoor
open Go.RowKit

theorem RdI.lit2 (w : World) (a b : Int) : RdI (w.alloc (.cells #[.int .i64 a, .int .i64 b] 3)) (.slice (some ⟨w.heap.size, 0, none⟩) 2 2) [a, b] :=
  OwnI.rd (Ownv.lit (B := w.heap.size) 3 (w := w) [.int .i64 a, .int .i64 b] (Nat.le_refl _) (by unfold maxLen; simp))
/-- What a call leaves that answers numbers. -/
def OkPost (w : World) (l : List Int) (e : Ending) (w' : World) : Prop := ∃ v, e = .returned (.tuple #[v, .int .i64 0]) ∧ RdI w' v l ∧ Kept w w'
theorem ListPost.ok {w : World} {b : Bool} {l l' : List Int} {e : Ending} {w' : World} (h : ListPost w b l e w') (hb : b = true) (hl : l = l') : OkPost w l' e w' := by
  subst hb hl; exact h
def NoPost (w : World) (e : Ending) (w' : World) : Prop := ∃ v, e = .returned (.tuple #[v, .int .i64 1]) ∧ RdI w' v [] ∧ Kept w w'
theorem ListPost.no {w : World} {b : Bool} {l : List Int} {e : Ending} {w' : World} (h : ListPost w b l e w') (hb : b = false) : NoPost w e w' := by
  subst hb; exact h
set_option maxHeartbeats 4000000 in
set_option maxRecDepth 100000 in
theorem live_any (w : World) (ht : Tabs w) : Calls Tryd.prog 8 #[] w fun e w' => e = .returned (.bool true) ∧ Kept w w' := by
  have hb : I64 0 := ⟨by omega, by omega⟩
  have h4 : I64 4 := ⟨by omega, by omega⟩
  have h5 : I64 5 := ⟨by omega, by omega⟩
  have HP := Lib.hid (fun W (k : Kept w W) => (Path_any 0 4 W hb h4 (ht.kept k)).mono fun e w' h => ListPost.ok (l' := [1, 3]) h (by decide +kernel) (by decide +kernel))
  have HQ := Lib.hid (fun W (k : Kept w W) => (Copath_any 0 4 W hb h4 (ht.kept k)).mono fun e w' h => ListPost.ok (l' := [2, 5]) h (by decide +kernel) (by decide +kernel))
  have HC : Hid (∀ W, Kept w W → Calls Tryd.prog 32 #[.int .i64 0, .int .i64 4, .int .i64 4] W fun e w' => e = .returned (.tuple #[.int .i64 3, .int .i64 0]) ∧ Kept W w') :=
    Lib.hid (fun W k => by
      have := Common_any 0 4 4 W hb h4 h4 (ht.kept k)
      rwa [show pk (inB 0 4 && inB 4 4) (Mth.comc (0 : Int).toNat (4 : Int).toNat : Nat) = 3 by decide +kernel, show er (inB 0 4 && inB 4 4) = 0 by decide +kernel] at this)
  have HL : Hid (∀ W, Kept w W → Calls Tryd.prog 21 #[.int .i64 5] W fun e w' => e = .returned (.tuple #[.int .i64 2, .int .i64 4, .int .i64 0]) ∧ Kept W w') :=
    Lib.hid (fun W k => by
      have := Leaves_any 5 W h5 (ht.kept k)
      rwa [show pk (inB 5 256) (Mth.lo (5 : Int).toNat : Nat) = 2 by decide +kernel, show pk (inB 5 256) (Mth.hi (5 : Int).toNat : Nat) = 4 by decide +kernel, show er (inB 5 256) = 0 by decide +kernel] at this)
  have HR : Hid (∀ W, Calls Tryd.prog 11 #[.int .i64 4] W fun e w' => e = .returned (.tuple #[.int .i64 3, .int .i64 0]) ∧ Kept W w') :=
    Lib.hid (fun W => by
      have := Root_any 4 W h4
      rwa [show pk (treeB 4) (4 - 1) = 3 by decide +kernel, show er (treeB 4) = 0 by decide +kernel] at this)
  clear hb h4 h5
  go_enter Tryd.func8, Tryd.ntmps8
  go_wp2_with fail
  refine (HP.out _ (Kept.refl _)).mono ?_; rintro e w1 ⟨v1, rfl, r1, k1⟩
  go_wp2_with fail
  refine (HQ.out _ k1).mono ?_; rintro e w2 ⟨v2, rfl, r2, q2⟩
  have k2 := k1.trans q2
  have r1 := r1.kept q2
  clear q2 k1
  go_wp2_with fail
  refine (HC.out _ k2).mono ?_; rintro e w3 ⟨rfl, q3⟩
  have k3 := k2.trans q3
  have r1 := r1.kept q3
  have r2 := r2.kept q3
  clear q3 k2
  go_wp2_with fail
  refine (HL.out _ k3).mono ?_; rintro e w4 ⟨rfl, q4⟩
  have k4 := k3.trans q4
  have r1 := r1.kept q4
  have r2 := r2.kept q4
  clear q4 k3
  go_wp2_with fail
  refine (HR.out _).mono ?_; rintro e w5 ⟨rfl, q5⟩
  have k5 := k4.trans q5
  have r1 := r1.kept q5
  have r2 := r2.kept q5
  clear q5 k4
  have a1 := (Kept.refl w5).alloc (.cells #[.int .i64 1, .int .i64 3] 3)
  have S1 : Hid (Calls Tryd.prog 31 #[v1, .slice (some ⟨w5.heap.size, 0, none⟩) 2 2] (w5.alloc (.cells #[.int .i64 1, .int .i64 3] 3)) fun e w' => e = .returned (.bool true) ∧ Kept (w5.alloc (.cells #[.int .i64 1, .int .i64 3] 3)) w') := Lib.hid (sameInts_any (r1.kept a1) (RdI.lit2 w5 1 3))
  go_wp2_with fail
  refine S1.out.mono ?_; rintro e w6 ⟨rfl, q6⟩
  have k6 := (k5.trans a1).trans q6
  have r2 := (r2.kept a1).kept q6
  clear q6 a1 S1 r1 k5
  have a2 := (Kept.refl w6).alloc (.cells #[.int .i64 2, .int .i64 5] 3)
  have S2 : Hid (Calls Tryd.prog 31 #[v2, .slice (some ⟨w6.heap.size, 0, none⟩) 2 2] (w6.alloc (.cells #[.int .i64 2, .int .i64 5] 3)) fun e w' => e = .returned (.bool true) ∧ Kept (w6.alloc (.cells #[.int .i64 2, .int .i64 5] 3)) w') := Lib.hid (sameInts_any (r2.kept a2) (RdI.lit2 w6 2 5))
  go_wp2_with fail
  refine S2.out.mono ?_; rintro e w7 ⟨rfl, q7⟩
  have k7 := (k6.trans a2).trans q7
  clear q7 a2 S2 r2 k6
  go_wp2
  go_ret
  exact ⟨rfl, k7⟩
end Go.Proofs.YtlohedmpcjpaeaaDoor
