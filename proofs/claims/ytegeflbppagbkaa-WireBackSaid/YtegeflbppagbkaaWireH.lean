/- The statements' own examples ('live'), and numbers. -/
import Derived.Test.YtegeflbppagbkaaWireG
import Derived.Lib.SlBytesConst
set_option linter.unusedSimpArgs false
set_option linter.unusedVariables false
namespace Go.Proofs.Ytegeflbppagbkaa
open Go.RowKit

theorem alloc_size (w : World) (o : Obj) : (w.alloc o).heap.size = w.heap.size + 1 := by simp

theorem Rd.marked {w : World} (zs : List Int) (fr : Nat × Nat) (hl : zs.length ≤ 1000000) : Rd (w.alloc (.cells (zs.map (Value.int .u8)).toArray 5 fr)) (.slice (some ⟨w.heap.size, 0, none⟩) zs.length zs.length) zs := by
  refine ⟨_, zs.length, rfl, by simp, Nat.le_refl _, by unfold maxLen; omega, (fun h => by cases h), fun ad had j u hj => ?_⟩
  cases had
  have e : (⟨w.heap.size, 0, none⟩ : Addr).add j = ⟨w.heap.size, j, none⟩ := by rw [Addr.add_lit, Nat.zero_add]
  rw [e, cell_of_row _ w.heap.size j _ _ fr (heap_alloc_new w _)]
  simpa using hj

theorem live_any (w : World) : Calls Try.prog 4 #[] w fun e w' => e = .returned (.bool true) ∧ Kept w w' := by
  have HA := Lib.hid (int_ok 15293 w (by omega) (by omega))
  have kc := fun (w : World) (C : Array Value) (n c : Nat) => Lib.run_convert_bytes_const (P := Try.prog) w 23 5 C n c Try.underlying23 Try.underlying5
  go_enter Try.func4, Try.ntmps4
  go_wp2_with (go_at_call 9; refine HA.out.mono ?_; rintro e w1 ⟨v1, rfl, ho1, hk1⟩)
  have hk2 := (Kept.refl w1).alloc (.cells #[Value.int .u8 97] 5 (1, 2))
  have hr2 := Rd.marked (w := w1) [97] (1, 2) (by simp)
  have hr3 := Rds.lit 23 (w := w1.alloc (.cells #[Value.int .u8 97] 5 (1, 2))) [.slice (some ⟨w1.heap.size, 0, none⟩) 1 1, .slice none 0 0] [[97], []] rfl (by simp) (fun i hi => by
    rcases i with _ | _ | i
    · exact hr2
    · exact Rd.nil _
    · simp at hi; omega)
  rw [alloc_size] at hr3
  have hk3 := hk2.alloc (.cells #[.slice (some ⟨w1.heap.size, 0, none⟩) 1 1, .slice none 0 0] 23)
  refine (join_ok _ [[97], []] _ hr3 (by decide)).mono ?_
  rintro e w2 ⟨v2, rfl, ho2, hk4⟩
  have hk5 := hk3.trans hk4
  go_wp2_with fail
  have hL1 := (Own.lit (w := w2) [64, 37] (by simp)).rd
  have t1 : takeI [64, 37] = (0, 0, 11) := by decide
  have C1 := takeInt_any _ [64, 37] _ hL1 (by intro z hz; simp at hz; omega)
  rw [t1] at C1
  refine C1.mono ?_
  rintro e w3 ⟨rfl, hk6⟩
  have hk7 := ((Kept.refl w2).alloc _).trans hk6
  clear C1 t1
  go_wp2_with fail
  have hL2 := (Own.lit (w := w3) [123, 189, 9] (by simp)).rd
  have t2 : takeI [123, 189, 9] = (15293, 2, 0) := by decide
  have C2 := takeInt_any _ [123, 189, 9] _ hL2 (by intro z hz; simp at hz; omega)
  rw [t2] at C2
  refine C2.mono ?_
  rintro e w4 ⟨rfl, hk8⟩
  have hk9 := ((Kept.refl w3).alloc _).trans hk8
  clear C2 t2
  have hs1 := go_str_run (P := Try.prog) Try.underlying23 Try.underlying5 (ho1.rd.kept (hk5.trans (hk7.trans hk9))) 9 Try.underlying9
  have hs2 := go_str_run (P := Try.prog) Try.underlying23 Try.underlying5 (ho2.rd.kept (hk7.trans hk9)) 9 Try.underlying9
  have e1 : strOfNums (ib 15293) = ⟨#[123, 189]⟩ := by rfl
  have e2 : strOfNums (vecB (vecs [[97], []])) = ⟨#[3, 1, 97, 0]⟩ := by rfl
  rw [e1] at hs1
  rw [e2] at hs2
  clear e1 e2
  have hkk := hk1.trans (hk5.trans (hk7.trans hk9))
  go_wp2
  go_ret
  exact ⟨rfl, hkk⟩
end Go.Proofs.Ytegeflbppagbkaa
