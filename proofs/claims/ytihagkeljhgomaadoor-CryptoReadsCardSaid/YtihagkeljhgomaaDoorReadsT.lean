/- The walk of CryptoReads. -/
import Derived.Test.YtihagkeljhgomaaDoorCrI
import Derived.Deep.DeepCutAuto
set_option linter.unusedSimpArgs false
set_option linter.unusedVariables false
namespace Go.Proofs.YtihagkeljhgomaaDoor
open Go.RowKit Go.Maps

set_option maxHeartbeats 8000000 in
set_option maxRecDepth 100000 in
theorem reads_walk {w : World} {v : Value} {ls : List Opn} (hv : RdOs w v ls) (hok : ∀ o ∈ ls, OpnOk o) {x y z u : Int} (hx : I64 x) (hy : I64 y) (hz : I64 z) (hu : I64 u) (ht : Tabs w) :
    Calls Tryd.prog 6 #[v, .int .i64 x, .int .i64 y, .int .i64 z, .int .i64 u] w fun e w' => e = .returned (.bool true) ∧ Kept w w' := by
  obtain ⟨na, ncap, rfl, n1, n2, _⟩ := hv.len
  go_enter Tryd.func6, Tryd.ntmps6
  go_wp2_with fail
  refine (liveA ht).mono ?_
  rintro e w1 ⟨rfl, k1⟩
  go_wp2_with fail
  refine (fewA (hv.kept k1)).mono ?_
  rintro e w2 ⟨b, rfl, hfew, k2⟩
  have k02 := k1.trans k2
  cases b with
  | false =>
    go_wp2
    go_ret
    exact ⟨rfl, k02⟩
  | true =>
    have hf := hfew rfl
    clear hfew
    go_wp2_with fail
    refine (grownA hv hok hf k02 ht (S := Olds0 w) (fun b hb => Nat.lt_of_lt_of_le hb k02.size) (fun b hb => hb)).mono ?_
    rintro e w3 ⟨p, pv, ds, ts, rfl, a3, o3, hts, his, hdl, k3, _⟩
    clear his hts o3
    go_wp2_with fail
    refine (lenA a3).mono ?_
    rintro e w' ⟨rfl, rfl⟩
    generalize hm : (ds.length : Int) = m
    have HM := Shut.mk hm
    clear hm
    have c_1 := openA a3 x y z
    go_wp2_with fail
    refine c_1.mono ?_
    clear c_1
    rintro e' w_1 ⟨rfl, k_1⟩
    have a_1 := a3.step k_1
    clear a3
    generalize openM ds x y z = g1
    have c_2 := unlockA a_1 x y z u
    go_wp2_with fail
    refine c_2.mono ?_
    clear c_2
    rintro e' w_2 ⟨rfl, k_2⟩
    have a_2 := a_1.step k_2
    clear a_1
    generalize unlockM ds x y z u = g2
    have c_3 := verifyA a_2 x y z
    go_wp2_with fail
    refine c_3.mono ?_
    clear c_3
    rintro e' w_3 ⟨rfl, k_3⟩
    have a_3 := a_2.step k_3
    clear a_2
    generalize verifyM ds x y z = g3
    have c_4 := checkA a_3 x y z
    go_wp2_with fail
    refine c_4.mono ?_
    clear c_4
    rintro e' w_4 ⟨rfl, k_4⟩
    have a_4 := a_3.step k_4
    clear a_3
    generalize checkM ds x y z = g4
    have hl := lenA a_4
    rw [HM.out] at hl
    go_wp2_with (go_at_call 11; refine hl.mono ?_; rintro e w' ⟨rfl, rfl⟩)
    go_ret
    exact ⟨rfl, a_4.kept⟩
end Go.Proofs.YtihagkeljhgomaaDoor
