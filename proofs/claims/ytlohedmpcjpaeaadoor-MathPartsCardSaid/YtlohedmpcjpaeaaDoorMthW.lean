/- Walks of the document's answer: Copath. -/
import Derived.Test.YtlohedmpcjpaeaaDoorMthV
set_option linter.unusedSimpArgs false
set_option linter.unusedVariables false
namespace Go.Proofs.YtlohedmpcjpaeaaDoor
open Go.RowKit

theorem ints_len (l : List Nat) : (ints l).length = l.length := by simp [ints]
theorem ints_get {l : List Nat} {i : Nat} (h : i < l.length) : (ints l).getD i 0 = ((l.getD i 0 : Nat) : Int) := by
  rw [List.getD_eq_getElem?_getD, List.getD_eq_getElem?_getD, List.getElem?_eq_getElem (by rw [ints_len]; exact h), List.getElem?_eq_getElem h]
  simp [ints]
set_option maxHeartbeats 2000000 in
theorem RCopath_any (x n : Int) (w : World) (hx : I64 x) (hn : I64 n) : Calls Tryd.prog 30 #[.int .i64 x, .int .i64 n] w (ListPost w (inB x n) (ints (Mth.copath x.toNat n.toNat))) := by
  have HA := Lib.hid (fun w => RPath_any x n w hx hn)
  cases hi : inB x n with
  | false =>
    rw [hi] at HA
    clear hi
    go_enter Tryd.func30, Tryd.ntmps30
    go_wp2_with fail
    refine (HA.out _).mono ?_
    rintro e w1 ⟨v, rfl, hr, hk⟩
    simp only [er_false]
    clear hr
    go_wp2
    go_ret2
    exact ⟨_, rfl, RdI.nil _, hk⟩
  | true =>
    rw [hi] at HA
    obtain ⟨m, k, hm, hk, hkf, h4, h5⟩ := in_nat hi
    subst hm hk
    have hkb := fulls_bd hkf
    have hp := Mth.path_of hkf h4
    have hl8 := lvl_top hkf
    have hL8 : Mth.lvl (k - 1) - Mth.lvl m ≤ 8 := by omega
    have HCP := Shut.mk (cl_copath hkf h4)
    have hat := hp.at'
    have hplen := hp.len
    have HA : Hid (∀ w, Calls Tryd.prog 28 #[.int .i64 (m : Int), .int .i64 (k : Int)] w (ListPost w true (ints (Mth.pathF 9 m k)))) := HA
    generalize Mth.lvl (k - 1) - Mth.lvl m = L at hat hL8 HCP hplen
    have HAt := Shut.mk hat
    have HL := Shut.mk hL8
    generalize hq : ints (Mth.pathF 9 m k) = q at HA
    have hql : q.length = L := by rw [← hq, ints_len, hplen]
    have hqa : ∀ i, i < L → q.getD i 0 = ((Mth.itr (i + 1) m : Nat) : Int) := fun i h => by rw [← hq, ints_get (by omega), (hat i h).1]
    clear hat hp hL8 hi hq hplen
    have HQA := Shut.mk hqa
    clear hqa
    have HQL := Shut.mk hql
    clear hql
    have hk1 : (1 : Int) ≤ (k : Int) := by omega
    have hk2 : (k : Int) ≤ 256 := by omega
    go_enter Tryd.func30, Tryd.ntmps30
    go_wp2_with fail
    refine (HA.out _).mono ?_
    rintro e w1 ⟨pv, rfl, hr, hkw⟩
    have hr : RdI w1 pv q := hr
    obtain ⟨pa, pc, rfl, _, hpc, _⟩ := hr.len
    simp only [er_true]
    have q63 : ((q.length : Nat) : Int) ≤ 9223372036854775807 := by unfold maxLen at hpc; omega
    go_wp2
    go_loopw [0, 8, 24] (fun y l c wr => ∃ i : Nat, i ≤ q.length ∧ y = .int .i64 (Mth.itr i m : Nat) ∧ (∃ v, v = l ∧ OwnI w1.heap.size wr v (cl Mth.sib m i)) ∧ c = .int .i64 i ∧ Kept w1 wr) (fun _ _ c _ => q.length - (intOf c).toNat)
    case atStart => exact ⟨0, Nat.zero_le _, rfl, ⟨_, rfl, OwnI.nil _ _⟩, rfl, Kept.refl _⟩
    case round =>
      obtain ⟨i, hi, rfl, ⟨v, rfl, ho⟩, rfl, hk⟩ := hrel
      by_cases hlt : i < q.length
      · have hiL : i < L := by have := HQL.out; omega
        obtain ⟨_, _, a3, a4, _⟩ := HAt.out i hiL
        have hm : Mth.itr i m < 511 := by omega
        have HCl := Shut.mk (cl_succ Mth.sib m i)
        obtain ⟨rb, ro, rc, hrv, _, _, hrb, hcl⟩ := hr.addr (by omega)
        simp only [Value.slice.injEq] at hrv
        obtain ⟨rfl, _, rfl⟩ := hrv
        have x1 := hk.cell (p := ⟨rb, ro + i, none⟩) hrb |>.trans (hcl i hlt)
        rw [HQA.out i hiL] at x1
        have HPy := Lib.hid (fun W => RSibling_any (Mth.itr i m : Nat) (k : Int) W ⟨by omega, by omega⟩ ⟨by omega, by omega⟩)
        rw [upB_nat hkf a3, decide_eq_true a4] at HPy
        have HPy : Hid (∀ W, Calls Tryd.prog 26 #[.int .i64 (Mth.itr i m : Nat), .int .i64 (k : Int)] W fun e w' => e = .returned (.tuple #[.int .i64 (Mth.sib (Mth.itr i m) : Nat), .int .i64 0]) ∧ W = w') := HPy
        generalize Mth.sib (Mth.itr i m) = ty at HCl HPy
        generalize Mth.itr i m = y at HPy
        generalize hz : Mth.itr (i + 1) m = z at x1
        have HZ := Shut.mk hz
        clear hz
        clear a3 a4 hm hcl hiL
        have hk2a := hk.alloc (.cells #[.int .i64 (ty : Int)] 3)
        have o2 := Ownv.kept ho ((Kept.refl wr).alloc (.cells #[.int .i64 (ty : Int)] 3))
        have hsz := hk.size
        have hlen : (cl Mth.sib m i).length + 1 ≤ 10000000000 := by rw [cl_len]; have := HL.out; have := HQL.out; omega
        have i0 : (0 : Int) ≤ (i : Int) := by omega
        have i1 : (i : Int) < (q.length : Int) := by omega
        go_wp2_with (first | (go_at_call 26; refine (HPy.out _).mono ?_; rintro e w' ⟨rfl, rfl⟩) | (at_builtin; refine go_appi w1.heap.size v (cl Mth.sib m i) rfl o2 _ [(ty : Int)] rfl (OwnI.rd (OwnI.lit1 wr _)) hlen (by simp; omega) ?_; intro v6 w6 o6 t6 l6; have k6 : Kept w1 w6 := Turn.keptOf hk2a t6 (fun b hb => (Ownv.lt o2 hb).2)))
        go_roundw
        case rel => exact ⟨i + 1, hlt, by rw [HZ.out], ⟨v6, rfl, by rw [HCl.out]; exact o6⟩, by go_num, k6⟩
        case measure => simp [intOf]; omega
      · have e : i = q.length := by omega
        have hE := Shut.mk (e.trans HQL.out)
        have i1 : ¬ (i : Int) < (q.length : Int) := by omega
        clear e
        go_wp2
        go_ret2
        exact ⟨_, rfl, by show RdI _ _ (ints (Mth.copath m k)); rw [← HCP.out, ← hE.out]; exact OwnI.rd ho, hkw.trans hk⟩
end Go.Proofs.YtlohedmpcjpaeaaDoor
