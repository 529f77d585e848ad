/- Texts of one proof, put together: RpQ. -/
import Derived.Test.YtlmpejfkpidbeaaDoorMg09
section
/- The walk of the statement RatchetGoes (written by gen_rlaw.py). -/
set_option linter.unusedSimpArgs false
set_option linter.unusedVariables false
namespace Go.Proofs.YtlmpejfkpidbeaaDoor
open Go.RowKit
open Rt

set_option maxHeartbeats 16000000 in
set_option maxRecDepth 100000 in
theorem goes_any {tv lv : Value} {t : List TN} {l : TN} {i : Int} {w : World} (ht : RdTs w tv t) (hok : ∀ d ∈ t, TnOk d) (hi : I64 i) (hl : RdTn w lv l) (hlok : TnOk l) (hT : Tabs w) :
    Calls Tryd.prog 5 #[tv, .int .i64 i, lv] w fun e w' => e = .returned (.bool true) ∧ Kept w w' := by
  obtain ⟨yv, rfl, hrl⟩ := hl
  obtain ⟨ua, uc, rfl, _, _, _⟩ := hrl.len
  have k0 : Kept w (w.alloc (.cells #[.int .i64 l.kd, .int .i64 l.id, .int .i64 l.enc, .int .i64 l.sig, .int .i64 l.hash, .slice ua l.un.length uc] 32)) := (Kept.refl w).alloc _
  have bb0 : Blk (w.alloc (.cells #[.int .i64 l.kd, .int .i64 l.id, .int .i64 l.enc, .int .i64 l.sig, .int .i64 l.hash, .slice ua l.un.length uc] 32)) w.heap.size 32 [.int .i64 l.kd, .int .i64 l.id, .int .i64 l.enc, .int .i64 l.sig, .int .i64 l.hash, .slice ua l.un.length uc] := Blk.new _ _ _
  have HL := Lib.hid (fun W (k : Kept w W) => live07_any W (hT.kept k))
  have HFw := Lib.hid (fun W (k : Kept w W) => few1_any (ht.kept k))
  have HCp := Lib.hid (fun (h : FewT t) W (k : Kept w W) => rcopy_any (ht.kept k) (by have := h.1; omega) (few_fit h hok).un)
  have HSm := Lib.hid (fun (W : World) (u v : Value) (a b : List TN) (ha : RdTs W u a) (hb : RdTs W v b) => rsameT_any ha hb)
  have HA := Lib.hid (fun (h : FewT t) W (k : Kept w W) => premove_any (ht.kept k) hok (few_fit h hok).len (few_fit h hok).un (hT.kept k) i hi)
  have HRA := Lib.hid (fun W (k : Kept w W) => rremove_any (ht.kept k) hok i hi)
  have HN := Lib.hid (fun (h : FewT t) (h2 : l.un.length ≤ 20) W (k : Kept w W) => pupdate_any (l := l) (ht.kept k) hok (few_fit h hok).len (few_fit h hok).un (hT.kept k) ⟨_, rfl, hrl.kept k⟩ (by omega) i hi)
  have HRN := Lib.hid (fun W (k : Kept w W) => rupdate_any (l := l) (ht.kept k) hok ⟨_, rfl, hrl.kept k⟩ i hi)
  have HFit := Lib.hid (remT_fit (i := i) hok).len
  have HFit2 := Lib.hid (updT_fit (i := i) hok hlok).len
  have HT := Lib.hid ht
  obtain ⟨ta, tc, htv, _, t9, _⟩ := ht.len
  subst htv
  have u9 : (l.un.length : Int) ≤ 9223372036854775807 := by obtain ⟨a', c', h1, h2, h3, _⟩ := hrl.len; unfold maxLen at h3; omega
  unfold PTree at HA HN
  unfold TreePost at HRA HRN
  unfold CopyPost at HCp
  generalize remT t i = at' at HA HRA HFit
  generalize remE t i = ae at HA HRA
  generalize updT t i l = ut at HN HRN HFit2
  generalize updE t i l = ue at HN HRN
  clear ht hok hlok hT
  go_enter Tryd.func5, Tryd.ntmps5
  go_wp2_with fail
  (with_reducible refine (HL.out _ k0).mono ?_); rintro e w1 ⟨rfl, q1⟩
  have k1 := k0.trans q1
  have bb := bb0.kept q1
  go_wp2_with fail
  (with_reducible refine (HFw.out _ k1).mono ?_); rintro e w2 ⟨r, rfl, hr, q2⟩
  have q2' := ((Kept.refl w1).alloc (.cells #[.slice ta t.length tc] 22)).trans q2
  have k2 := k1.trans q2'
  have bb := bb.kept q2'
  have c0 := bb.cell 0
  have c1 := bb.cell 1
  have c2 := bb.cell 2
  have c3 := bb.cell 3
  have c4 := bb.cell 4
  have c5 := bb.cell 5
  simp only [List.getElem?_cons_zero, List.getElem?_cons_succ] at c0 c1 c2 c3 c4 c5
  cases r with
  | false =>
    clear hr
    go_wp2
    go_ret
    exact ⟨rfl, k2⟩
  | true =>
    by_cases h20 : l.un.length ≤ 20
    · have hd : ¬ (20 : Int) < (l.un.length : Int) := by omega
      have hd2 : decide ((20 : Int) < (l.un.length : Int)) = false := decide_eq_false hd
      have HCp2 := Lib.hid (HCp.out (hr rfl))
      have HA2 := Lib.hid (HA.out (hr rfl))
      have HN2 := Lib.hid (HN.out (hr rfl) h20)
      clear hr HCp HA HN h20
      go_wp2_with fail
      (with_reducible refine (HCp2.out _ k2).mono ?_); rintro e w3 ⟨vC, lC, rfl, oC, q3⟩
      have k3 := k2.trans q3
      have bb := bb.kept q3
      obtain ⟨aC, cC, rfl, _, _, _⟩ := oC.rd.len
      go_wp2_with fail
      (with_reducible refine (HA2.out _ k3).mono ?_); rintro e w4 ⟨vA, rfl, rA, roA, q4⟩
      have k4 := k3.trans q4
      have bb := bb.kept q4
      obtain ⟨aA, cA, rfl, _, _, _⟩ := rA.len
      go_wp2_with fail
      (with_reducible refine (HRA.out _ k4).mono ?_); rintro e w5 ⟨vR, rfl, rR, _, q5⟩
      have k5 := k4.trans q5
      have bb := bb.kept q5
      have c0 := bb.cell 0
      have c1 := bb.cell 1
      have c2 := bb.cell 2
      have c3 := bb.cell 3
      have c4 := bb.cell 4
      have c5 := bb.cell 5
      simp only [List.getElem?_cons_zero, List.getElem?_cons_succ] at c0 c1 c2 c3 c4 c5
      obtain ⟨aR, cR, rfl, _, _, _⟩ := rR.len
      go_wp2_with fail
      (with_reducible refine (HN2.out _ k5).mono ?_); rintro e w6 ⟨vN, rfl, rN, roN, q6⟩
      have k6 := k5.trans q6
      have bb := bb.kept q6
      have c0 := bb.cell 0
      have c1 := bb.cell 1
      have c2 := bb.cell 2
      have c3 := bb.cell 3
      have c4 := bb.cell 4
      have c5 := bb.cell 5
      simp only [List.getElem?_cons_zero, List.getElem?_cons_succ] at c0 c1 c2 c3 c4 c5
      obtain ⟨aN, cN, rfl, _, _, _⟩ := rN.len
      go_wp2_with fail
      (with_reducible refine (HRN.out _ k6).mono ?_); rintro e w7 ⟨vM, rfl, rM, _, q7⟩
      have k7 := k6.trans q7
      have bb := bb.kept q7
      obtain ⟨aM, cM, rfl, _, _, _⟩ := rM.len
      have hS := HSm.out w7 _ _ _ _ (((rA.kept q5).kept q6).kept q7) ((rR.kept q6).kept q7)
      rw [same_self] at hS
      have HS := Lib.hid hS
      clear hS
      go_wp2_with fail
      (with_reducible refine (HS.out).mono ?_); rintro e w8 ⟨rfl, q8⟩
      have k8 := k7.trans q8
      have bb := bb.kept q8
      have hS2 := HSm.out w8 _ _ _ _ ((rN.kept q7).kept q8) (rM.kept q8)
      rw [same_self] at hS2
      have HS2 := Lib.hid hS2
      clear hS2
      go_wp2_with fail
      (with_reducible refine (HS2.out).mono ?_); rintro e w9 ⟨rfl, q9⟩
      have k9 := k8.trans q9
      have bb := bb.kept q9
      have HSp := Lib.hid (spoilR_any (((((roA.kept q5).kept q6).kept q7).kept q8).kept q9) HFit.out)
      go_wp2_with fail
      (with_reducible refine HSp.out.mono ?_); rintro e w10 ⟨rfl, t10⟩
      have k3a : Kept w3 w10 := Turn.keptOf (((((q4.trans q5).trans q6).trans q7).trans q8).trans q9) t10 (Row0.blks roA)
      have hroN : Row0 w5.heap.size w10 (.slice aN ut.length cN) ut.length := by
        rcases ((roN.kept q7).kept q8).kept q9 with h | ⟨g, cap, cur, h1, h2, h3, h4⟩
        · exact .inl h
        · refine .inr ⟨g, cap, cur, h1, h2, ?_, h4⟩
          rw [t10.block g (Array.getElem?_eq_some_iff.1 h3).1 (fun hb => by
            rcases roA with ⟨h, _⟩ | ⟨g', cap', cur', h5, h6, h7, h8⟩
            · rw [h] at hb; cases hb
            · rw [h5] at hb
              have e9 := Option.some.inj (show some g' = some g from hb)
              have := (Array.getElem?_eq_some_iff.1 h7).1
              have := q5.size
              omega)]
          exact h3
      have HSp2 := Lib.hid (spoilR_any hroN HFit2.out)
      go_wp2_with fail
      (with_reducible refine HSp2.out.mono ?_); rintro e w11 ⟨rfl, t11⟩
      have k3b : Kept w3 w11 := Turn.keptOf k3a t11 (fun b hb => by have := Row0.blks roN b hb; have := (q4.trans q5).size; omega)
      have k11 : Kept w w11 := k3.trans k3b
      have hS3 := HSm.out w11 _ _ _ _ (HT.out.kept k11) (oC.rd.kept k3b)
      rw [same_self] at hS3
      have HS3 := Lib.hid hS3
      clear hS3
      go_wp2_with fail
      (with_reducible refine HS3.out.mono ?_); rintro e w12 ⟨rfl, q12⟩
      go_wp2
      go_ret
      exact ⟨by simp, k11.trans q12⟩
    · have hd : (20 : Int) < (l.un.length : Int) := by omega
      have hd2 : decide ((20 : Int) < (l.un.length : Int)) = true := decide_eq_true hd
      clear hr
      go_wp2
      go_ret
      exact ⟨rfl, k2⟩
end Go.Proofs.YtlmpejfkpidbeaaDoor
end
