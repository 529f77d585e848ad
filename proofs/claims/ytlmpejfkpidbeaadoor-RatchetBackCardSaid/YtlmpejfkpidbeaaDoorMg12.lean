/- Texts of one proof, put together: RpT, RpU, RpV. -/
import Derived.Test.YtlmpejfkpidbeaaDoorMg11
import Derived.Test.YtlmpejfkpidbeaaDoorMg09
import Derived.Deep.RegionHeld3
import Derived.Deep.Cut
import Derived.BigQuiet
section
/- The walk of the statement RatchetMay (written by gen_may.py). -/
set_option linter.unusedSimpArgs false
set_option linter.unusedVariables false
namespace Go.Proofs.YtlmpejfkpidbeaaDoor
open Go.RowKit
open Rt

theorem mk_ok {l : TN} (h : TnOk l) : TnOk { l with kd := 1 } := ⟨(show I64 1 from ⟨by decide, by decide⟩), h.id, h.enc, h.sig, h.hash, h.un⟩
theorem rcheck0 {w : World} {tv : Value} {t : List TN} (ht : RdTs w tv t) (hok : ∀ d ∈ t, TnOk d) (hc : chkB t = true) :
    Calls Tryd.prog 11 #[tv] w fun e w' => e = .returned (.int .i64 0) ∧ Kept w w' := by
  have h := rcheck_any ht hok
  rw [hc] at h
  exact h
theorem mk_leaf {l : TN} (h : l.un.length = 0) : leafB { l with kd := 1 } = true := by
  unfold leafB
  show ((1 : Int) == 1 && Nat.beq l.un.length 0) = true
  rw [h]; rfl
theorem rcheck1 {w : World} {tv : Value} {t : List TN} (ht : RdTs w tv t) (hok : ∀ d ∈ t, TnOk d) (hc : chkB t = false) :
    Calls Tryd.prog 11 #[tv] w fun e w' => e = .returned (.int .i64 1) ∧ Kept w w' := by
  have h := rcheck_any ht hok
  rw [hc] at h
  exact h
set_option maxHeartbeats 32000000 in
set_option maxRecDepth 100000 in
theorem mayw_yn {tv lv : Value} {t : List TN} {l : TN} {x : Nat} {w : World} (ht : RdTs w tv t) (hok : ∀ d ∈ t, TnOk d) (hl : RdTn w lv l) (hlok : TnOk l) (hT : Tabs w) (hI64 : I64 (x : Int)) (hc : chkB t = true) (hz : l.un.length = 0) (hin : (x : Int) ∈ memL t) (h2 : decide (1 < (memL t).length) = false) (hAe : ¬ addE t { l with kd := 1 } = 0) :
    Calls Tryd.prog 6 #[tv, .int .i64 (x : Int), lv] w fun e w' => e = .returned (.bool true) ∧ Kept w w' := by
  obtain ⟨yv, rfl, hrl⟩ := hl
  obtain ⟨ua, uc, rfl, _, _, _⟩ := hrl.len
  rw [hz] at hrl
  have hun0 : ({ l with kd := 1 } : TN).un.length = 0 := hz
  have k0 : Kept w (w.alloc (.cells #[.int .i64 l.kd, .int .i64 l.id, .int .i64 l.enc, .int .i64 l.sig, .int .i64 l.hash, .slice ua 0 uc] 32)) := (Kept.refl w).alloc _
  have bb0 : Blk (w.alloc (.cells #[.int .i64 l.kd, .int .i64 l.id, .int .i64 l.enc, .int .i64 l.sig, .int .i64 l.hash, .slice ua 0 uc] 32)) w.heap.size 32 [.int .i64 l.kd, .int .i64 l.id, .int .i64 l.enc, .int .i64 l.sig, .int .i64 l.hash, .slice ua 0 uc] := Blk.new _ _ _
  have hlf := mk_leaf hz
  have HL := Lib.hid (fun W (k : Kept w W) => live07_any W (hT.kept k))
  have HFw := Lib.hid (fun W (k : Kept w W) => few1_any (ht.kept k))
  have HC0 := Lib.hid (fun W (k : Kept w W) => rcheck0 (ht.kept k) hok hc)
  have HA := Lib.hid (fun (h : FewT t) W (k : Kept w W) => padd_any (l := { l with kd := 1 }) (lv := (.agg #[.int .i64 1, .int .i64 l.id, .int .i64 l.enc, .int .i64 l.sig, .int .i64 l.hash, .slice ua 0 uc])) (ht.kept k) hok (few_fit h hok).len (few_fit h hok).un (hT.kept k) ⟨_, rfl, hrl.kept k⟩ (by show l.un.length ≤ 1000; rw [hz]; omega))
  have HR := Lib.hid (fun (h : FewT t) W (k : Kept w W) => premove_any (ht.kept k) hok (few_fit h hok).len (few_fit h hok).un (hT.kept k) (x : Int) hI64)
  have HU := Lib.hid (fun (h : FewT t) W (k : Kept w W) => pupdate_any (l := { l with kd := 1 }) (lv := (.agg #[.int .i64 1, .int .i64 l.id, .int .i64 l.enc, .int .i64 l.sig, .int .i64 l.hash, .slice ua 0 uc])) (ht.kept k) hok (few_fit h hok).len (few_fit h hok).un (hT.kept k) ⟨_, rfl, hrl.kept k⟩ (by show l.un.length ≤ 1000; rw [hz]; omega) (x : Int) hI64)
  have HMe := Lib.hid (fun W (k : Kept w W) => rmembers_any (ht.kept k) hok)
  have HT := Lib.hid ht
  obtain ⟨ta, tc, htv, _, t9, _⟩ := ht.len
  subst htv
  unfold PAdd at HA
  unfold PTree at HR HU
  unfold MemPost at HMe
  have hmay := chkB_may.1 hc
  have hue := (upd_in hmay hlf).1 hin
  have hre := (rem_in hmay).1 hin
  rw [h2] at hre
  have hre : remE t (x : Int) = 1 := hre
  have h2i : decide ((1 : Int) < ((memL t).length : Int)) = false := by
    by_cases c : 1 < (memL t).length
    · rw [decide_eq_true c] at h2; cases h2
    · exact decide_eq_false (by omega)
  have hCy := upd_says hue
  obtain ⟨x', hx', hCx, hCl⟩ := hCy.at'
  obtain rfl : x = x' := by omega
  have hCc := hCy.chk
  have hCo := hCy.others
  have hCok := (updT_fit (i := (x : Int)) hok (mk_ok hlok)).ok
  clear ht hT hmay hlf
  go_enter Tryd.func6, Tryd.ntmps6
  go_wp2_with fail
  (with_reducible refine (HL.out _ k0).mono ?_); rintro e w1 ⟨rfl, q1⟩
  have k1 := k0.trans q1
  have bb := bb0.kept q1
  go_wp2_with fail
  (with_reducible refine (HFw.out _ k1).mono ?_); rintro e w2 ⟨r, rfl, hr, q2⟩
  have q2' := ((Kept.refl w1).alloc (.cells #[.slice ta t.length tc] 22)).trans q2
  have k2 := k1.trans q2'
  have bb := bb.kept q2'
  have c0 := bb.cell 0
  have c1 := bb.cell 1
  have c2 := bb.cell 2
  have c3 := bb.cell 3
  have c4 := bb.cell 4
  have c5 := bb.cell 5
  simp only [List.getElem?_cons_zero, List.getElem?_cons_succ] at c0 c1 c2 c3 c4 c5
  cases r with
  | false =>
    clear hr
    go_wp2
    go_ret
    exact ⟨rfl, k2⟩
  | true =>
    have hfw := hr rfl
    clear hr
    go_wp2_with fail
    (with_reducible refine (HC0.out _ k2).mono ?_); rintro e w3 ⟨rfl, q3⟩
    have k3 := k2.trans q3
    have bb := bb.kept q3
    have c0 := bb.cell 0
    have c1 := bb.cell 1
    have c2 := bb.cell 2
    have c3 := bb.cell 3
    have c4 := bb.cell 4
    have c5 := bb.cell 5
    simp only [List.getElem?_cons_zero, List.getElem?_cons_succ] at c0 c1 c2 c3 c4 c5
    have f0 := bb.frozen 0
    have HB3 := Lib.hid (bb.set 0 (.int .i64 1))
    have HK3 := Lib.hid (k3.setCell (ad := ⟨w.heap.size, 0, none⟩) (Nat.le_refl _) (.int .i64 1))
    clear bb
    go_upto_region 5 with fail
    clear c0 c1 c2 c3 c4 c5 f0
    have bb := HB3.out
    have k4 := HK3.out
    simp only [List.set_cons_zero] at bb
    generalize w3.setCell ⟨w.heap.size, 0, none⟩ (.int .i64 1) = w4 at bb k4 ⊢
    have c0 := bb.cell 0
    have c1 := bb.cell 1
    have c2 := bb.cell 2
    have c3 := bb.cell 3
    have c4 := bb.cell 4
    have c5 := bb.cell 5
    simp only [List.getElem?_cons_zero, List.getElem?_cons_succ] at c0 c1 c2 c3 c4 c5
    have hA := HA.out hfw _ k4
    generalize addI t { l with kd := 1 } = ai at hA
    generalize addE t { l with kd := 1 } = ae at hA hAe
    have HA2 := Lib.hid hA
    clear hA
    have hae : (ae == 0) = false := by rw [beq_eq_false_iff_ne]; exact hAe
    go_wp2_with fail
    (with_reducible refine (HA2.out).mono ?_); rintro e w5 ⟨vA, rfl, rA, _, q5⟩
    have k5 := k4.trans q5
    have bb := bb.kept q5
    obtain ⟨aA, cA, rfl, _, _, _⟩ := rA.len
    have HR2 := Lib.hid (HR.out hfw _ k5)
    rw [hre] at HR2
    go_wp2_with fail
    (with_reducible refine (HR2.out).mono ?_); rintro e w6 ⟨vB, rfl, rB, _, q6⟩
    have k6 := k5.trans q6
    have bb := bb.kept q6
    obtain ⟨aB, cB, rfl, _, _, _⟩ := rB.len
    have c0 := bb.cell 0
    have c1 := bb.cell 1
    have c2 := bb.cell 2
    have c3 := bb.cell 3
    have c4 := bb.cell 4
    have c5 := bb.cell 5
    simp only [List.getElem?_cons_zero, List.getElem?_cons_succ] at c0 c1 c2 c3 c4 c5
    have HU2 := Lib.hid (HU.out hfw _ k6)
    rw [hue] at HU2
    go_wp2_with fail
    (with_reducible refine (HU2.out).mono ?_); rintro e w7 ⟨vC, rfl, rC, _, q7⟩
    have k7 := k6.trans q7
    have bb := bb.kept q7
    obtain ⟨aC, cC, rfl, _, _, _⟩ := rC.len
    go_wp2_with fail
    (with_reducible refine (HMe.out _ k7).mono ?_); rintro e w8 ⟨vM, rfl, oM, q8⟩
    have k8 := k7.trans q8
    have bb := bb.kept q8
    obtain ⟨aM, cM, rfl, _, _, _⟩ := (OwnI.rd oM).len
    have HI8 := Lib.hid (inR_any (OwnI.rd oM) (n := (x : Int)) hI64)
    rw [decide_eq_true hin] at HI8
    go_wp2_with fail
    (with_reducible refine HI8.out.mono ?_); rintro e w9 ⟨rfl, rfl⟩
    have rA := ((rA.kept q6).kept q7).kept q8
    have rB := (rB.kept q7).kept q8
    have rC := rC.kept q8
    have qM := Kept.refl w8
    go_wp2_with fail
    go_quiet (fail)
    have q9 : Kept w8 (w8.drewN nq) := (Kept.refl _).drewN nq
    have k9 := k8.trans q9
    have bb := bb.kept q9
    have rB := rB.kept q9
    have rC := rC.kept q9
    clear rA oM
    generalize w8.drewN nq = w9 at q9 k9 bb rB rC ⊢
    obtain ⟨nb, no, ncp, na, nc, hnv, hnat, hnun⟩ := rC.at (k := 2 * x) hCx
    simp only [Value.slice.injEq] at hnv
    obtain ⟨rfl, -, rfl⟩ := hnv
    have HRt := Lib.hid rC
    have HBb := Lib.hid bb
    have hnat : ∀ W, Kept w9 W → TnAt W nb (no + 2 * x * 6) { l with kd := 1 } (.slice na 0 nc) := fun W q => by have := hnat W q; rw [hCl, hun0] at this; exact this
    have hnun : RdI w9 (.slice na 0 nc) l.un := by rw [hCl, hun0] at hnun; exact hnun
    have HSk := Lib.hid (fun (w' : World) (q : Kept w9 w') =>
      (show w'.cell? ⟨w.heap.size, 0, none⟩ = some (.int .i64 1) ∧ w'.cell? ⟨w.heap.size, 1, none⟩ = some (.int .i64 l.id) ∧ w'.cell? ⟨w.heap.size, 2, none⟩ = some (.int .i64 l.enc) ∧ w'.cell? ⟨w.heap.size, 3, none⟩ = some (.int .i64 l.sig) ∧ w'.cell? ⟨w.heap.size, 4, none⟩ = some (.int .i64 l.hash) ∧ w'.cell? ⟨w.heap.size, 5, none⟩ = some (.slice ua 0 uc) ∧ w'.cell? ⟨nb, no + 2 * x * 6, none⟩ = some (.int .i64 1) ∧ w'.cell? ⟨nb, no + 2 * x * 6 + 1, none⟩ = some (.int .i64 l.id) ∧ w'.cell? ⟨nb, no + 2 * x * 6 + 2, none⟩ = some (.int .i64 l.enc) ∧ w'.cell? ⟨nb, no + 2 * x * 6 + 3, none⟩ = some (.int .i64 l.sig) ∧ w'.cell? ⟨nb, no + 2 * x * 6 + 4, none⟩ = some (.int .i64 l.hash) ∧ w'.cell? ⟨nb, no + 2 * x * 6 + 5, none⟩ = some (.slice na 0 nc) from by
        have b := HBb.out.kept q
        obtain ⟨g0, g1, g2, g3, g4, g5⟩ := hnat w' q
        exact ⟨by rw [b.cell]; rfl, by rw [b.cell]; rfl, by rw [b.cell]; rfl, by rw [b.cell]; rfl, by rw [b.cell]; rfl, by rw [b.cell]; rfl, g0, g1, g2, g3, g4, g5⟩))
    have HCk2 := Lib.hid (fun W (q : Kept w9 W) => rcheck0 (HRt.out.kept q) hCok hCc)
    have HOt := Lib.hid (fun W (q : Kept w9 W) => others_any (x := (x : Int)) ((HT.out.kept k9).kept q) (HRt.out.kept q) (by have := hfw.1; omega) (fitM hCc) ⟨by have := fitM hCc; omega, by have := fitM hCc; omega⟩ hCo)
    have HSN := Lib.hid (fun W (q : Kept w9 W) => rsameN_any (u := .agg #[.int .i64 1, .int .i64 l.id, .int .i64 l.enc, .int .i64 l.sig, .int .i64 l.hash, .slice na 0 nc]) (v := .agg #[.int .i64 1, .int .i64 l.id, .int .i64 l.enc, .int .i64 l.sig, .int .i64 l.hash, .slice ua 0 uc]) (a := { l with kd := 1 }) (b := { l with kd := 1 }) ⟨_, rfl, hnun.kept q⟩ ⟨_, rfl, (hrl.kept k9).kept q⟩)
    rw [show sameNB { l with kd := 1 } { l with kd := 1 } = true from sameNB_iff.2 rfl] at HSN
    have hk0 : (0 : Int) ≤ (x : Int) := by omega
    have hk2 : 2 * (x : Int) < ((updT t (x : Int) { l with kd := 1 }).length : Int) := by omega
    have hk4 : (0 : Int) ≤ 2 * (x : Int) := by omega
    have hk5 : (2 * (x : Int)).toNat = 2 * x := by omega
    have hk6 : (x : Int) ≤ 300 := by have := fitM hCc; omega
    have hwr : IntKind.i64.wrap (2 * (x : Int)) = 2 * (x : Int) := IntWalk.i64_in _ ⟨by omega, by omega⟩
    clear hnat bb
    go_wp2_with fail
    go_region_held3 (fun w' => w'.cell? ⟨w.heap.size, 0, none⟩ = some (.int .i64 1) ∧ w'.cell? ⟨w.heap.size, 1, none⟩ = some (.int .i64 l.id) ∧ w'.cell? ⟨w.heap.size, 2, none⟩ = some (.int .i64 l.enc) ∧ w'.cell? ⟨w.heap.size, 3, none⟩ = some (.int .i64 l.sig) ∧ w'.cell? ⟨w.heap.size, 4, none⟩ = some (.int .i64 l.hash) ∧ w'.cell? ⟨w.heap.size, 5, none⟩ = some (.slice ua 0 uc) ∧ w'.cell? ⟨nb, no + 2 * x * 6, none⟩ = some (.int .i64 1) ∧ w'.cell? ⟨nb, no + 2 * x * 6 + 1, none⟩ = some (.int .i64 l.id) ∧ w'.cell? ⟨nb, no + 2 * x * 6 + 2, none⟩ = some (.int .i64 l.enc) ∧ w'.cell? ⟨nb, no + 2 * x * 6 + 3, none⟩ = some (.int .i64 l.sig) ∧ w'.cell? ⟨nb, no + 2 * x * 6 + 4, none⟩ = some (.int .i64 l.hash) ∧ w'.cell? ⟨nb, no + 2 * x * 6 + 5, none⟩ = some (.slice na 0 nc))
      (first | with_reducible exact HSk.out _ k93 | with_reducible exact HSk.out _ k92 | with_reducible exact HSk.out _ k91 | with_reducible exact HSk.out _ (Kept.refl _) | with_reducible exact HSk.out _ (Kept.refl _).drew | with_reducible exact HSk.out _ ((Kept.refl _).drewN _) | with_reducible exact HSk.out _ k93.drew | with_reducible exact HSk.out _ (k93.drewN _) | with_reducible exact HSk.out _ k92.drew | with_reducible exact HSk.out _ (k92.drewN _) | with_reducible exact HSk.out _ k91.drew | with_reducible exact HSk.out _ (k91.drewN _) | go_keep)
      (first | (go_at_call 11; (with_reducible refine (HCk2.out _ (by first | with_reducible exact Kept.refl _ | with_reducible exact (Kept.refl _).drew | with_reducible exact ((Kept.refl _).drewN _))).mono ?_); rintro e w91 ⟨rfl, q91⟩; have k91 := (show Kept w9 _ from by first | with_reducible exact Kept.refl _ | with_reducible exact (Kept.refl _).drew | with_reducible exact ((Kept.refl _).drewN _)).trans q91) | (go_at_call 28; (with_reducible refine (HOt.out _ (by first | with_reducible exact k91 | with_reducible exact k91.drew | with_reducible exact (k91.drewN _))).mono ?_); rintro e w92 ⟨rfl, q92⟩; have k92 := (show Kept w9 _ from by first | with_reducible exact k91 | with_reducible exact k91.drew | with_reducible exact (k91.drewN _)).trans q92) | (go_at_call 29; (with_reducible refine (HSN.out _ (by first | with_reducible exact k92 | with_reducible exact k92.drew | with_reducible exact (k92.drewN _))).mono ?_); rintro e w93 ⟨rfl, q93⟩; have k93 := (show Kept w9 _ from by first | with_reducible exact k92 | with_reducible exact k92.drew | with_reducible exact (k92.drewN _)).trans q93))
    have q10 : Kept w9 w93 := k93
    have k10 := k9.trans q10
    have bb := HBb.out.kept q10
    clear HCk2 HOt HSN HSk k91 k92 k93
    generalize w93 = w10 at q10 k10 bb ⊢
    go_wp2
    go_ret
    exact ⟨rfl, k10⟩
set_option maxHeartbeats 32000000 in
set_option maxRecDepth 100000 in
theorem mayw_yy {tv lv : Value} {t : List TN} {l : TN} {x : Nat} {w : World} (ht : RdTs w tv t) (hok : ∀ d ∈ t, TnOk d) (hl : RdTn w lv l) (hlok : TnOk l) (hT : Tabs w) (hI64 : I64 (x : Int)) (hc : chkB t = true) (hz : l.un.length = 0) (hin : (x : Int) ∈ memL t) (h2 : decide (1 < (memL t).length) = true) (hAe : ¬ addE t { l with kd := 1 } = 0) :
    Calls Tryd.prog 6 #[tv, .int .i64 (x : Int), lv] w fun e w' => e = .returned (.bool true) ∧ Kept w w' := by
  obtain ⟨yv, rfl, hrl⟩ := hl
  obtain ⟨ua, uc, rfl, _, _, _⟩ := hrl.len
  rw [hz] at hrl
  have hun0 : ({ l with kd := 1 } : TN).un.length = 0 := hz
  have k0 : Kept w (w.alloc (.cells #[.int .i64 l.kd, .int .i64 l.id, .int .i64 l.enc, .int .i64 l.sig, .int .i64 l.hash, .slice ua 0 uc] 32)) := (Kept.refl w).alloc _
  have bb0 : Blk (w.alloc (.cells #[.int .i64 l.kd, .int .i64 l.id, .int .i64 l.enc, .int .i64 l.sig, .int .i64 l.hash, .slice ua 0 uc] 32)) w.heap.size 32 [.int .i64 l.kd, .int .i64 l.id, .int .i64 l.enc, .int .i64 l.sig, .int .i64 l.hash, .slice ua 0 uc] := Blk.new _ _ _
  have hlf := mk_leaf hz
  have HL := Lib.hid (fun W (k : Kept w W) => live07_any W (hT.kept k))
  have HFw := Lib.hid (fun W (k : Kept w W) => few1_any (ht.kept k))
  have HC0 := Lib.hid (fun W (k : Kept w W) => rcheck0 (ht.kept k) hok hc)
  have HA := Lib.hid (fun (h : FewT t) W (k : Kept w W) => padd_any (l := { l with kd := 1 }) (lv := (.agg #[.int .i64 1, .int .i64 l.id, .int .i64 l.enc, .int .i64 l.sig, .int .i64 l.hash, .slice ua 0 uc])) (ht.kept k) hok (few_fit h hok).len (few_fit h hok).un (hT.kept k) ⟨_, rfl, hrl.kept k⟩ (by show l.un.length ≤ 1000; rw [hz]; omega))
  have HR := Lib.hid (fun (h : FewT t) W (k : Kept w W) => premove_any (ht.kept k) hok (few_fit h hok).len (few_fit h hok).un (hT.kept k) (x : Int) hI64)
  have HU := Lib.hid (fun (h : FewT t) W (k : Kept w W) => pupdate_any (l := { l with kd := 1 }) (lv := (.agg #[.int .i64 1, .int .i64 l.id, .int .i64 l.enc, .int .i64 l.sig, .int .i64 l.hash, .slice ua 0 uc])) (ht.kept k) hok (few_fit h hok).len (few_fit h hok).un (hT.kept k) ⟨_, rfl, hrl.kept k⟩ (by show l.un.length ≤ 1000; rw [hz]; omega) (x : Int) hI64)
  have HMe := Lib.hid (fun W (k : Kept w W) => rmembers_any (ht.kept k) hok)
  have HT := Lib.hid ht
  obtain ⟨ta, tc, htv, _, t9, _⟩ := ht.len
  subst htv
  unfold PAdd at HA
  unfold PTree at HR HU
  unfold MemPost at HMe
  have hmay := chkB_may.1 hc
  have hue := (upd_in hmay hlf).1 hin
  have hre := (rem_in hmay).1 hin
  rw [h2] at hre
  have hre : remE t (x : Int) = 0 := hre
  have h2i : decide ((1 : Int) < ((memL t).length : Int)) = true := by
    by_cases c : 1 < (memL t).length
    · exact decide_eq_true (by omega)
    · rw [decide_eq_false c] at h2; cases h2
  have hCy := upd_says hue
  obtain ⟨x', hx', hCx, hCl⟩ := hCy.at'
  obtain rfl : x = x' := by omega
  have hCc := hCy.chk
  have hCo := hCy.others
  have hCok := (updT_fit (i := (x : Int)) hok (mk_ok hlok)).ok
  have hBy := rem_says hre
  have hBc := hBy.chk
  have hBo := hBy.others
  have hBg := hBy.gone
  have hBok := (remT_fit (i := (x : Int)) hok).ok
  clear ht hT hmay hlf
  go_enter Tryd.func6, Tryd.ntmps6
  go_wp2_with fail
  (with_reducible refine (HL.out _ k0).mono ?_); rintro e w1 ⟨rfl, q1⟩
  have k1 := k0.trans q1
  have bb := bb0.kept q1
  go_wp2_with fail
  (with_reducible refine (HFw.out _ k1).mono ?_); rintro e w2 ⟨r, rfl, hr, q2⟩
  have q2' := ((Kept.refl w1).alloc (.cells #[.slice ta t.length tc] 22)).trans q2
  have k2 := k1.trans q2'
  have bb := bb.kept q2'
  have c0 := bb.cell 0
  have c1 := bb.cell 1
  have c2 := bb.cell 2
  have c3 := bb.cell 3
  have c4 := bb.cell 4
  have c5 := bb.cell 5
  simp only [List.getElem?_cons_zero, List.getElem?_cons_succ] at c0 c1 c2 c3 c4 c5
  cases r with
  | false =>
    clear hr
    go_wp2
    go_ret
    exact ⟨rfl, k2⟩
  | true =>
    have hfw := hr rfl
    clear hr
    go_wp2_with fail
    (with_reducible refine (HC0.out _ k2).mono ?_); rintro e w3 ⟨rfl, q3⟩
    have k3 := k2.trans q3
    have bb := bb.kept q3
    have c0 := bb.cell 0
    have c1 := bb.cell 1
    have c2 := bb.cell 2
    have c3 := bb.cell 3
    have c4 := bb.cell 4
    have c5 := bb.cell 5
    simp only [List.getElem?_cons_zero, List.getElem?_cons_succ] at c0 c1 c2 c3 c4 c5
    have f0 := bb.frozen 0
    have HB3 := Lib.hid (bb.set 0 (.int .i64 1))
    have HK3 := Lib.hid (k3.setCell (ad := ⟨w.heap.size, 0, none⟩) (Nat.le_refl _) (.int .i64 1))
    clear bb
    go_upto_region 5 with fail
    clear c0 c1 c2 c3 c4 c5 f0
    have bb := HB3.out
    have k4 := HK3.out
    simp only [List.set_cons_zero] at bb
    generalize w3.setCell ⟨w.heap.size, 0, none⟩ (.int .i64 1) = w4 at bb k4 ⊢
    have c0 := bb.cell 0
    have c1 := bb.cell 1
    have c2 := bb.cell 2
    have c3 := bb.cell 3
    have c4 := bb.cell 4
    have c5 := bb.cell 5
    simp only [List.getElem?_cons_zero, List.getElem?_cons_succ] at c0 c1 c2 c3 c4 c5
    have hA := HA.out hfw _ k4
    generalize addI t { l with kd := 1 } = ai at hA
    generalize addE t { l with kd := 1 } = ae at hA hAe
    have HA2 := Lib.hid hA
    clear hA
    have hae : (ae == 0) = false := by rw [beq_eq_false_iff_ne]; exact hAe
    go_wp2_with fail
    (with_reducible refine (HA2.out).mono ?_); rintro e w5 ⟨vA, rfl, rA, _, q5⟩
    have k5 := k4.trans q5
    have bb := bb.kept q5
    obtain ⟨aA, cA, rfl, _, _, _⟩ := rA.len
    have HR2 := Lib.hid (HR.out hfw _ k5)
    rw [hre] at HR2
    go_wp2_with fail
    (with_reducible refine (HR2.out).mono ?_); rintro e w6 ⟨vB, rfl, rB, _, q6⟩
    have k6 := k5.trans q6
    have bb := bb.kept q6
    obtain ⟨aB, cB, rfl, _, _, _⟩ := rB.len
    have c0 := bb.cell 0
    have c1 := bb.cell 1
    have c2 := bb.cell 2
    have c3 := bb.cell 3
    have c4 := bb.cell 4
    have c5 := bb.cell 5
    simp only [List.getElem?_cons_zero, List.getElem?_cons_succ] at c0 c1 c2 c3 c4 c5
    have HU2 := Lib.hid (HU.out hfw _ k6)
    rw [hue] at HU2
    go_wp2_with fail
    (with_reducible refine (HU2.out).mono ?_); rintro e w7 ⟨vC, rfl, rC, _, q7⟩
    have k7 := k6.trans q7
    have bb := bb.kept q7
    obtain ⟨aC, cC, rfl, _, _, _⟩ := rC.len
    go_wp2_with fail
    (with_reducible refine (HMe.out _ k7).mono ?_); rintro e w8 ⟨vM, rfl, oM, q8⟩
    have k8 := k7.trans q8
    have bb := bb.kept q8
    obtain ⟨aM, cM, rfl, _, _, _⟩ := (OwnI.rd oM).len
    have HI8 := Lib.hid (inR_any (OwnI.rd oM) (n := (x : Int)) hI64)
    rw [decide_eq_true hin] at HI8
    go_wp2_with fail
    (with_reducible refine HI8.out.mono ?_); rintro e w9 ⟨rfl, rfl⟩
    have rA := ((rA.kept q6).kept q7).kept q8
    have rB := (rB.kept q7).kept q8
    have rC := rC.kept q8
    have qM := Kept.refl w8
    go_wp2_with fail
    go_quiet (fail)
    have q9 : Kept w8 (w8.drewN nq) := (Kept.refl _).drewN nq
    have k9 := k8.trans q9
    have bb := bb.kept q9
    have rB := rB.kept q9
    have rC := rC.kept q9
    clear rA oM
    generalize w8.drewN nq = w9 at q9 k9 bb rB rC ⊢
    have HCb2 := Lib.hid (rcheck0 rB hBok hBc)
    go_wp2_with fail
    (with_reducible refine (HCb2.out).mono ?_); rintro e w10 ⟨rfl, q10⟩
    have k10 := k9.trans q10
    have bb := bb.kept q10
    have HOb := Lib.hid (others_any (x := (x : Int)) (HT.out.kept k10) (rB.kept q10) (by have := hfw.1; omega) (fitM hBc) hI64 hBo)
    go_wp2_with fail
    (with_reducible refine (HOb.out).mono ?_); rintro e w11 ⟨rfl, q11⟩
    have k11 := k10.trans q11
    have bb := bb.kept q11
    have HMb := Lib.hid (rmembers_any ((rB.kept q10).kept q11) hBok)
    go_wp2_with fail
    (with_reducible refine (HMb.out).mono ?_); rintro e w12 ⟨vN, rfl, oN, q12⟩
    have k12 := k11.trans q12
    have bb := bb.kept q12
    obtain ⟨aN, cN, rfl, _, _, _⟩ := (OwnI.rd oN).len
    have HIb := Lib.hid (inR_any (OwnI.rd oN) (n := (x : Int)) hI64)
    rw [decide_eq_false hBg] at HIb
    go_wp2_with fail
    (with_reducible refine HIb.out.mono ?_); rintro e w129 ⟨rfl, rfl⟩
    have rC := ((rC.kept q10).kept q11).kept q12
    obtain ⟨nb, no, ncp, na, nc, hnv, hnat, hnun⟩ := rC.at (k := 2 * x) hCx
    simp only [Value.slice.injEq] at hnv
    obtain ⟨rfl, -, rfl⟩ := hnv
    have HRt := Lib.hid rC
    have HBb := Lib.hid bb
    have hnat : ∀ W, Kept w12 W → TnAt W nb (no + 2 * x * 6) { l with kd := 1 } (.slice na 0 nc) := fun W q => by have := hnat W q; rw [hCl, hun0] at this; exact this
    have hnun : RdI w12 (.slice na 0 nc) l.un := by rw [hCl, hun0] at hnun; exact hnun
    have HSk := Lib.hid (fun (w' : World) (q : Kept w12 w') =>
      (show w'.cell? ⟨w.heap.size, 0, none⟩ = some (.int .i64 1) ∧ w'.cell? ⟨w.heap.size, 1, none⟩ = some (.int .i64 l.id) ∧ w'.cell? ⟨w.heap.size, 2, none⟩ = some (.int .i64 l.enc) ∧ w'.cell? ⟨w.heap.size, 3, none⟩ = some (.int .i64 l.sig) ∧ w'.cell? ⟨w.heap.size, 4, none⟩ = some (.int .i64 l.hash) ∧ w'.cell? ⟨w.heap.size, 5, none⟩ = some (.slice ua 0 uc) ∧ w'.cell? ⟨nb, no + 2 * x * 6, none⟩ = some (.int .i64 1) ∧ w'.cell? ⟨nb, no + 2 * x * 6 + 1, none⟩ = some (.int .i64 l.id) ∧ w'.cell? ⟨nb, no + 2 * x * 6 + 2, none⟩ = some (.int .i64 l.enc) ∧ w'.cell? ⟨nb, no + 2 * x * 6 + 3, none⟩ = some (.int .i64 l.sig) ∧ w'.cell? ⟨nb, no + 2 * x * 6 + 4, none⟩ = some (.int .i64 l.hash) ∧ w'.cell? ⟨nb, no + 2 * x * 6 + 5, none⟩ = some (.slice na 0 nc) from by
        have b := HBb.out.kept q
        obtain ⟨g0, g1, g2, g3, g4, g5⟩ := hnat w' q
        exact ⟨by rw [b.cell]; rfl, by rw [b.cell]; rfl, by rw [b.cell]; rfl, by rw [b.cell]; rfl, by rw [b.cell]; rfl, by rw [b.cell]; rfl, g0, g1, g2, g3, g4, g5⟩))
    have HCk2 := Lib.hid (fun W (q : Kept w12 W) => rcheck0 (HRt.out.kept q) hCok hCc)
    have HOt := Lib.hid (fun W (q : Kept w12 W) => others_any (x := (x : Int)) ((HT.out.kept k12).kept q) (HRt.out.kept q) (by have := hfw.1; omega) (fitM hCc) ⟨by have := fitM hCc; omega, by have := fitM hCc; omega⟩ hCo)
    have HSN := Lib.hid (fun W (q : Kept w12 W) => rsameN_any (u := .agg #[.int .i64 1, .int .i64 l.id, .int .i64 l.enc, .int .i64 l.sig, .int .i64 l.hash, .slice na 0 nc]) (v := .agg #[.int .i64 1, .int .i64 l.id, .int .i64 l.enc, .int .i64 l.sig, .int .i64 l.hash, .slice ua 0 uc]) (a := { l with kd := 1 }) (b := { l with kd := 1 }) ⟨_, rfl, hnun.kept q⟩ ⟨_, rfl, (hrl.kept k12).kept q⟩)
    rw [show sameNB { l with kd := 1 } { l with kd := 1 } = true from sameNB_iff.2 rfl] at HSN
    have hk0 : (0 : Int) ≤ (x : Int) := by omega
    have hk2 : 2 * (x : Int) < ((updT t (x : Int) { l with kd := 1 }).length : Int) := by omega
    have hk4 : (0 : Int) ≤ 2 * (x : Int) := by omega
    have hk5 : (2 * (x : Int)).toNat = 2 * x := by omega
    have hk6 : (x : Int) ≤ 300 := by have := fitM hCc; omega
    have hwr : IntKind.i64.wrap (2 * (x : Int)) = 2 * (x : Int) := IntWalk.i64_in _ ⟨by omega, by omega⟩
    clear hnat bb
    go_wp2_with fail
    go_region_held3 (fun w' => w'.cell? ⟨w.heap.size, 0, none⟩ = some (.int .i64 1) ∧ w'.cell? ⟨w.heap.size, 1, none⟩ = some (.int .i64 l.id) ∧ w'.cell? ⟨w.heap.size, 2, none⟩ = some (.int .i64 l.enc) ∧ w'.cell? ⟨w.heap.size, 3, none⟩ = some (.int .i64 l.sig) ∧ w'.cell? ⟨w.heap.size, 4, none⟩ = some (.int .i64 l.hash) ∧ w'.cell? ⟨w.heap.size, 5, none⟩ = some (.slice ua 0 uc) ∧ w'.cell? ⟨nb, no + 2 * x * 6, none⟩ = some (.int .i64 1) ∧ w'.cell? ⟨nb, no + 2 * x * 6 + 1, none⟩ = some (.int .i64 l.id) ∧ w'.cell? ⟨nb, no + 2 * x * 6 + 2, none⟩ = some (.int .i64 l.enc) ∧ w'.cell? ⟨nb, no + 2 * x * 6 + 3, none⟩ = some (.int .i64 l.sig) ∧ w'.cell? ⟨nb, no + 2 * x * 6 + 4, none⟩ = some (.int .i64 l.hash) ∧ w'.cell? ⟨nb, no + 2 * x * 6 + 5, none⟩ = some (.slice na 0 nc))
      (first | with_reducible exact HSk.out _ k123 | with_reducible exact HSk.out _ k122 | with_reducible exact HSk.out _ k121 | with_reducible exact HSk.out _ (Kept.refl _) | with_reducible exact HSk.out _ (Kept.refl _).drew | with_reducible exact HSk.out _ ((Kept.refl _).drewN _) | with_reducible exact HSk.out _ k123.drew | with_reducible exact HSk.out _ (k123.drewN _) | with_reducible exact HSk.out _ k122.drew | with_reducible exact HSk.out _ (k122.drewN _) | with_reducible exact HSk.out _ k121.drew | with_reducible exact HSk.out _ (k121.drewN _) | go_keep)
      (first | (go_at_call 11; (with_reducible refine (HCk2.out _ (by first | with_reducible exact Kept.refl _ | with_reducible exact (Kept.refl _).drew | with_reducible exact ((Kept.refl _).drewN _))).mono ?_); rintro e w121 ⟨rfl, q121⟩; have k121 := (show Kept w12 _ from by first | with_reducible exact Kept.refl _ | with_reducible exact (Kept.refl _).drew | with_reducible exact ((Kept.refl _).drewN _)).trans q121) | (go_at_call 28; (with_reducible refine (HOt.out _ (by first | with_reducible exact k121 | with_reducible exact k121.drew | with_reducible exact (k121.drewN _))).mono ?_); rintro e w122 ⟨rfl, q122⟩; have k122 := (show Kept w12 _ from by first | with_reducible exact k121 | with_reducible exact k121.drew | with_reducible exact (k121.drewN _)).trans q122) | (go_at_call 29; (with_reducible refine (HSN.out _ (by first | with_reducible exact k122 | with_reducible exact k122.drew | with_reducible exact (k122.drewN _))).mono ?_); rintro e w123 ⟨rfl, q123⟩; have k123 := (show Kept w12 _ from by first | with_reducible exact k122 | with_reducible exact k122.drew | with_reducible exact (k122.drewN _)).trans q123))
    have q13 : Kept w12 w123 := k123
    have k13 := k12.trans q13
    have bb := HBb.out.kept q13
    clear HCk2 HOt HSN HSk k121 k122 k123
    generalize w123 = w13 at q13 k13 bb ⊢
    go_wp2
    go_ret
    exact ⟨rfl, k13⟩
set_option maxHeartbeats 32000000 in
set_option maxRecDepth 100000 in
theorem mayw_n {tv lv : Value} {t : List TN} {l : TN} {i : Int} {w : World} (ht : RdTs w tv t) (hok : ∀ d ∈ t, TnOk d) (hl : RdTn w lv l) (hlok : TnOk l) (hT : Tabs w) (hI64 : I64 i) (hc : chkB t = true) (hz : l.un.length = 0) (hin : i ∉ memL t) (hAe : ¬ addE t { l with kd := 1 } = 0) :
    Calls Tryd.prog 6 #[tv, .int .i64 i, lv] w fun e w' => e = .returned (.bool true) ∧ Kept w w' := by
  obtain ⟨yv, rfl, hrl⟩ := hl
  obtain ⟨ua, uc, rfl, _, _, _⟩ := hrl.len
  rw [hz] at hrl
  have hun0 : ({ l with kd := 1 } : TN).un.length = 0 := hz
  have k0 : Kept w (w.alloc (.cells #[.int .i64 l.kd, .int .i64 l.id, .int .i64 l.enc, .int .i64 l.sig, .int .i64 l.hash, .slice ua 0 uc] 32)) := (Kept.refl w).alloc _
  have bb0 : Blk (w.alloc (.cells #[.int .i64 l.kd, .int .i64 l.id, .int .i64 l.enc, .int .i64 l.sig, .int .i64 l.hash, .slice ua 0 uc] 32)) w.heap.size 32 [.int .i64 l.kd, .int .i64 l.id, .int .i64 l.enc, .int .i64 l.sig, .int .i64 l.hash, .slice ua 0 uc] := Blk.new _ _ _
  have hlf := mk_leaf hz
  have HL := Lib.hid (fun W (k : Kept w W) => live07_any W (hT.kept k))
  have HFw := Lib.hid (fun W (k : Kept w W) => few1_any (ht.kept k))
  have HC0 := Lib.hid (fun W (k : Kept w W) => rcheck0 (ht.kept k) hok hc)
  have HA := Lib.hid (fun (h : FewT t) W (k : Kept w W) => padd_any (l := { l with kd := 1 }) (lv := (.agg #[.int .i64 1, .int .i64 l.id, .int .i64 l.enc, .int .i64 l.sig, .int .i64 l.hash, .slice ua 0 uc])) (ht.kept k) hok (few_fit h hok).len (few_fit h hok).un (hT.kept k) ⟨_, rfl, hrl.kept k⟩ (by show l.un.length ≤ 1000; rw [hz]; omega))
  have HR := Lib.hid (fun (h : FewT t) W (k : Kept w W) => premove_any (ht.kept k) hok (few_fit h hok).len (few_fit h hok).un (hT.kept k) i hI64)
  have HU := Lib.hid (fun (h : FewT t) W (k : Kept w W) => pupdate_any (l := { l with kd := 1 }) (lv := (.agg #[.int .i64 1, .int .i64 l.id, .int .i64 l.enc, .int .i64 l.sig, .int .i64 l.hash, .slice ua 0 uc])) (ht.kept k) hok (few_fit h hok).len (few_fit h hok).un (hT.kept k) ⟨_, rfl, hrl.kept k⟩ (by show l.un.length ≤ 1000; rw [hz]; omega) i hI64)
  have HMe := Lib.hid (fun W (k : Kept w W) => rmembers_any (ht.kept k) hok)
  have HT := Lib.hid ht
  obtain ⟨ta, tc, htv, _, t9, _⟩ := ht.len
  subst htv
  unfold PAdd at HA
  unfold PTree at HR HU
  unfold MemPost at HMe
  have hmay := chkB_may.1 hc
  have hue := (upd_in hmay hlf).2 hin
  have hre := (rem_in hmay).2 hin
  clear ht hT hmay hlf
  go_enter Tryd.func6, Tryd.ntmps6
  go_wp2_with fail
  (with_reducible refine (HL.out _ k0).mono ?_); rintro e w1 ⟨rfl, q1⟩
  have k1 := k0.trans q1
  have bb := bb0.kept q1
  go_wp2_with fail
  (with_reducible refine (HFw.out _ k1).mono ?_); rintro e w2 ⟨r, rfl, hr, q2⟩
  have q2' := ((Kept.refl w1).alloc (.cells #[.slice ta t.length tc] 22)).trans q2
  have k2 := k1.trans q2'
  have bb := bb.kept q2'
  have c0 := bb.cell 0
  have c1 := bb.cell 1
  have c2 := bb.cell 2
  have c3 := bb.cell 3
  have c4 := bb.cell 4
  have c5 := bb.cell 5
  simp only [List.getElem?_cons_zero, List.getElem?_cons_succ] at c0 c1 c2 c3 c4 c5
  cases r with
  | false =>
    clear hr
    go_wp2
    go_ret
    exact ⟨rfl, k2⟩
  | true =>
    have hfw := hr rfl
    clear hr
    go_wp2_with fail
    (with_reducible refine (HC0.out _ k2).mono ?_); rintro e w3 ⟨rfl, q3⟩
    have k3 := k2.trans q3
    have bb := bb.kept q3
    have c0 := bb.cell 0
    have c1 := bb.cell 1
    have c2 := bb.cell 2
    have c3 := bb.cell 3
    have c4 := bb.cell 4
    have c5 := bb.cell 5
    simp only [List.getElem?_cons_zero, List.getElem?_cons_succ] at c0 c1 c2 c3 c4 c5
    have f0 := bb.frozen 0
    have HB3 := Lib.hid (bb.set 0 (.int .i64 1))
    have HK3 := Lib.hid (k3.setCell (ad := ⟨w.heap.size, 0, none⟩) (Nat.le_refl _) (.int .i64 1))
    clear bb
    go_upto_region 5 with fail
    clear c0 c1 c2 c3 c4 c5 f0
    have bb := HB3.out
    have k4 := HK3.out
    simp only [List.set_cons_zero] at bb
    generalize w3.setCell ⟨w.heap.size, 0, none⟩ (.int .i64 1) = w4 at bb k4 ⊢
    have c0 := bb.cell 0
    have c1 := bb.cell 1
    have c2 := bb.cell 2
    have c3 := bb.cell 3
    have c4 := bb.cell 4
    have c5 := bb.cell 5
    simp only [List.getElem?_cons_zero, List.getElem?_cons_succ] at c0 c1 c2 c3 c4 c5
    have hA := HA.out hfw _ k4
    generalize addI t { l with kd := 1 } = ai at hA
    generalize addE t { l with kd := 1 } = ae at hA hAe
    have HA2 := Lib.hid hA
    clear hA
    have hae : (ae == 0) = false := by rw [beq_eq_false_iff_ne]; exact hAe
    go_wp2_with fail
    (with_reducible refine (HA2.out).mono ?_); rintro e w5 ⟨vA, rfl, rA, _, q5⟩
    have k5 := k4.trans q5
    have bb := bb.kept q5
    obtain ⟨aA, cA, rfl, _, _, _⟩ := rA.len
    have HR2 := Lib.hid (HR.out hfw _ k5)
    rw [hre] at HR2
    go_wp2_with fail
    (with_reducible refine (HR2.out).mono ?_); rintro e w6 ⟨vB, rfl, rB, _, q6⟩
    have k6 := k5.trans q6
    have bb := bb.kept q6
    obtain ⟨aB, cB, rfl, _, _, _⟩ := rB.len
    have c0 := bb.cell 0
    have c1 := bb.cell 1
    have c2 := bb.cell 2
    have c3 := bb.cell 3
    have c4 := bb.cell 4
    have c5 := bb.cell 5
    simp only [List.getElem?_cons_zero, List.getElem?_cons_succ] at c0 c1 c2 c3 c4 c5
    have HU2 := Lib.hid (HU.out hfw _ k6)
    rw [hue] at HU2
    go_wp2_with fail
    (with_reducible refine (HU2.out).mono ?_); rintro e w7 ⟨vC, rfl, rC, _, q7⟩
    have k7 := k6.trans q7
    have bb := bb.kept q7
    obtain ⟨aC, cC, rfl, _, _, _⟩ := rC.len
    go_wp2_with fail
    (with_reducible refine (HMe.out _ k7).mono ?_); rintro e w8 ⟨vM, rfl, oM, q8⟩
    have k8 := k7.trans q8
    have bb := bb.kept q8
    obtain ⟨aM, cM, rfl, _, _, _⟩ := (OwnI.rd oM).len
    have HI8 := Lib.hid (inR_any (OwnI.rd oM) (n := i) hI64)
    rw [decide_eq_false hin] at HI8
    go_wp2_with fail
    (with_reducible refine HI8.out.mono ?_); rintro e w9 ⟨rfl, rfl⟩
    have rA := ((rA.kept q6).kept q7).kept q8
    have rB := (rB.kept q7).kept q8
    have rC := rC.kept q8
    have qM := Kept.refl w8
    go_wp2_with fail
    go_quiet (fail)
    have q9 : Kept w8 (w8.drewN nq) := (Kept.refl _).drewN nq
    have k9 := k8.trans q9
    have bb := bb.kept q9
    have rB := rB.kept q9
    have rC := rC.kept q9
    clear rA oM
    generalize w8.drewN nq = w9 at q9 k9 bb rB rC ⊢
    go_wp2_with fail
    go_quiet (fail)
    go_wp2
    go_ret
    exact ⟨rfl, k9.drewN _⟩
end Go.Proofs.YtlmpejfkpidbeaaDoor
end

section
/- The walk of the statement RatchetMay (written by gen_may.py). -/
set_option linter.unusedSimpArgs false
set_option linter.unusedVariables false
namespace Go.Proofs.YtlmpejfkpidbeaaDoor
open Go.RowKit
open Rt

set_option maxHeartbeats 32000000 in
set_option maxRecDepth 100000 in
theorem mayw_yna {tv lv : Value} {t : List TN} {l : TN} {x : Nat} {w : World} (ht : RdTs w tv t) (hok : ∀ d ∈ t, TnOk d) (hl : RdTn w lv l) (hlok : TnOk l) (hT : Tabs w) (hI64 : I64 (x : Int)) (hc : chkB t = true) (hz : l.un.length = 0) (hin : (x : Int) ∈ memL t) (h2 : decide (1 < (memL t).length) = false) (hAe : addE t { l with kd := 1 } = 0) :
    Calls Tryd.prog 6 #[tv, .int .i64 (x : Int), lv] w fun e w' => e = .returned (.bool true) ∧ Kept w w' := by
  obtain ⟨yv, rfl, hrl⟩ := hl
  obtain ⟨ua, uc, rfl, _, _, _⟩ := hrl.len
  rw [hz] at hrl
  have hun0 : ({ l with kd := 1 } : TN).un.length = 0 := hz
  have k0 : Kept w (w.alloc (.cells #[.int .i64 l.kd, .int .i64 l.id, .int .i64 l.enc, .int .i64 l.sig, .int .i64 l.hash, .slice ua 0 uc] 32)) := (Kept.refl w).alloc _
  have bb0 : Blk (w.alloc (.cells #[.int .i64 l.kd, .int .i64 l.id, .int .i64 l.enc, .int .i64 l.sig, .int .i64 l.hash, .slice ua 0 uc] 32)) w.heap.size 32 [.int .i64 l.kd, .int .i64 l.id, .int .i64 l.enc, .int .i64 l.sig, .int .i64 l.hash, .slice ua 0 uc] := Blk.new _ _ _
  have hlf := mk_leaf hz
  have HL := Lib.hid (fun W (k : Kept w W) => live07_any W (hT.kept k))
  have HFw := Lib.hid (fun W (k : Kept w W) => few1_any (ht.kept k))
  have HC0 := Lib.hid (fun W (k : Kept w W) => rcheck0 (ht.kept k) hok hc)
  have HA := Lib.hid (fun (h : FewT t) W (k : Kept w W) => padd_any (l := { l with kd := 1 }) (lv := (.agg #[.int .i64 1, .int .i64 l.id, .int .i64 l.enc, .int .i64 l.sig, .int .i64 l.hash, .slice ua 0 uc])) (ht.kept k) hok (few_fit h hok).len (few_fit h hok).un (hT.kept k) ⟨_, rfl, hrl.kept k⟩ (by show l.un.length ≤ 1000; rw [hz]; omega))
  have HR := Lib.hid (fun (h : FewT t) W (k : Kept w W) => premove_any (ht.kept k) hok (few_fit h hok).len (few_fit h hok).un (hT.kept k) (x : Int) hI64)
  have HU := Lib.hid (fun (h : FewT t) W (k : Kept w W) => pupdate_any (l := { l with kd := 1 }) (lv := (.agg #[.int .i64 1, .int .i64 l.id, .int .i64 l.enc, .int .i64 l.sig, .int .i64 l.hash, .slice ua 0 uc])) (ht.kept k) hok (few_fit h hok).len (few_fit h hok).un (hT.kept k) ⟨_, rfl, hrl.kept k⟩ (by show l.un.length ≤ 1000; rw [hz]; omega) (x : Int) hI64)
  have HMe := Lib.hid (fun W (k : Kept w W) => rmembers_any (ht.kept k) hok)
  have HT := Lib.hid ht
  obtain ⟨ta, tc, htv, _, t9, _⟩ := ht.len
  subst htv
  unfold PAdd at HA
  unfold PTree at HR HU
  unfold MemPost at HMe
  have hmay := chkB_may.1 hc
  have hue := (upd_in hmay hlf).1 hin
  have hre := (rem_in hmay).1 hin
  rw [h2] at hre
  have hre : remE t (x : Int) = 1 := hre
  have h2i : decide ((1 : Int) < ((memL t).length : Int)) = false := by
    by_cases c : 1 < (memL t).length
    · rw [decide_eq_true c] at h2; cases h2
    · exact decide_eq_false (by omega)
  have hAy := add_says hAe
  obtain ⟨k, hAi, hAx, hAl⟩ := hAy.at'
  have hAc := hAy.chk
  have hAf := hAy.free
  have hAo := hAy.others
  rw [hAi] at hAf hAo
  have hAok := (addT_fit hok (mk_ok hlok)).ok
  have hCy := upd_says hue
  obtain ⟨x', hx', hCx, hCl⟩ := hCy.at'
  obtain rfl : x = x' := by omega
  have hCc := hCy.chk
  have hCo := hCy.others
  have hCok := (updT_fit (i := (x : Int)) hok (mk_ok hlok)).ok
  clear ht hT hmay hAy hlf
  go_enter Tryd.func6, Tryd.ntmps6
  go_wp2_with fail
  (with_reducible refine (HL.out _ k0).mono ?_); rintro e w1 ⟨rfl, q1⟩
  have k1 := k0.trans q1
  have bb := bb0.kept q1
  go_wp2_with fail
  (with_reducible refine (HFw.out _ k1).mono ?_); rintro e w2 ⟨r, rfl, hr, q2⟩
  have q2' := ((Kept.refl w1).alloc (.cells #[.slice ta t.length tc] 22)).trans q2
  have k2 := k1.trans q2'
  have bb := bb.kept q2'
  have c0 := bb.cell 0
  have c1 := bb.cell 1
  have c2 := bb.cell 2
  have c3 := bb.cell 3
  have c4 := bb.cell 4
  have c5 := bb.cell 5
  simp only [List.getElem?_cons_zero, List.getElem?_cons_succ] at c0 c1 c2 c3 c4 c5
  cases r with
  | false =>
    clear hr
    go_wp2
    go_ret
    exact ⟨rfl, k2⟩
  | true =>
    have hfw := hr rfl
    clear hr
    go_wp2_with fail
    (with_reducible refine (HC0.out _ k2).mono ?_); rintro e w3 ⟨rfl, q3⟩
    have k3 := k2.trans q3
    have bb := bb.kept q3
    have c0 := bb.cell 0
    have c1 := bb.cell 1
    have c2 := bb.cell 2
    have c3 := bb.cell 3
    have c4 := bb.cell 4
    have c5 := bb.cell 5
    simp only [List.getElem?_cons_zero, List.getElem?_cons_succ] at c0 c1 c2 c3 c4 c5
    have f0 := bb.frozen 0
    have HB3 := Lib.hid (bb.set 0 (.int .i64 1))
    have HK3 := Lib.hid (k3.setCell (ad := ⟨w.heap.size, 0, none⟩) (Nat.le_refl _) (.int .i64 1))
    clear bb
    go_upto_region 5 with fail
    clear c0 c1 c2 c3 c4 c5 f0
    have bb := HB3.out
    have k4 := HK3.out
    simp only [List.set_cons_zero] at bb
    generalize w3.setCell ⟨w.heap.size, 0, none⟩ (.int .i64 1) = w4 at bb k4 ⊢
    have c0 := bb.cell 0
    have c1 := bb.cell 1
    have c2 := bb.cell 2
    have c3 := bb.cell 3
    have c4 := bb.cell 4
    have c5 := bb.cell 5
    simp only [List.getElem?_cons_zero, List.getElem?_cons_succ] at c0 c1 c2 c3 c4 c5
    have hA := HA.out hfw _ k4
    rw [hAe, hAi] at hA
    have HA2 := Lib.hid hA
    clear hA
    go_wp2_with fail
    (with_reducible refine (HA2.out).mono ?_); rintro e w5 ⟨vA, rfl, rA, _, q5⟩
    have k5 := k4.trans q5
    have bb := bb.kept q5
    obtain ⟨aA, cA, rfl, _, _, _⟩ := rA.len
    have HR2 := Lib.hid (HR.out hfw _ k5)
    rw [hre] at HR2
    go_wp2_with fail
    (with_reducible refine (HR2.out).mono ?_); rintro e w6 ⟨vB, rfl, rB, _, q6⟩
    have k6 := k5.trans q6
    have bb := bb.kept q6
    obtain ⟨aB, cB, rfl, _, _, _⟩ := rB.len
    have c0 := bb.cell 0
    have c1 := bb.cell 1
    have c2 := bb.cell 2
    have c3 := bb.cell 3
    have c4 := bb.cell 4
    have c5 := bb.cell 5
    simp only [List.getElem?_cons_zero, List.getElem?_cons_succ] at c0 c1 c2 c3 c4 c5
    have HU2 := Lib.hid (HU.out hfw _ k6)
    rw [hue] at HU2
    go_wp2_with fail
    (with_reducible refine (HU2.out).mono ?_); rintro e w7 ⟨vC, rfl, rC, _, q7⟩
    have k7 := k6.trans q7
    have bb := bb.kept q7
    obtain ⟨aC, cC, rfl, _, _, _⟩ := rC.len
    go_wp2_with fail
    (with_reducible refine (HMe.out _ k7).mono ?_); rintro e w8 ⟨vM, rfl, oM, q8⟩
    have k8 := k7.trans q8
    have bb := bb.kept q8
    obtain ⟨aM, cM, rfl, _, _, _⟩ := (OwnI.rd oM).len
    have HI8 := Lib.hid (inR_any (OwnI.rd oM) (n := (x : Int)) hI64)
    rw [decide_eq_true hin] at HI8
    go_wp2_with fail
    (with_reducible refine HI8.out.mono ?_); rintro e w9 ⟨rfl, rfl⟩
    have rA := ((rA.kept q6).kept q7).kept q8
    have rB := (rB.kept q7).kept q8
    have rC := rC.kept q8
    have qM := Kept.refl w8
    obtain ⟨nb, no, ncp, na, nc, hnv, hnat, hnun⟩ := rA.at (k := 2 * k) hAx
    simp only [Value.slice.injEq] at hnv
    obtain ⟨rfl, -, rfl⟩ := hnv
    have HRt := Lib.hid rA
    have HBb := Lib.hid bb
    have hnat : ∀ W, Kept w8 W → TnAt W nb (no + 2 * k * 6) { l with kd := 1 } (.slice na 0 nc) := fun W q => by have := hnat W q; rw [hAl, hun0] at this; exact this
    have hnun : RdI w8 (.slice na 0 nc) l.un := by rw [hAl, hun0] at hnun; exact hnun
    have HSk := Lib.hid (fun (w' : World) (q : Kept w8 w') =>
      (show w'.cell? ⟨w.heap.size, 0, none⟩ = some (.int .i64 1) ∧ w'.cell? ⟨w.heap.size, 1, none⟩ = some (.int .i64 l.id) ∧ w'.cell? ⟨w.heap.size, 2, none⟩ = some (.int .i64 l.enc) ∧ w'.cell? ⟨w.heap.size, 3, none⟩ = some (.int .i64 l.sig) ∧ w'.cell? ⟨w.heap.size, 4, none⟩ = some (.int .i64 l.hash) ∧ w'.cell? ⟨w.heap.size, 5, none⟩ = some (.slice ua 0 uc) ∧ w'.cell? ⟨nb, no + 2 * k * 6, none⟩ = some (.int .i64 1) ∧ w'.cell? ⟨nb, no + 2 * k * 6 + 1, none⟩ = some (.int .i64 l.id) ∧ w'.cell? ⟨nb, no + 2 * k * 6 + 2, none⟩ = some (.int .i64 l.enc) ∧ w'.cell? ⟨nb, no + 2 * k * 6 + 3, none⟩ = some (.int .i64 l.sig) ∧ w'.cell? ⟨nb, no + 2 * k * 6 + 4, none⟩ = some (.int .i64 l.hash) ∧ w'.cell? ⟨nb, no + 2 * k * 6 + 5, none⟩ = some (.slice na 0 nc) from by
        have b := HBb.out.kept q
        obtain ⟨g0, g1, g2, g3, g4, g5⟩ := hnat w' q
        exact ⟨by rw [b.cell]; rfl, by rw [b.cell]; rfl, by rw [b.cell]; rfl, by rw [b.cell]; rfl, by rw [b.cell]; rfl, by rw [b.cell]; rfl, g0, g1, g2, g3, g4, g5⟩))
    have HCk2 := Lib.hid (fun W (q : Kept w8 W) => rcheck0 (HRt.out.kept q) hAok hAc)
    have HOt := Lib.hid (fun W (q : Kept w8 W) => others_any (x := (k : Int)) ((HT.out.kept k8).kept q) (HRt.out.kept q) (by have := hfw.1; omega) (fitM hAc) ⟨by have := fitM hAc; omega, by have := fitM hAc; omega⟩ hAo)
    have HIn := Lib.hid (fun W (q : Kept w8 W) => inR_any ((OwnI.rd oM).kept (qM.trans q)) (n := (k : Int)) ⟨by have := fitM hAc; omega, by have := fitM hAc; omega⟩)
    rw [decide_eq_false hAf] at HIn
    have HSN := Lib.hid (fun W (q : Kept w8 W) => rsameN_any (u := .agg #[.int .i64 1, .int .i64 l.id, .int .i64 l.enc, .int .i64 l.sig, .int .i64 l.hash, .slice na 0 nc]) (v := .agg #[.int .i64 1, .int .i64 l.id, .int .i64 l.enc, .int .i64 l.sig, .int .i64 l.hash, .slice ua 0 uc]) (a := { l with kd := 1 }) (b := { l with kd := 1 }) ⟨_, rfl, hnun.kept q⟩ ⟨_, rfl, (hrl.kept k8).kept q⟩)
    rw [show sameNB { l with kd := 1 } { l with kd := 1 } = true from sameNB_iff.2 rfl] at HSN
    have hk0 : (0 : Int) ≤ (k : Int) := by omega
    have hk2 : 2 * (k : Int) < ((addT t { l with kd := 1 }).length : Int) := by omega
    have hk4 : (0 : Int) ≤ 2 * (k : Int) := by omega
    have hk5 : (2 * (k : Int)).toNat = 2 * k := by omega
    have hk6 : (k : Int) ≤ 300 := by have := fitM hAc; omega
    have hwr : IntKind.i64.wrap (2 * (k : Int)) = 2 * (k : Int) := IntWalk.i64_in _ ⟨by omega, by omega⟩
    clear hnat bb
    go_wp2_with fail
    go_region_held3 (fun w' => w'.cell? ⟨w.heap.size, 0, none⟩ = some (.int .i64 1) ∧ w'.cell? ⟨w.heap.size, 1, none⟩ = some (.int .i64 l.id) ∧ w'.cell? ⟨w.heap.size, 2, none⟩ = some (.int .i64 l.enc) ∧ w'.cell? ⟨w.heap.size, 3, none⟩ = some (.int .i64 l.sig) ∧ w'.cell? ⟨w.heap.size, 4, none⟩ = some (.int .i64 l.hash) ∧ w'.cell? ⟨w.heap.size, 5, none⟩ = some (.slice ua 0 uc) ∧ w'.cell? ⟨nb, no + 2 * k * 6, none⟩ = some (.int .i64 1) ∧ w'.cell? ⟨nb, no + 2 * k * 6 + 1, none⟩ = some (.int .i64 l.id) ∧ w'.cell? ⟨nb, no + 2 * k * 6 + 2, none⟩ = some (.int .i64 l.enc) ∧ w'.cell? ⟨nb, no + 2 * k * 6 + 3, none⟩ = some (.int .i64 l.sig) ∧ w'.cell? ⟨nb, no + 2 * k * 6 + 4, none⟩ = some (.int .i64 l.hash) ∧ w'.cell? ⟨nb, no + 2 * k * 6 + 5, none⟩ = some (.slice na 0 nc))
      (first | with_reducible exact HSk.out _ k83 | with_reducible exact HSk.out _ k82 | with_reducible exact HSk.out _ k81 | with_reducible exact HSk.out _ (Kept.refl _) | with_reducible exact HSk.out _ (Kept.refl _).drew | with_reducible exact HSk.out _ ((Kept.refl _).drewN _) | with_reducible exact HSk.out _ k83.drew | with_reducible exact HSk.out _ (k83.drewN _) | with_reducible exact HSk.out _ k82.drew | with_reducible exact HSk.out _ (k82.drewN _) | with_reducible exact HSk.out _ k81.drew | with_reducible exact HSk.out _ (k81.drewN _) | go_keep)
      (first | (go_at_call 11; (with_reducible refine (HCk2.out _ (by first | with_reducible exact Kept.refl _ | with_reducible exact (Kept.refl _).drew | with_reducible exact ((Kept.refl _).drewN _))).mono ?_); rintro e w81 ⟨rfl, q81⟩; have k81 := (show Kept w8 _ from by first | with_reducible exact Kept.refl _ | with_reducible exact (Kept.refl _).drew | with_reducible exact ((Kept.refl _).drewN _)).trans q81) | (go_at_call 27; (with_reducible refine (HIn.out _ (by first | with_reducible exact k81 | with_reducible exact k81.drew | with_reducible exact (k81.drewN _))).mono ?_); rintro e w84 ⟨rfl, rfl⟩) | (go_at_call 28; (with_reducible refine (HOt.out _ (by first | with_reducible exact k81 | with_reducible exact k81.drew | with_reducible exact (k81.drewN _))).mono ?_); rintro e w82 ⟨rfl, q82⟩; have k82 := (show Kept w8 _ from by first | with_reducible exact k81 | with_reducible exact k81.drew | with_reducible exact (k81.drewN _)).trans q82) | (go_at_call 29; (with_reducible refine (HSN.out _ (by first | with_reducible exact k82 | with_reducible exact k82.drew | with_reducible exact (k82.drewN _))).mono ?_); rintro e w83 ⟨rfl, q83⟩; have k83 := (show Kept w8 _ from by first | with_reducible exact k82 | with_reducible exact k82.drew | with_reducible exact (k82.drewN _)).trans q83))
    have q9 : Kept w8 w83 := k83
    have k9 := k8.trans q9
    have bb := HBb.out.kept q9
    clear HCk2 HOt HSN HSk k81 k82 k83
    generalize w83 = w9 at q9 k9 bb ⊢
    have rB := rB.kept q9
    have rC := rC.kept q9
    obtain ⟨nb, no, ncp, na, nc, hnv, hnat, hnun⟩ := rC.at (k := 2 * x) hCx
    simp only [Value.slice.injEq] at hnv
    obtain ⟨rfl, -, rfl⟩ := hnv
    have HRt := Lib.hid rC
    have HBb := Lib.hid bb
    have hnat : ∀ W, Kept w9 W → TnAt W nb (no + 2 * x * 6) { l with kd := 1 } (.slice na 0 nc) := fun W q => by have := hnat W q; rw [hCl, hun0] at this; exact this
    have hnun : RdI w9 (.slice na 0 nc) l.un := by rw [hCl, hun0] at hnun; exact hnun
    have HSk := Lib.hid (fun (w' : World) (q : Kept w9 w') =>
      (show w'.cell? ⟨w.heap.size, 0, none⟩ = some (.int .i64 1) ∧ w'.cell? ⟨w.heap.size, 1, none⟩ = some (.int .i64 l.id) ∧ w'.cell? ⟨w.heap.size, 2, none⟩ = some (.int .i64 l.enc) ∧ w'.cell? ⟨w.heap.size, 3, none⟩ = some (.int .i64 l.sig) ∧ w'.cell? ⟨w.heap.size, 4, none⟩ = some (.int .i64 l.hash) ∧ w'.cell? ⟨w.heap.size, 5, none⟩ = some (.slice ua 0 uc) ∧ w'.cell? ⟨nb, no + 2 * x * 6, none⟩ = some (.int .i64 1) ∧ w'.cell? ⟨nb, no + 2 * x * 6 + 1, none⟩ = some (.int .i64 l.id) ∧ w'.cell? ⟨nb, no + 2 * x * 6 + 2, none⟩ = some (.int .i64 l.enc) ∧ w'.cell? ⟨nb, no + 2 * x * 6 + 3, none⟩ = some (.int .i64 l.sig) ∧ w'.cell? ⟨nb, no + 2 * x * 6 + 4, none⟩ = some (.int .i64 l.hash) ∧ w'.cell? ⟨nb, no + 2 * x * 6 + 5, none⟩ = some (.slice na 0 nc) from by
        have b := HBb.out.kept q
        obtain ⟨g0, g1, g2, g3, g4, g5⟩ := hnat w' q
        exact ⟨by rw [b.cell]; rfl, by rw [b.cell]; rfl, by rw [b.cell]; rfl, by rw [b.cell]; rfl, by rw [b.cell]; rfl, by rw [b.cell]; rfl, g0, g1, g2, g3, g4, g5⟩))
    have HCk2 := Lib.hid (fun W (q : Kept w9 W) => rcheck0 (HRt.out.kept q) hCok hCc)
    have HOt := Lib.hid (fun W (q : Kept w9 W) => others_any (x := (x : Int)) ((HT.out.kept k9).kept q) (HRt.out.kept q) (by have := hfw.1; omega) (fitM hCc) ⟨by have := fitM hCc; omega, by have := fitM hCc; omega⟩ hCo)
    have HSN := Lib.hid (fun W (q : Kept w9 W) => rsameN_any (u := .agg #[.int .i64 1, .int .i64 l.id, .int .i64 l.enc, .int .i64 l.sig, .int .i64 l.hash, .slice na 0 nc]) (v := .agg #[.int .i64 1, .int .i64 l.id, .int .i64 l.enc, .int .i64 l.sig, .int .i64 l.hash, .slice ua 0 uc]) (a := { l with kd := 1 }) (b := { l with kd := 1 }) ⟨_, rfl, hnun.kept q⟩ ⟨_, rfl, (hrl.kept k9).kept q⟩)
    rw [show sameNB { l with kd := 1 } { l with kd := 1 } = true from sameNB_iff.2 rfl] at HSN
    have hk0 : (0 : Int) ≤ (x : Int) := by omega
    have hk2 : 2 * (x : Int) < ((updT t (x : Int) { l with kd := 1 }).length : Int) := by omega
    have hk4 : (0 : Int) ≤ 2 * (x : Int) := by omega
    have hk5 : (2 * (x : Int)).toNat = 2 * x := by omega
    have hk6 : (x : Int) ≤ 300 := by have := fitM hCc; omega
    have hwr : IntKind.i64.wrap (2 * (x : Int)) = 2 * (x : Int) := IntWalk.i64_in _ ⟨by omega, by omega⟩
    clear hnat bb
    go_wp2_with fail
    go_region_held3 (fun w' => w'.cell? ⟨w.heap.size, 0, none⟩ = some (.int .i64 1) ∧ w'.cell? ⟨w.heap.size, 1, none⟩ = some (.int .i64 l.id) ∧ w'.cell? ⟨w.heap.size, 2, none⟩ = some (.int .i64 l.enc) ∧ w'.cell? ⟨w.heap.size, 3, none⟩ = some (.int .i64 l.sig) ∧ w'.cell? ⟨w.heap.size, 4, none⟩ = some (.int .i64 l.hash) ∧ w'.cell? ⟨w.heap.size, 5, none⟩ = some (.slice ua 0 uc) ∧ w'.cell? ⟨nb, no + 2 * x * 6, none⟩ = some (.int .i64 1) ∧ w'.cell? ⟨nb, no + 2 * x * 6 + 1, none⟩ = some (.int .i64 l.id) ∧ w'.cell? ⟨nb, no + 2 * x * 6 + 2, none⟩ = some (.int .i64 l.enc) ∧ w'.cell? ⟨nb, no + 2 * x * 6 + 3, none⟩ = some (.int .i64 l.sig) ∧ w'.cell? ⟨nb, no + 2 * x * 6 + 4, none⟩ = some (.int .i64 l.hash) ∧ w'.cell? ⟨nb, no + 2 * x * 6 + 5, none⟩ = some (.slice na 0 nc))
      (first | with_reducible exact HSk.out _ k93 | with_reducible exact HSk.out _ k92 | with_reducible exact HSk.out _ k91 | with_reducible exact HSk.out _ (Kept.refl _) | with_reducible exact HSk.out _ (Kept.refl _).drew | with_reducible exact HSk.out _ ((Kept.refl _).drewN _) | with_reducible exact HSk.out _ k93.drew | with_reducible exact HSk.out _ (k93.drewN _) | with_reducible exact HSk.out _ k92.drew | with_reducible exact HSk.out _ (k92.drewN _) | with_reducible exact HSk.out _ k91.drew | with_reducible exact HSk.out _ (k91.drewN _) | go_keep)
      (first | (go_at_call 11; (with_reducible refine (HCk2.out _ (by first | with_reducible exact Kept.refl _ | with_reducible exact (Kept.refl _).drew | with_reducible exact ((Kept.refl _).drewN _))).mono ?_); rintro e w91 ⟨rfl, q91⟩; have k91 := (show Kept w9 _ from by first | with_reducible exact Kept.refl _ | with_reducible exact (Kept.refl _).drew | with_reducible exact ((Kept.refl _).drewN _)).trans q91) | (go_at_call 28; (with_reducible refine (HOt.out _ (by first | with_reducible exact k91 | with_reducible exact k91.drew | with_reducible exact (k91.drewN _))).mono ?_); rintro e w92 ⟨rfl, q92⟩; have k92 := (show Kept w9 _ from by first | with_reducible exact k91 | with_reducible exact k91.drew | with_reducible exact (k91.drewN _)).trans q92) | (go_at_call 29; (with_reducible refine (HSN.out _ (by first | with_reducible exact k92 | with_reducible exact k92.drew | with_reducible exact (k92.drewN _))).mono ?_); rintro e w93 ⟨rfl, q93⟩; have k93 := (show Kept w9 _ from by first | with_reducible exact k92 | with_reducible exact k92.drew | with_reducible exact (k92.drewN _)).trans q93))
    have q10 : Kept w9 w93 := k93
    have k10 := k9.trans q10
    have bb := HBb.out.kept q10
    clear HCk2 HOt HSN HSk k91 k92 k93
    generalize w93 = w10 at q10 k10 bb ⊢
    go_wp2
    go_ret
    exact ⟨rfl, k10⟩
set_option maxHeartbeats 32000000 in
set_option maxRecDepth 100000 in
theorem mayw_yya {tv lv : Value} {t : List TN} {l : TN} {x : Nat} {w : World} (ht : RdTs w tv t) (hok : ∀ d ∈ t, TnOk d) (hl : RdTn w lv l) (hlok : TnOk l) (hT : Tabs w) (hI64 : I64 (x : Int)) (hc : chkB t = true) (hz : l.un.length = 0) (hin : (x : Int) ∈ memL t) (h2 : decide (1 < (memL t).length) = true) (hAe : addE t { l with kd := 1 } = 0) :
    Calls Tryd.prog 6 #[tv, .int .i64 (x : Int), lv] w fun e w' => e = .returned (.bool true) ∧ Kept w w' := by
  obtain ⟨yv, rfl, hrl⟩ := hl
  obtain ⟨ua, uc, rfl, _, _, _⟩ := hrl.len
  rw [hz] at hrl
  have hun0 : ({ l with kd := 1 } : TN).un.length = 0 := hz
  have k0 : Kept w (w.alloc (.cells #[.int .i64 l.kd, .int .i64 l.id, .int .i64 l.enc, .int .i64 l.sig, .int .i64 l.hash, .slice ua 0 uc] 32)) := (Kept.refl w).alloc _
  have bb0 : Blk (w.alloc (.cells #[.int .i64 l.kd, .int .i64 l.id, .int .i64 l.enc, .int .i64 l.sig, .int .i64 l.hash, .slice ua 0 uc] 32)) w.heap.size 32 [.int .i64 l.kd, .int .i64 l.id, .int .i64 l.enc, .int .i64 l.sig, .int .i64 l.hash, .slice ua 0 uc] := Blk.new _ _ _
  have hlf := mk_leaf hz
  have HL := Lib.hid (fun W (k : Kept w W) => live07_any W (hT.kept k))
  have HFw := Lib.hid (fun W (k : Kept w W) => few1_any (ht.kept k))
  have HC0 := Lib.hid (fun W (k : Kept w W) => rcheck0 (ht.kept k) hok hc)
  have HA := Lib.hid (fun (h : FewT t) W (k : Kept w W) => padd_any (l := { l with kd := 1 }) (lv := (.agg #[.int .i64 1, .int .i64 l.id, .int .i64 l.enc, .int .i64 l.sig, .int .i64 l.hash, .slice ua 0 uc])) (ht.kept k) hok (few_fit h hok).len (few_fit h hok).un (hT.kept k) ⟨_, rfl, hrl.kept k⟩ (by show l.un.length ≤ 1000; rw [hz]; omega))
  have HR := Lib.hid (fun (h : FewT t) W (k : Kept w W) => premove_any (ht.kept k) hok (few_fit h hok).len (few_fit h hok).un (hT.kept k) (x : Int) hI64)
  have HU := Lib.hid (fun (h : FewT t) W (k : Kept w W) => pupdate_any (l := { l with kd := 1 }) (lv := (.agg #[.int .i64 1, .int .i64 l.id, .int .i64 l.enc, .int .i64 l.sig, .int .i64 l.hash, .slice ua 0 uc])) (ht.kept k) hok (few_fit h hok).len (few_fit h hok).un (hT.kept k) ⟨_, rfl, hrl.kept k⟩ (by show l.un.length ≤ 1000; rw [hz]; omega) (x : Int) hI64)
  have HMe := Lib.hid (fun W (k : Kept w W) => rmembers_any (ht.kept k) hok)
  have HT := Lib.hid ht
  obtain ⟨ta, tc, htv, _, t9, _⟩ := ht.len
  subst htv
  unfold PAdd at HA
  unfold PTree at HR HU
  unfold MemPost at HMe
  have hmay := chkB_may.1 hc
  have hue := (upd_in hmay hlf).1 hin
  have hre := (rem_in hmay).1 hin
  rw [h2] at hre
  have hre : remE t (x : Int) = 0 := hre
  have h2i : decide ((1 : Int) < ((memL t).length : Int)) = true := by
    by_cases c : 1 < (memL t).length
    · exact decide_eq_true (by omega)
    · rw [decide_eq_false c] at h2; cases h2
  have hAy := add_says hAe
  obtain ⟨k, hAi, hAx, hAl⟩ := hAy.at'
  have hAc := hAy.chk
  have hAf := hAy.free
  have hAo := hAy.others
  rw [hAi] at hAf hAo
  have hAok := (addT_fit hok (mk_ok hlok)).ok
  have hCy := upd_says hue
  obtain ⟨x', hx', hCx, hCl⟩ := hCy.at'
  obtain rfl : x = x' := by omega
  have hCc := hCy.chk
  have hCo := hCy.others
  have hCok := (updT_fit (i := (x : Int)) hok (mk_ok hlok)).ok
  have hBy := rem_says hre
  have hBc := hBy.chk
  have hBo := hBy.others
  have hBg := hBy.gone
  have hBok := (remT_fit (i := (x : Int)) hok).ok
  clear ht hT hmay hAy hlf
  go_enter Tryd.func6, Tryd.ntmps6
  go_wp2_with fail
  (with_reducible refine (HL.out _ k0).mono ?_); rintro e w1 ⟨rfl, q1⟩
  have k1 := k0.trans q1
  have bb := bb0.kept q1
  go_wp2_with fail
  (with_reducible refine (HFw.out _ k1).mono ?_); rintro e w2 ⟨r, rfl, hr, q2⟩
  have q2' := ((Kept.refl w1).alloc (.cells #[.slice ta t.length tc] 22)).trans q2
  have k2 := k1.trans q2'
  have bb := bb.kept q2'
  have c0 := bb.cell 0
  have c1 := bb.cell 1
  have c2 := bb.cell 2
  have c3 := bb.cell 3
  have c4 := bb.cell 4
  have c5 := bb.cell 5
  simp only [List.getElem?_cons_zero, List.getElem?_cons_succ] at c0 c1 c2 c3 c4 c5
  cases r with
  | false =>
    clear hr
    go_wp2
    go_ret
    exact ⟨rfl, k2⟩
  | true =>
    have hfw := hr rfl
    clear hr
    go_wp2_with fail
    (with_reducible refine (HC0.out _ k2).mono ?_); rintro e w3 ⟨rfl, q3⟩
    have k3 := k2.trans q3
    have bb := bb.kept q3
    have c0 := bb.cell 0
    have c1 := bb.cell 1
    have c2 := bb.cell 2
    have c3 := bb.cell 3
    have c4 := bb.cell 4
    have c5 := bb.cell 5
    simp only [List.getElem?_cons_zero, List.getElem?_cons_succ] at c0 c1 c2 c3 c4 c5
    have f0 := bb.frozen 0
    have HB3 := Lib.hid (bb.set 0 (.int .i64 1))
    have HK3 := Lib.hid (k3.setCell (ad := ⟨w.heap.size, 0, none⟩) (Nat.le_refl _) (.int .i64 1))
    clear bb
    go_upto_region 5 with fail
    clear c0 c1 c2 c3 c4 c5 f0
    have bb := HB3.out
    have k4 := HK3.out
    simp only [List.set_cons_zero] at bb
    generalize w3.setCell ⟨w.heap.size, 0, none⟩ (.int .i64 1) = w4 at bb k4 ⊢
    have c0 := bb.cell 0
    have c1 := bb.cell 1
    have c2 := bb.cell 2
    have c3 := bb.cell 3
    have c4 := bb.cell 4
    have c5 := bb.cell 5
    simp only [List.getElem?_cons_zero, List.getElem?_cons_succ] at c0 c1 c2 c3 c4 c5
    have hA := HA.out hfw _ k4
    rw [hAe, hAi] at hA
    have HA2 := Lib.hid hA
    clear hA
    go_wp2_with fail
    (with_reducible refine (HA2.out).mono ?_); rintro e w5 ⟨vA, rfl, rA, _, q5⟩
    have k5 := k4.trans q5
    have bb := bb.kept q5
    obtain ⟨aA, cA, rfl, _, _, _⟩ := rA.len
    have HR2 := Lib.hid (HR.out hfw _ k5)
    rw [hre] at HR2
    go_wp2_with fail
    (with_reducible refine (HR2.out).mono ?_); rintro e w6 ⟨vB, rfl, rB, _, q6⟩
    have k6 := k5.trans q6
    have bb := bb.kept q6
    obtain ⟨aB, cB, rfl, _, _, _⟩ := rB.len
    have c0 := bb.cell 0
    have c1 := bb.cell 1
    have c2 := bb.cell 2
    have c3 := bb.cell 3
    have c4 := bb.cell 4
    have c5 := bb.cell 5
    simp only [List.getElem?_cons_zero, List.getElem?_cons_succ] at c0 c1 c2 c3 c4 c5
    have HU2 := Lib.hid (HU.out hfw _ k6)
    rw [hue] at HU2
    go_wp2_with fail
    (with_reducible refine (HU2.out).mono ?_); rintro e w7 ⟨vC, rfl, rC, _, q7⟩
    have k7 := k6.trans q7
    have bb := bb.kept q7
    obtain ⟨aC, cC, rfl, _, _, _⟩ := rC.len
    go_wp2_with fail
    (with_reducible refine (HMe.out _ k7).mono ?_); rintro e w8 ⟨vM, rfl, oM, q8⟩
    have k8 := k7.trans q8
    have bb := bb.kept q8
    obtain ⟨aM, cM, rfl, _, _, _⟩ := (OwnI.rd oM).len
    have HI8 := Lib.hid (inR_any (OwnI.rd oM) (n := (x : Int)) hI64)
    rw [decide_eq_true hin] at HI8
    go_wp2_with fail
    (with_reducible refine HI8.out.mono ?_); rintro e w9 ⟨rfl, rfl⟩
    have rA := ((rA.kept q6).kept q7).kept q8
    have rB := (rB.kept q7).kept q8
    have rC := rC.kept q8
    have qM := Kept.refl w8
    obtain ⟨nb, no, ncp, na, nc, hnv, hnat, hnun⟩ := rA.at (k := 2 * k) hAx
    simp only [Value.slice.injEq] at hnv
    obtain ⟨rfl, -, rfl⟩ := hnv
    have HRt := Lib.hid rA
    have HBb := Lib.hid bb
    have hnat : ∀ W, Kept w8 W → TnAt W nb (no + 2 * k * 6) { l with kd := 1 } (.slice na 0 nc) := fun W q => by have := hnat W q; rw [hAl, hun0] at this; exact this
    have hnun : RdI w8 (.slice na 0 nc) l.un := by rw [hAl, hun0] at hnun; exact hnun
    have HSk := Lib.hid (fun (w' : World) (q : Kept w8 w') =>
      (show w'.cell? ⟨w.heap.size, 0, none⟩ = some (.int .i64 1) ∧ w'.cell? ⟨w.heap.size, 1, none⟩ = some (.int .i64 l.id) ∧ w'.cell? ⟨w.heap.size, 2, none⟩ = some (.int .i64 l.enc) ∧ w'.cell? ⟨w.heap.size, 3, none⟩ = some (.int .i64 l.sig) ∧ w'.cell? ⟨w.heap.size, 4, none⟩ = some (.int .i64 l.hash) ∧ w'.cell? ⟨w.heap.size, 5, none⟩ = some (.slice ua 0 uc) ∧ w'.cell? ⟨nb, no + 2 * k * 6, none⟩ = some (.int .i64 1) ∧ w'.cell? ⟨nb, no + 2 * k * 6 + 1, none⟩ = some (.int .i64 l.id) ∧ w'.cell? ⟨nb, no + 2 * k * 6 + 2, none⟩ = some (.int .i64 l.enc) ∧ w'.cell? ⟨nb, no + 2 * k * 6 + 3, none⟩ = some (.int .i64 l.sig) ∧ w'.cell? ⟨nb, no + 2 * k * 6 + 4, none⟩ = some (.int .i64 l.hash) ∧ w'.cell? ⟨nb, no + 2 * k * 6 + 5, none⟩ = some (.slice na 0 nc) from by
        have b := HBb.out.kept q
        obtain ⟨g0, g1, g2, g3, g4, g5⟩ := hnat w' q
        exact ⟨by rw [b.cell]; rfl, by rw [b.cell]; rfl, by rw [b.cell]; rfl, by rw [b.cell]; rfl, by rw [b.cell]; rfl, by rw [b.cell]; rfl, g0, g1, g2, g3, g4, g5⟩))
    have HCk2 := Lib.hid (fun W (q : Kept w8 W) => rcheck0 (HRt.out.kept q) hAok hAc)
    have HOt := Lib.hid (fun W (q : Kept w8 W) => others_any (x := (k : Int)) ((HT.out.kept k8).kept q) (HRt.out.kept q) (by have := hfw.1; omega) (fitM hAc) ⟨by have := fitM hAc; omega, by have := fitM hAc; omega⟩ hAo)
    have HIn := Lib.hid (fun W (q : Kept w8 W) => inR_any ((OwnI.rd oM).kept (qM.trans q)) (n := (k : Int)) ⟨by have := fitM hAc; omega, by have := fitM hAc; omega⟩)
    rw [decide_eq_false hAf] at HIn
    have HSN := Lib.hid (fun W (q : Kept w8 W) => rsameN_any (u := .agg #[.int .i64 1, .int .i64 l.id, .int .i64 l.enc, .int .i64 l.sig, .int .i64 l.hash, .slice na 0 nc]) (v := .agg #[.int .i64 1, .int .i64 l.id, .int .i64 l.enc, .int .i64 l.sig, .int .i64 l.hash, .slice ua 0 uc]) (a := { l with kd := 1 }) (b := { l with kd := 1 }) ⟨_, rfl, hnun.kept q⟩ ⟨_, rfl, (hrl.kept k8).kept q⟩)
    rw [show sameNB { l with kd := 1 } { l with kd := 1 } = true from sameNB_iff.2 rfl] at HSN
    have hk0 : (0 : Int) ≤ (k : Int) := by omega
    have hk2 : 2 * (k : Int) < ((addT t { l with kd := 1 }).length : Int) := by omega
    have hk4 : (0 : Int) ≤ 2 * (k : Int) := by omega
    have hk5 : (2 * (k : Int)).toNat = 2 * k := by omega
    have hk6 : (k : Int) ≤ 300 := by have := fitM hAc; omega
    have hwr : IntKind.i64.wrap (2 * (k : Int)) = 2 * (k : Int) := IntWalk.i64_in _ ⟨by omega, by omega⟩
    clear hnat bb
    go_wp2_with fail
    go_region_held3 (fun w' => w'.cell? ⟨w.heap.size, 0, none⟩ = some (.int .i64 1) ∧ w'.cell? ⟨w.heap.size, 1, none⟩ = some (.int .i64 l.id) ∧ w'.cell? ⟨w.heap.size, 2, none⟩ = some (.int .i64 l.enc) ∧ w'.cell? ⟨w.heap.size, 3, none⟩ = some (.int .i64 l.sig) ∧ w'.cell? ⟨w.heap.size, 4, none⟩ = some (.int .i64 l.hash) ∧ w'.cell? ⟨w.heap.size, 5, none⟩ = some (.slice ua 0 uc) ∧ w'.cell? ⟨nb, no + 2 * k * 6, none⟩ = some (.int .i64 1) ∧ w'.cell? ⟨nb, no + 2 * k * 6 + 1, none⟩ = some (.int .i64 l.id) ∧ w'.cell? ⟨nb, no + 2 * k * 6 + 2, none⟩ = some (.int .i64 l.enc) ∧ w'.cell? ⟨nb, no + 2 * k * 6 + 3, none⟩ = some (.int .i64 l.sig) ∧ w'.cell? ⟨nb, no + 2 * k * 6 + 4, none⟩ = some (.int .i64 l.hash) ∧ w'.cell? ⟨nb, no + 2 * k * 6 + 5, none⟩ = some (.slice na 0 nc))
      (first | with_reducible exact HSk.out _ k83 | with_reducible exact HSk.out _ k82 | with_reducible exact HSk.out _ k81 | with_reducible exact HSk.out _ (Kept.refl _) | with_reducible exact HSk.out _ (Kept.refl _).drew | with_reducible exact HSk.out _ ((Kept.refl _).drewN _) | with_reducible exact HSk.out _ k83.drew | with_reducible exact HSk.out _ (k83.drewN _) | with_reducible exact HSk.out _ k82.drew | with_reducible exact HSk.out _ (k82.drewN _) | with_reducible exact HSk.out _ k81.drew | with_reducible exact HSk.out _ (k81.drewN _) | go_keep)
      (first | (go_at_call 11; (with_reducible refine (HCk2.out _ (by first | with_reducible exact Kept.refl _ | with_reducible exact (Kept.refl _).drew | with_reducible exact ((Kept.refl _).drewN _))).mono ?_); rintro e w81 ⟨rfl, q81⟩; have k81 := (show Kept w8 _ from by first | with_reducible exact Kept.refl _ | with_reducible exact (Kept.refl _).drew | with_reducible exact ((Kept.refl _).drewN _)).trans q81) | (go_at_call 27; (with_reducible refine (HIn.out _ (by first | with_reducible exact k81 | with_reducible exact k81.drew | with_reducible exact (k81.drewN _))).mono ?_); rintro e w84 ⟨rfl, rfl⟩) | (go_at_call 28; (with_reducible refine (HOt.out _ (by first | with_reducible exact k81 | with_reducible exact k81.drew | with_reducible exact (k81.drewN _))).mono ?_); rintro e w82 ⟨rfl, q82⟩; have k82 := (show Kept w8 _ from by first | with_reducible exact k81 | with_reducible exact k81.drew | with_reducible exact (k81.drewN _)).trans q82) | (go_at_call 29; (with_reducible refine (HSN.out _ (by first | with_reducible exact k82 | with_reducible exact k82.drew | with_reducible exact (k82.drewN _))).mono ?_); rintro e w83 ⟨rfl, q83⟩; have k83 := (show Kept w8 _ from by first | with_reducible exact k82 | with_reducible exact k82.drew | with_reducible exact (k82.drewN _)).trans q83))
    have q9 : Kept w8 w83 := k83
    have k9 := k8.trans q9
    have bb := HBb.out.kept q9
    clear HCk2 HOt HSN HSk k81 k82 k83
    generalize w83 = w9 at q9 k9 bb ⊢
    have rB := rB.kept q9
    have rC := rC.kept q9
    have HCb2 := Lib.hid (rcheck0 rB hBok hBc)
    go_wp2_with fail
    (with_reducible refine (HCb2.out).mono ?_); rintro e w10 ⟨rfl, q10⟩
    have k10 := k9.trans q10
    have bb := bb.kept q10
    have HOb := Lib.hid (others_any (x := (x : Int)) (HT.out.kept k10) (rB.kept q10) (by have := hfw.1; omega) (fitM hBc) hI64 hBo)
    go_wp2_with fail
    (with_reducible refine (HOb.out).mono ?_); rintro e w11 ⟨rfl, q11⟩
    have k11 := k10.trans q11
    have bb := bb.kept q11
    have HMb := Lib.hid (rmembers_any ((rB.kept q10).kept q11) hBok)
    go_wp2_with fail
    (with_reducible refine (HMb.out).mono ?_); rintro e w12 ⟨vN, rfl, oN, q12⟩
    have k12 := k11.trans q12
    have bb := bb.kept q12
    obtain ⟨aN, cN, rfl, _, _, _⟩ := (OwnI.rd oN).len
    have HIb := Lib.hid (inR_any (OwnI.rd oN) (n := (x : Int)) hI64)
    rw [decide_eq_false hBg] at HIb
    go_wp2_with fail
    (with_reducible refine HIb.out.mono ?_); rintro e w129 ⟨rfl, rfl⟩
    have rC := ((rC.kept q10).kept q11).kept q12
    obtain ⟨nb, no, ncp, na, nc, hnv, hnat, hnun⟩ := rC.at (k := 2 * x) hCx
    simp only [Value.slice.injEq] at hnv
    obtain ⟨rfl, -, rfl⟩ := hnv
    have HRt := Lib.hid rC
    have HBb := Lib.hid bb
    have hnat : ∀ W, Kept w12 W → TnAt W nb (no + 2 * x * 6) { l with kd := 1 } (.slice na 0 nc) := fun W q => by have := hnat W q; rw [hCl, hun0] at this; exact this
    have hnun : RdI w12 (.slice na 0 nc) l.un := by rw [hCl, hun0] at hnun; exact hnun
    have HSk := Lib.hid (fun (w' : World) (q : Kept w12 w') =>
      (show w'.cell? ⟨w.heap.size, 0, none⟩ = some (.int .i64 1) ∧ w'.cell? ⟨w.heap.size, 1, none⟩ = some (.int .i64 l.id) ∧ w'.cell? ⟨w.heap.size, 2, none⟩ = some (.int .i64 l.enc) ∧ w'.cell? ⟨w.heap.size, 3, none⟩ = some (.int .i64 l.sig) ∧ w'.cell? ⟨w.heap.size, 4, none⟩ = some (.int .i64 l.hash) ∧ w'.cell? ⟨w.heap.size, 5, none⟩ = some (.slice ua 0 uc) ∧ w'.cell? ⟨nb, no + 2 * x * 6, none⟩ = some (.int .i64 1) ∧ w'.cell? ⟨nb, no + 2 * x * 6 + 1, none⟩ = some (.int .i64 l.id) ∧ w'.cell? ⟨nb, no + 2 * x * 6 + 2, none⟩ = some (.int .i64 l.enc) ∧ w'.cell? ⟨nb, no + 2 * x * 6 + 3, none⟩ = some (.int .i64 l.sig) ∧ w'.cell? ⟨nb, no + 2 * x * 6 + 4, none⟩ = some (.int .i64 l.hash) ∧ w'.cell? ⟨nb, no + 2 * x * 6 + 5, none⟩ = some (.slice na 0 nc) from by
        have b := HBb.out.kept q
        obtain ⟨g0, g1, g2, g3, g4, g5⟩ := hnat w' q
        exact ⟨by rw [b.cell]; rfl, by rw [b.cell]; rfl, by rw [b.cell]; rfl, by rw [b.cell]; rfl, by rw [b.cell]; rfl, by rw [b.cell]; rfl, g0, g1, g2, g3, g4, g5⟩))
    have HCk2 := Lib.hid (fun W (q : Kept w12 W) => rcheck0 (HRt.out.kept q) hCok hCc)
    have HOt := Lib.hid (fun W (q : Kept w12 W) => others_any (x := (x : Int)) ((HT.out.kept k12).kept q) (HRt.out.kept q) (by have := hfw.1; omega) (fitM hCc) ⟨by have := fitM hCc; omega, by have := fitM hCc; omega⟩ hCo)
    have HSN := Lib.hid (fun W (q : Kept w12 W) => rsameN_any (u := .agg #[.int .i64 1, .int .i64 l.id, .int .i64 l.enc, .int .i64 l.sig, .int .i64 l.hash, .slice na 0 nc]) (v := .agg #[.int .i64 1, .int .i64 l.id, .int .i64 l.enc, .int .i64 l.sig, .int .i64 l.hash, .slice ua 0 uc]) (a := { l with kd := 1 }) (b := { l with kd := 1 }) ⟨_, rfl, hnun.kept q⟩ ⟨_, rfl, (hrl.kept k12).kept q⟩)
    rw [show sameNB { l with kd := 1 } { l with kd := 1 } = true from sameNB_iff.2 rfl] at HSN
    have hk0 : (0 : Int) ≤ (x : Int) := by omega
    have hk2 : 2 * (x : Int) < ((updT t (x : Int) { l with kd := 1 }).length : Int) := by omega
    have hk4 : (0 : Int) ≤ 2 * (x : Int) := by omega
    have hk5 : (2 * (x : Int)).toNat = 2 * x := by omega
    have hk6 : (x : Int) ≤ 300 := by have := fitM hCc; omega
    have hwr : IntKind.i64.wrap (2 * (x : Int)) = 2 * (x : Int) := IntWalk.i64_in _ ⟨by omega, by omega⟩
    clear hnat bb
    go_wp2_with fail
    go_region_held3 (fun w' => w'.cell? ⟨w.heap.size, 0, none⟩ = some (.int .i64 1) ∧ w'.cell? ⟨w.heap.size, 1, none⟩ = some (.int .i64 l.id) ∧ w'.cell? ⟨w.heap.size, 2, none⟩ = some (.int .i64 l.enc) ∧ w'.cell? ⟨w.heap.size, 3, none⟩ = some (.int .i64 l.sig) ∧ w'.cell? ⟨w.heap.size, 4, none⟩ = some (.int .i64 l.hash) ∧ w'.cell? ⟨w.heap.size, 5, none⟩ = some (.slice ua 0 uc) ∧ w'.cell? ⟨nb, no + 2 * x * 6, none⟩ = some (.int .i64 1) ∧ w'.cell? ⟨nb, no + 2 * x * 6 + 1, none⟩ = some (.int .i64 l.id) ∧ w'.cell? ⟨nb, no + 2 * x * 6 + 2, none⟩ = some (.int .i64 l.enc) ∧ w'.cell? ⟨nb, no + 2 * x * 6 + 3, none⟩ = some (.int .i64 l.sig) ∧ w'.cell? ⟨nb, no + 2 * x * 6 + 4, none⟩ = some (.int .i64 l.hash) ∧ w'.cell? ⟨nb, no + 2 * x * 6 + 5, none⟩ = some (.slice na 0 nc))
      (first | with_reducible exact HSk.out _ k123 | with_reducible exact HSk.out _ k122 | with_reducible exact HSk.out _ k121 | with_reducible exact HSk.out _ (Kept.refl _) | with_reducible exact HSk.out _ (Kept.refl _).drew | with_reducible exact HSk.out _ ((Kept.refl _).drewN _) | with_reducible exact HSk.out _ k123.drew | with_reducible exact HSk.out _ (k123.drewN _) | with_reducible exact HSk.out _ k122.drew | with_reducible exact HSk.out _ (k122.drewN _) | with_reducible exact HSk.out _ k121.drew | with_reducible exact HSk.out _ (k121.drewN _) | go_keep)
      (first | (go_at_call 11; (with_reducible refine (HCk2.out _ (by first | with_reducible exact Kept.refl _ | with_reducible exact (Kept.refl _).drew | with_reducible exact ((Kept.refl _).drewN _))).mono ?_); rintro e w121 ⟨rfl, q121⟩; have k121 := (show Kept w12 _ from by first | with_reducible exact Kept.refl _ | with_reducible exact (Kept.refl _).drew | with_reducible exact ((Kept.refl _).drewN _)).trans q121) | (go_at_call 28; (with_reducible refine (HOt.out _ (by first | with_reducible exact k121 | with_reducible exact k121.drew | with_reducible exact (k121.drewN _))).mono ?_); rintro e w122 ⟨rfl, q122⟩; have k122 := (show Kept w12 _ from by first | with_reducible exact k121 | with_reducible exact k121.drew | with_reducible exact (k121.drewN _)).trans q122) | (go_at_call 29; (with_reducible refine (HSN.out _ (by first | with_reducible exact k122 | with_reducible exact k122.drew | with_reducible exact (k122.drewN _))).mono ?_); rintro e w123 ⟨rfl, q123⟩; have k123 := (show Kept w12 _ from by first | with_reducible exact k122 | with_reducible exact k122.drew | with_reducible exact (k122.drewN _)).trans q123))
    have q13 : Kept w12 w123 := k123
    have k13 := k12.trans q13
    have bb := HBb.out.kept q13
    clear HCk2 HOt HSN HSk k121 k122 k123
    generalize w123 = w13 at q13 k13 bb ⊢
    go_wp2
    go_ret
    exact ⟨rfl, k13⟩
end Go.Proofs.YtlmpejfkpidbeaaDoor
end

section
/- The walk of the statement RatchetMay (written by gen_may.py). -/
set_option linter.unusedSimpArgs false
set_option linter.unusedVariables false
namespace Go.Proofs.YtlmpejfkpidbeaaDoor
open Go.RowKit
open Rt

set_option maxHeartbeats 32000000 in
set_option maxRecDepth 100000 in
theorem mayw_na {tv lv : Value} {t : List TN} {l : TN} {i : Int} {w : World} (ht : RdTs w tv t) (hok : ∀ d ∈ t, TnOk d) (hl : RdTn w lv l) (hlok : TnOk l) (hT : Tabs w) (hI64 : I64 i) (hc : chkB t = true) (hz : l.un.length = 0) (hin : i ∉ memL t) (hAe : addE t { l with kd := 1 } = 0) :
    Calls Tryd.prog 6 #[tv, .int .i64 i, lv] w fun e w' => e = .returned (.bool true) ∧ Kept w w' := by
  obtain ⟨yv, rfl, hrl⟩ := hl
  obtain ⟨ua, uc, rfl, _, _, _⟩ := hrl.len
  rw [hz] at hrl
  have hun0 : ({ l with kd := 1 } : TN).un.length = 0 := hz
  have k0 : Kept w (w.alloc (.cells #[.int .i64 l.kd, .int .i64 l.id, .int .i64 l.enc, .int .i64 l.sig, .int .i64 l.hash, .slice ua 0 uc] 32)) := (Kept.refl w).alloc _
  have bb0 : Blk (w.alloc (.cells #[.int .i64 l.kd, .int .i64 l.id, .int .i64 l.enc, .int .i64 l.sig, .int .i64 l.hash, .slice ua 0 uc] 32)) w.heap.size 32 [.int .i64 l.kd, .int .i64 l.id, .int .i64 l.enc, .int .i64 l.sig, .int .i64 l.hash, .slice ua 0 uc] := Blk.new _ _ _
  have hlf := mk_leaf hz
  have HL := Lib.hid (fun W (k : Kept w W) => live07_any W (hT.kept k))
  have HFw := Lib.hid (fun W (k : Kept w W) => few1_any (ht.kept k))
  have HC0 := Lib.hid (fun W (k : Kept w W) => rcheck0 (ht.kept k) hok hc)
  have HA := Lib.hid (fun (h : FewT t) W (k : Kept w W) => padd_any (l := { l with kd := 1 }) (lv := (.agg #[.int .i64 1, .int .i64 l.id, .int .i64 l.enc, .int .i64 l.sig, .int .i64 l.hash, .slice ua 0 uc])) (ht.kept k) hok (few_fit h hok).len (few_fit h hok).un (hT.kept k) ⟨_, rfl, hrl.kept k⟩ (by show l.un.length ≤ 1000; rw [hz]; omega))
  have HR := Lib.hid (fun (h : FewT t) W (k : Kept w W) => premove_any (ht.kept k) hok (few_fit h hok).len (few_fit h hok).un (hT.kept k) i hI64)
  have HU := Lib.hid (fun (h : FewT t) W (k : Kept w W) => pupdate_any (l := { l with kd := 1 }) (lv := (.agg #[.int .i64 1, .int .i64 l.id, .int .i64 l.enc, .int .i64 l.sig, .int .i64 l.hash, .slice ua 0 uc])) (ht.kept k) hok (few_fit h hok).len (few_fit h hok).un (hT.kept k) ⟨_, rfl, hrl.kept k⟩ (by show l.un.length ≤ 1000; rw [hz]; omega) i hI64)
  have HMe := Lib.hid (fun W (k : Kept w W) => rmembers_any (ht.kept k) hok)
  have HT := Lib.hid ht
  obtain ⟨ta, tc, htv, _, t9, _⟩ := ht.len
  subst htv
  unfold PAdd at HA
  unfold PTree at HR HU
  unfold MemPost at HMe
  have hmay := chkB_may.1 hc
  have hue := (upd_in hmay hlf).2 hin
  have hre := (rem_in hmay).2 hin
  have hAy := add_says hAe
  obtain ⟨k, hAi, hAx, hAl⟩ := hAy.at'
  have hAc := hAy.chk
  have hAf := hAy.free
  have hAo := hAy.others
  rw [hAi] at hAf hAo
  have hAok := (addT_fit hok (mk_ok hlok)).ok
  clear ht hT hmay hAy hlf
  go_enter Tryd.func6, Tryd.ntmps6
  go_wp2_with fail
  (with_reducible refine (HL.out _ k0).mono ?_); rintro e w1 ⟨rfl, q1⟩
  have k1 := k0.trans q1
  have bb := bb0.kept q1
  go_wp2_with fail
  (with_reducible refine (HFw.out _ k1).mono ?_); rintro e w2 ⟨r, rfl, hr, q2⟩
  have q2' := ((Kept.refl w1).alloc (.cells #[.slice ta t.length tc] 22)).trans q2
  have k2 := k1.trans q2'
  have bb := bb.kept q2'
  have c0 := bb.cell 0
  have c1 := bb.cell 1
  have c2 := bb.cell 2
  have c3 := bb.cell 3
  have c4 := bb.cell 4
  have c5 := bb.cell 5
  simp only [List.getElem?_cons_zero, List.getElem?_cons_succ] at c0 c1 c2 c3 c4 c5
  cases r with
  | false =>
    clear hr
    go_wp2
    go_ret
    exact ⟨rfl, k2⟩
  | true =>
    have hfw := hr rfl
    clear hr
    go_wp2_with fail
    (with_reducible refine (HC0.out _ k2).mono ?_); rintro e w3 ⟨rfl, q3⟩
    have k3 := k2.trans q3
    have bb := bb.kept q3
    have c0 := bb.cell 0
    have c1 := bb.cell 1
    have c2 := bb.cell 2
    have c3 := bb.cell 3
    have c4 := bb.cell 4
    have c5 := bb.cell 5
    simp only [List.getElem?_cons_zero, List.getElem?_cons_succ] at c0 c1 c2 c3 c4 c5
    have f0 := bb.frozen 0
    have HB3 := Lib.hid (bb.set 0 (.int .i64 1))
    have HK3 := Lib.hid (k3.setCell (ad := ⟨w.heap.size, 0, none⟩) (Nat.le_refl _) (.int .i64 1))
    clear bb
    go_upto_region 5 with fail
    clear c0 c1 c2 c3 c4 c5 f0
    have bb := HB3.out
    have k4 := HK3.out
    simp only [List.set_cons_zero] at bb
    generalize w3.setCell ⟨w.heap.size, 0, none⟩ (.int .i64 1) = w4 at bb k4 ⊢
    have c0 := bb.cell 0
    have c1 := bb.cell 1
    have c2 := bb.cell 2
    have c3 := bb.cell 3
    have c4 := bb.cell 4
    have c5 := bb.cell 5
    simp only [List.getElem?_cons_zero, List.getElem?_cons_succ] at c0 c1 c2 c3 c4 c5
    have hA := HA.out hfw _ k4
    rw [hAe, hAi] at hA
    have HA2 := Lib.hid hA
    clear hA
    go_wp2_with fail
    (with_reducible refine (HA2.out).mono ?_); rintro e w5 ⟨vA, rfl, rA, _, q5⟩
    have k5 := k4.trans q5
    have bb := bb.kept q5
    obtain ⟨aA, cA, rfl, _, _, _⟩ := rA.len
    have HR2 := Lib.hid (HR.out hfw _ k5)
    rw [hre] at HR2
    go_wp2_with fail
    (with_reducible refine (HR2.out).mono ?_); rintro e w6 ⟨vB, rfl, rB, _, q6⟩
    have k6 := k5.trans q6
    have bb := bb.kept q6
    obtain ⟨aB, cB, rfl, _, _, _⟩ := rB.len
    have c0 := bb.cell 0
    have c1 := bb.cell 1
    have c2 := bb.cell 2
    have c3 := bb.cell 3
    have c4 := bb.cell 4
    have c5 := bb.cell 5
    simp only [List.getElem?_cons_zero, List.getElem?_cons_succ] at c0 c1 c2 c3 c4 c5
    have HU2 := Lib.hid (HU.out hfw _ k6)
    rw [hue] at HU2
    go_wp2_with fail
    (with_reducible refine (HU2.out).mono ?_); rintro e w7 ⟨vC, rfl, rC, _, q7⟩
    have k7 := k6.trans q7
    have bb := bb.kept q7
    obtain ⟨aC, cC, rfl, _, _, _⟩ := rC.len
    go_wp2_with fail
    (with_reducible refine (HMe.out _ k7).mono ?_); rintro e w8 ⟨vM, rfl, oM, q8⟩
    have k8 := k7.trans q8
    have bb := bb.kept q8
    obtain ⟨aM, cM, rfl, _, _, _⟩ := (OwnI.rd oM).len
    have HI8 := Lib.hid (inR_any (OwnI.rd oM) (n := i) hI64)
    rw [decide_eq_false hin] at HI8
    go_wp2_with fail
    (with_reducible refine HI8.out.mono ?_); rintro e w9 ⟨rfl, rfl⟩
    have rA := ((rA.kept q6).kept q7).kept q8
    have rB := (rB.kept q7).kept q8
    have rC := rC.kept q8
    have qM := Kept.refl w8
    obtain ⟨nb, no, ncp, na, nc, hnv, hnat, hnun⟩ := rA.at (k := 2 * k) hAx
    simp only [Value.slice.injEq] at hnv
    obtain ⟨rfl, -, rfl⟩ := hnv
    have HRt := Lib.hid rA
    have HBb := Lib.hid bb
    have hnat : ∀ W, Kept w8 W → TnAt W nb (no + 2 * k * 6) { l with kd := 1 } (.slice na 0 nc) := fun W q => by have := hnat W q; rw [hAl, hun0] at this; exact this
    have hnun : RdI w8 (.slice na 0 nc) l.un := by rw [hAl, hun0] at hnun; exact hnun
    have HSk := Lib.hid (fun (w' : World) (q : Kept w8 w') =>
      (show w'.cell? ⟨w.heap.size, 0, none⟩ = some (.int .i64 1) ∧ w'.cell? ⟨w.heap.size, 1, none⟩ = some (.int .i64 l.id) ∧ w'.cell? ⟨w.heap.size, 2, none⟩ = some (.int .i64 l.enc) ∧ w'.cell? ⟨w.heap.size, 3, none⟩ = some (.int .i64 l.sig) ∧ w'.cell? ⟨w.heap.size, 4, none⟩ = some (.int .i64 l.hash) ∧ w'.cell? ⟨w.heap.size, 5, none⟩ = some (.slice ua 0 uc) ∧ w'.cell? ⟨nb, no + 2 * k * 6, none⟩ = some (.int .i64 1) ∧ w'.cell? ⟨nb, no + 2 * k * 6 + 1, none⟩ = some (.int .i64 l.id) ∧ w'.cell? ⟨nb, no + 2 * k * 6 + 2, none⟩ = some (.int .i64 l.enc) ∧ w'.cell? ⟨nb, no + 2 * k * 6 + 3, none⟩ = some (.int .i64 l.sig) ∧ w'.cell? ⟨nb, no + 2 * k * 6 + 4, none⟩ = some (.int .i64 l.hash) ∧ w'.cell? ⟨nb, no + 2 * k * 6 + 5, none⟩ = some (.slice na 0 nc) from by
        have b := HBb.out.kept q
        obtain ⟨g0, g1, g2, g3, g4, g5⟩ := hnat w' q
        exact ⟨by rw [b.cell]; rfl, by rw [b.cell]; rfl, by rw [b.cell]; rfl, by rw [b.cell]; rfl, by rw [b.cell]; rfl, by rw [b.cell]; rfl, g0, g1, g2, g3, g4, g5⟩))
    have HCk2 := Lib.hid (fun W (q : Kept w8 W) => rcheck0 (HRt.out.kept q) hAok hAc)
    have HOt := Lib.hid (fun W (q : Kept w8 W) => others_any (x := (k : Int)) ((HT.out.kept k8).kept q) (HRt.out.kept q) (by have := hfw.1; omega) (fitM hAc) ⟨by have := fitM hAc; omega, by have := fitM hAc; omega⟩ hAo)
    have HIn := Lib.hid (fun W (q : Kept w8 W) => inR_any ((OwnI.rd oM).kept (qM.trans q)) (n := (k : Int)) ⟨by have := fitM hAc; omega, by have := fitM hAc; omega⟩)
    rw [decide_eq_false hAf] at HIn
    have HSN := Lib.hid (fun W (q : Kept w8 W) => rsameN_any (u := .agg #[.int .i64 1, .int .i64 l.id, .int .i64 l.enc, .int .i64 l.sig, .int .i64 l.hash, .slice na 0 nc]) (v := .agg #[.int .i64 1, .int .i64 l.id, .int .i64 l.enc, .int .i64 l.sig, .int .i64 l.hash, .slice ua 0 uc]) (a := { l with kd := 1 }) (b := { l with kd := 1 }) ⟨_, rfl, hnun.kept q⟩ ⟨_, rfl, (hrl.kept k8).kept q⟩)
    rw [show sameNB { l with kd := 1 } { l with kd := 1 } = true from sameNB_iff.2 rfl] at HSN
    have hk0 : (0 : Int) ≤ (k : Int) := by omega
    have hk2 : 2 * (k : Int) < ((addT t { l with kd := 1 }).length : Int) := by omega
    have hk4 : (0 : Int) ≤ 2 * (k : Int) := by omega
    have hk5 : (2 * (k : Int)).toNat = 2 * k := by omega
    have hk6 : (k : Int) ≤ 300 := by have := fitM hAc; omega
    have hwr : IntKind.i64.wrap (2 * (k : Int)) = 2 * (k : Int) := IntWalk.i64_in _ ⟨by omega, by omega⟩
    clear hnat bb
    go_wp2_with fail
    go_region_held3 (fun w' => w'.cell? ⟨w.heap.size, 0, none⟩ = some (.int .i64 1) ∧ w'.cell? ⟨w.heap.size, 1, none⟩ = some (.int .i64 l.id) ∧ w'.cell? ⟨w.heap.size, 2, none⟩ = some (.int .i64 l.enc) ∧ w'.cell? ⟨w.heap.size, 3, none⟩ = some (.int .i64 l.sig) ∧ w'.cell? ⟨w.heap.size, 4, none⟩ = some (.int .i64 l.hash) ∧ w'.cell? ⟨w.heap.size, 5, none⟩ = some (.slice ua 0 uc) ∧ w'.cell? ⟨nb, no + 2 * k * 6, none⟩ = some (.int .i64 1) ∧ w'.cell? ⟨nb, no + 2 * k * 6 + 1, none⟩ = some (.int .i64 l.id) ∧ w'.cell? ⟨nb, no + 2 * k * 6 + 2, none⟩ = some (.int .i64 l.enc) ∧ w'.cell? ⟨nb, no + 2 * k * 6 + 3, none⟩ = some (.int .i64 l.sig) ∧ w'.cell? ⟨nb, no + 2 * k * 6 + 4, none⟩ = some (.int .i64 l.hash) ∧ w'.cell? ⟨nb, no + 2 * k * 6 + 5, none⟩ = some (.slice na 0 nc))
      (first | with_reducible exact HSk.out _ k83 | with_reducible exact HSk.out _ k82 | with_reducible exact HSk.out _ k81 | with_reducible exact HSk.out _ (Kept.refl _) | with_reducible exact HSk.out _ (Kept.refl _).drew | with_reducible exact HSk.out _ ((Kept.refl _).drewN _) | with_reducible exact HSk.out _ k83.drew | with_reducible exact HSk.out _ (k83.drewN _) | with_reducible exact HSk.out _ k82.drew | with_reducible exact HSk.out _ (k82.drewN _) | with_reducible exact HSk.out _ k81.drew | with_reducible exact HSk.out _ (k81.drewN _) | go_keep)
      (first | (go_at_call 11; (with_reducible refine (HCk2.out _ (by first | with_reducible exact Kept.refl _ | with_reducible exact (Kept.refl _).drew | with_reducible exact ((Kept.refl _).drewN _))).mono ?_); rintro e w81 ⟨rfl, q81⟩; have k81 := (show Kept w8 _ from by first | with_reducible exact Kept.refl _ | with_reducible exact (Kept.refl _).drew | with_reducible exact ((Kept.refl _).drewN _)).trans q81) | (go_at_call 27; (with_reducible refine (HIn.out _ (by first | with_reducible exact k81 | with_reducible exact k81.drew | with_reducible exact (k81.drewN _))).mono ?_); rintro e w84 ⟨rfl, rfl⟩) | (go_at_call 28; (with_reducible refine (HOt.out _ (by first | with_reducible exact k81 | with_reducible exact k81.drew | with_reducible exact (k81.drewN _))).mono ?_); rintro e w82 ⟨rfl, q82⟩; have k82 := (show Kept w8 _ from by first | with_reducible exact k81 | with_reducible exact k81.drew | with_reducible exact (k81.drewN _)).trans q82) | (go_at_call 29; (with_reducible refine (HSN.out _ (by first | with_reducible exact k82 | with_reducible exact k82.drew | with_reducible exact (k82.drewN _))).mono ?_); rintro e w83 ⟨rfl, q83⟩; have k83 := (show Kept w8 _ from by first | with_reducible exact k82 | with_reducible exact k82.drew | with_reducible exact (k82.drewN _)).trans q83))
    have q9 : Kept w8 w83 := k83
    have k9 := k8.trans q9
    have bb := HBb.out.kept q9
    clear HCk2 HOt HSN HSk k81 k82 k83
    generalize w83 = w9 at q9 k9 bb ⊢
    have rB := rB.kept q9
    have rC := rC.kept q9
    go_wp2_with fail
    go_quiet (fail)
    go_wp2
    go_ret
    exact ⟨rfl, k9.drewN _⟩
set_option maxHeartbeats 32000000 in
set_option maxRecDepth 100000 in
theorem mayw_long {tv lv : Value} {t : List TN} {l : TN} {i : Int} {w : World} (ht : RdTs w tv t) (hok : ∀ d ∈ t, TnOk d) (hl : RdTn w lv l) (hlok : TnOk l) (hT : Tabs w) (hz : ¬ l.un.length = 0) :
    Calls Tryd.prog 6 #[tv, .int .i64 i, lv] w fun e w' => e = .returned (.bool true) ∧ Kept w w' := by
  obtain ⟨yv, rfl, hrl⟩ := hl
  obtain ⟨ua, uc, rfl, _, _, _⟩ := hrl.len
  have hd0 : (0 : Int) < (l.un.length : Int) := by omega
  have hd1 : decide ((0 : Int) < (l.un.length : Int)) = true := decide_eq_true hd0
  have k0 : Kept w (w.alloc (.cells #[.int .i64 l.kd, .int .i64 l.id, .int .i64 l.enc, .int .i64 l.sig, .int .i64 l.hash, .slice ua l.un.length uc] 32)) := (Kept.refl w).alloc _
  have bb0 : Blk (w.alloc (.cells #[.int .i64 l.kd, .int .i64 l.id, .int .i64 l.enc, .int .i64 l.sig, .int .i64 l.hash, .slice ua l.un.length uc] 32)) w.heap.size 32 [.int .i64 l.kd, .int .i64 l.id, .int .i64 l.enc, .int .i64 l.sig, .int .i64 l.hash, .slice ua l.un.length uc] := Blk.new _ _ _
  have HL := Lib.hid (fun W (k : Kept w W) => live07_any W (hT.kept k))
  have HFw := Lib.hid (fun W (k : Kept w W) => few1_any (ht.kept k))
  have HC0 := Lib.hid (fun W (k : Kept w W) => rcheck_any (ht.kept k) hok)
  obtain ⟨ta, tc, htv, _, t9, _⟩ := ht.len
  subst htv
  go_enter Tryd.func6, Tryd.ntmps6
  go_wp2_with fail
  (with_reducible refine (HL.out _ k0).mono ?_); rintro e w1 ⟨rfl, q1⟩
  have k1 := k0.trans q1
  have bb := bb0.kept q1
  go_wp2_with fail
  (with_reducible refine (HFw.out _ k1).mono ?_); rintro e w2 ⟨r, rfl, hr, q2⟩
  have q2' := ((Kept.refl w1).alloc (.cells #[.slice ta t.length tc] 22)).trans q2
  have k2 := k1.trans q2'
  have bb := bb.kept q2'
  have c0 := bb.cell 0
  have c1 := bb.cell 1
  have c2 := bb.cell 2
  have c3 := bb.cell 3
  have c4 := bb.cell 4
  have c5 := bb.cell 5
  simp only [List.getElem?_cons_zero, List.getElem?_cons_succ] at c0 c1 c2 c3 c4 c5
  cases r with
  | false =>
    clear hr
    go_wp2
    go_ret
    exact ⟨rfl, k2⟩
  | true =>
    clear hr
    go_wp2
    go_ret
    exact ⟨rfl, k2⟩
set_option maxHeartbeats 32000000 in
set_option maxRecDepth 100000 in
theorem mayw_bad {tv lv : Value} {t : List TN} {l : TN} {i : Int} {w : World} (ht : RdTs w tv t) (hok : ∀ d ∈ t, TnOk d) (hl : RdTn w lv l) (hlok : TnOk l) (hT : Tabs w) (hz : l.un.length = 0) (hc : chkB t = false) :
    Calls Tryd.prog 6 #[tv, .int .i64 i, lv] w fun e w' => e = .returned (.bool true) ∧ Kept w w' := by
  obtain ⟨yv, rfl, hrl⟩ := hl
  obtain ⟨ua, uc, rfl, _, _, _⟩ := hrl.len
  rw [hz] at hrl
  have k0 : Kept w (w.alloc (.cells #[.int .i64 l.kd, .int .i64 l.id, .int .i64 l.enc, .int .i64 l.sig, .int .i64 l.hash, .slice ua 0 uc] 32)) := (Kept.refl w).alloc _
  have bb0 : Blk (w.alloc (.cells #[.int .i64 l.kd, .int .i64 l.id, .int .i64 l.enc, .int .i64 l.sig, .int .i64 l.hash, .slice ua 0 uc] 32)) w.heap.size 32 [.int .i64 l.kd, .int .i64 l.id, .int .i64 l.enc, .int .i64 l.sig, .int .i64 l.hash, .slice ua 0 uc] := Blk.new _ _ _
  have HL := Lib.hid (fun W (k : Kept w W) => live07_any W (hT.kept k))
  have HFw := Lib.hid (fun W (k : Kept w W) => few1_any (ht.kept k))
  have HC0 := Lib.hid (fun W (k : Kept w W) => rcheck1 (ht.kept k) hok hc)
  obtain ⟨ta, tc, htv, _, t9, _⟩ := ht.len
  subst htv
  go_enter Tryd.func6, Tryd.ntmps6
  go_wp2_with fail
  (with_reducible refine (HL.out _ k0).mono ?_); rintro e w1 ⟨rfl, q1⟩
  have k1 := k0.trans q1
  have bb := bb0.kept q1
  go_wp2_with fail
  (with_reducible refine (HFw.out _ k1).mono ?_); rintro e w2 ⟨r, rfl, hr, q2⟩
  have q2' := ((Kept.refl w1).alloc (.cells #[.slice ta t.length tc] 22)).trans q2
  have k2 := k1.trans q2'
  have bb := bb.kept q2'
  have c0 := bb.cell 0
  have c1 := bb.cell 1
  have c2 := bb.cell 2
  have c3 := bb.cell 3
  have c4 := bb.cell 4
  have c5 := bb.cell 5
  simp only [List.getElem?_cons_zero, List.getElem?_cons_succ] at c0 c1 c2 c3 c4 c5
  cases r with
  | false =>
    clear hr
    go_wp2
    go_ret
    exact ⟨rfl, k2⟩
  | true =>
    clear hr
    go_wp2_with fail
    (with_reducible refine (HC0.out _ k2).mono ?_); rintro e w3 ⟨rfl, q3⟩
    have k3 := k2.trans q3
    go_wp2
    go_ret
    exact ⟨rfl, k3⟩
theorem may_any {tv lv : Value} {t : List TN} {l : TN} {i : Int} {w : World} (ht : RdTs w tv t) (hok : ∀ d ∈ t, TnOk d) (hi : I64 i) (hl : RdTn w lv l) (hlok : TnOk l) (hT : Tabs w) :
    Calls Tryd.prog 6 #[tv, .int .i64 i, lv] w fun e w' => e = .returned (.bool true) ∧ Kept w w' := by
  by_cases hz : l.un.length = 0
  · cases hc : chkB t with
    | false => exact mayw_bad ht hok hl hlok hT hz hc
    | true =>
      by_cases hin : i ∈ memL t
      · obtain ⟨x, hx, -⟩ := (upd_says ((upd_in (chkB_may.1 hc) (mk_leaf hz)).1 hin)).at'
        subst hx
        by_cases hAe : addE t { l with kd := 1 } = 0
        · cases h2 : decide (1 < (memL t).length) with
          | false => exact mayw_yna ht hok hl hlok hT hi hc hz hin h2 hAe
          | true => exact mayw_yya ht hok hl hlok hT hi hc hz hin h2 hAe
        · cases h2 : decide (1 < (memL t).length) with
          | false => exact mayw_yn ht hok hl hlok hT hi hc hz hin h2 hAe
          | true => exact mayw_yy ht hok hl hlok hT hi hc hz hin h2 hAe
      · by_cases hAe : addE t { l with kd := 1 } = 0
        · exact mayw_na ht hok hl hlok hT hi hc hz hin hAe
        · exact mayw_n ht hok hl hlok hT hi hc hz hin hAe
  · exact mayw_long ht hok hl hlok hT hz
end Go.Proofs.YtlmpejfkpidbeaaDoor
end
