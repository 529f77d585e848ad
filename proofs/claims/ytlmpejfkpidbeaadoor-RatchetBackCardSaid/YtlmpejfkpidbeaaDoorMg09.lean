/- Texts of one proof, put together: RpP. -/
import Derived.Test.YtlmpejfkpidbeaaDoorMg08
section
/- spoil of any row; the walk of the statement RatchetAdds (written by gen_rlaw.py). -/
set_option linter.unusedSimpArgs false
set_option linter.unusedVariables false
namespace Go.Proofs.YtlmpejfkpidbeaaDoor
open Go.RowKit
open Rt

theorem same_self (a : List TN) : sameTB a a = true := sameTB_iff.2 rfl
set_option maxHeartbeats 4000000 in
set_option maxRecDepth 100000 in
theorem spoilR_any {B n : Nat} {w : World} {v : Value} (h : Row0 B w v n) (hn : n ≤ 1000000) :
    Calls Tryd.prog 20 #[v] w fun e w' => e = .returned (.tuple #[]) ∧ Turn (Blks v) w w' := by
  rcases h with ⟨rfl, rfl⟩ | ⟨g, cap, cur, rfl, _, hg, hsz⟩
  · go_enter Tryd.func20, Tryd.ntmps20
    go_wp2
    go_loop [5] (fun c => c = .int .i64 0) (fun _ => 0)
    case atStart => rfl
    case round =>
      subst hrel
      go_wp2
      go_end0
      exact ⟨rfl, Turn.refl _ _⟩
  · have n63 : (n : Int) ≤ 1000000 := by omega
    have hb0 : Blk w g 32 cur.toList := hg
    have HSz := Shut.mk (show n * 6 ≤ cur.toList.length by rw [Array.length_toList]; exact hsz)
    clear hg hsz
    generalize cur.toList = xs at hb0 HSz
    go_enter Tryd.func20, Tryd.ntmps20
    go_wp2
    go_loopw [5] (fun c wr => ∃ k : Nat, k ≤ n ∧ c = .int .i64 k ∧ (∃ ys, Blk wr g 32 ys ∧ n * 6 ≤ ys.length) ∧ Turn (fun b => b = g) w wr) (fun c _ => n - (intOf c).toNat)
    case atStart => exact ⟨0, Nat.zero_le _, rfl, ⟨xs, hb0, HSz.out⟩, Turn.refl _ _⟩
    case round =>
      obtain ⟨k, hk, rfl, ⟨ys, hy, hyl⟩, ht⟩ := hrel
      by_cases hlt : k < n
      · obtain ⟨z0, c0⟩ : ∃ z, wr.cell? ⟨g, k * 6, none⟩ = some z := ⟨_, (hy.cell (k * 6)).trans (List.getElem?_eq_getElem (show k * 6 < ys.length by omega))⟩
        obtain ⟨z1, c1⟩ : ∃ z, wr.cell? ⟨g, k * 6 + 1, none⟩ = some z := ⟨_, (hy.cell (k * 6 + 1)).trans (List.getElem?_eq_getElem (show k * 6 + 1 < ys.length by omega))⟩
        have f0 := hy.frozen (k * 6)
        have f1 := hy.frozen (k * 6 + 1)
        have k0 : (0 : Int) ≤ (k : Int) := by omega
        have k1 : (k : Int) < (n : Int) := by omega
        have HP := Lib.hid ((hy.set (k * 6 + 1) (.int .i64 99)).set (k * 6) (.int .i64 2))
        have HYl := Shut.mk hyl
        clear hyl
        go_wp2
        go_roundw
        case rel => exact ⟨k + 1, hlt, by go_num, ⟨_, HP.out, by rw [List.length_set, List.length_set]; exact HYl.out⟩, Turn.trans (Turn.trans ht (turn_setCell _ _ _) (fun b e => .inl e)) (turn_setCell _ _ _) (fun b e => .inl e)⟩
        case measure => simp [intOf]; omega
      · have k1 : ¬ (k : Int) < (n : Int) := by omega
        clear hyl
        go_wp2
        go_end0
        exact ⟨rfl, ht.mono fun b e => by rw [e]; rfl⟩
theorem Row0.blks {B n : Nat} {w : World} {v : Value} (h : Row0 B w v n) : ∀ b, Blks v b → B ≤ b := fun b hb => by
  rcases h with ⟨rfl, _⟩ | ⟨g, cap, cur, rfl, h2, _, _⟩
  · cases hb
  · have := Option.some.inj (show some g = some b from hb)
    omega
theorem FitT.le6 {t : List TN} {n : Nat} (m : MayN t n) : t.length ≤ 600 := by have := m.len; have := fulls_bd m.hn; omega
set_option maxHeartbeats 16000000 in
set_option maxRecDepth 100000 in
theorem adds_any {tv lv : Value} {t : List TN} {l : TN} {w : World} (ht : RdTs w tv t) (hok : ∀ d ∈ t, TnOk d) (hl : RdTn w lv l) (hlok : TnOk l) (hT : Tabs w) :
    Calls Tryd.prog 4 #[tv, lv] w fun e w' => e = .returned (.bool true) ∧ Kept w w' := by
  obtain ⟨yv, rfl, hrl⟩ := hl
  obtain ⟨ua, uc, rfl, _, _, _⟩ := hrl.len
  have k0 : Kept w (w.alloc (.cells #[.int .i64 l.kd, .int .i64 l.id, .int .i64 l.enc, .int .i64 l.sig, .int .i64 l.hash, .slice ua l.un.length uc] 32)) := (Kept.refl w).alloc _
  have bb0 : Blk (w.alloc (.cells #[.int .i64 l.kd, .int .i64 l.id, .int .i64 l.enc, .int .i64 l.sig, .int .i64 l.hash, .slice ua l.un.length uc] 32)) w.heap.size 32 [.int .i64 l.kd, .int .i64 l.id, .int .i64 l.enc, .int .i64 l.sig, .int .i64 l.hash, .slice ua l.un.length uc] := Blk.new _ _ _
  have HL := Lib.hid (fun W (k : Kept w W) => live07_any W (hT.kept k))
  have HFw := Lib.hid (fun W (k : Kept w W) => few1_any (ht.kept k))
  have HCp := Lib.hid (fun (h : FewT t) W (k : Kept w W) => rcopy_any (ht.kept k) (by have := h.1; omega) (few_fit h hok).un)
  have HSm := Lib.hid (fun (W : World) (u v : Value) (a b : List TN) (ha : RdTs W u a) (hb : RdTs W v b) => rsameT_any ha hb)
  have HA := Lib.hid (fun (h : FewT t) (h2 : l.un.length ≤ 20) W (k : Kept w W) => padd_any (l := l) (ht.kept k) hok (few_fit h hok).len (few_fit h hok).un (hT.kept k) ⟨_, rfl, hrl.kept k⟩ (by omega))
  have HRA := Lib.hid (fun W (k : Kept w W) => radd_any (l := l) (ht.kept k) hok ⟨_, rfl, hrl.kept k⟩)
  have HN := Lib.hid (fun (h2 : l.un.length ≤ 20) W (k : Kept w W) => pnew_any (w := W) (d := l) ⟨_, rfl, hrl.kept k⟩ (by omega))
  have HRN := Lib.hid (fun W (k : Kept w W) => rnew_any (w := W) (d := l) ⟨_, rfl, hrl.kept k⟩)
  have HFit := Lib.hid (addT_fit hok hlok).len
  have HT := Lib.hid ht
  obtain ⟨ta, tc, htv, _, t9, _⟩ := ht.len
  subst htv
  have u9 : (l.un.length : Int) ≤ 9223372036854775807 := by obtain ⟨a', c', h1, h2, h3, _⟩ := hrl.len; unfold maxLen at h3; omega
  unfold PAdd at HA
  unfold AddPost at HRA
  unfold PTree at HN
  unfold TreePost at HRN
  unfold CopyPost at HCp
  generalize addT t l = at' at HA HRA HFit
  generalize addI t l = ai at HA HRA
  generalize addE t l = ae at HA HRA
  generalize (bif leafB l then [l] else []) = tn at HN HRN
  generalize errI (leafB l) = ne at HN HRN
  clear ht hok hlok hT
  go_enter Tryd.func4, Tryd.ntmps4
  go_wp2_with fail
  (with_reducible refine (HL.out _ k0).mono ?_); rintro e w1 ⟨rfl, q1⟩
  have k1 := k0.trans q1
  have bb := bb0.kept q1
  go_wp2_with fail
  (with_reducible refine (HFw.out _ k1).mono ?_); rintro e w2 ⟨r, rfl, hr, q2⟩
  have q2' := ((Kept.refl w1).alloc (.cells #[.slice ta t.length tc] 22)).trans q2
  have k2 := k1.trans q2'
  have bb := bb.kept q2'
  have c0 := bb.cell 0
  have c1 := bb.cell 1
  have c2 := bb.cell 2
  have c3 := bb.cell 3
  have c4 := bb.cell 4
  have c5 := bb.cell 5
  simp only [List.getElem?_cons_zero, List.getElem?_cons_succ] at c0 c1 c2 c3 c4 c5
  cases r with
  | false =>
    clear hr
    go_wp2
    go_ret
    exact ⟨rfl, k2⟩
  | true =>
    by_cases h20 : l.un.length ≤ 20
    · have hd : ¬ (20 : Int) < (l.un.length : Int) := by omega
      have hd2 : decide ((20 : Int) < (l.un.length : Int)) = false := decide_eq_false hd
      have HCp2 := Lib.hid (HCp.out (hr rfl))
      have HA2 := Lib.hid (HA.out (hr rfl) h20)
      have HN2 := Lib.hid (HN.out h20)
      clear hr HCp HA HN h20
      go_wp2_with fail
      (with_reducible refine (HCp2.out _ k2).mono ?_); rintro e w3 ⟨vC, lC, rfl, oC, q3⟩
      have k3 := k2.trans q3
      have bb := bb.kept q3
      have c0 := bb.cell 0
      have c1 := bb.cell 1
      have c2 := bb.cell 2
      have c3 := bb.cell 3
      have c4 := bb.cell 4
      have c5 := bb.cell 5
      simp only [List.getElem?_cons_zero, List.getElem?_cons_succ] at c0 c1 c2 c3 c4 c5
      obtain ⟨aC, cC, rfl, _, _, _⟩ := oC.rd.len
      go_wp2_with fail
      (with_reducible refine (HA2.out _ k3).mono ?_); rintro e w4 ⟨vA, rfl, rA, roA, q4⟩
      have k4 := k3.trans q4
      have bb := bb.kept q4
      have c0 := bb.cell 0
      have c1 := bb.cell 1
      have c2 := bb.cell 2
      have c3 := bb.cell 3
      have c4 := bb.cell 4
      have c5 := bb.cell 5
      simp only [List.getElem?_cons_zero, List.getElem?_cons_succ] at c0 c1 c2 c3 c4 c5
      obtain ⟨aA, cA, rfl, _, _, _⟩ := rA.len
      go_wp2_with fail
      (with_reducible refine (HRA.out _ k4).mono ?_); rintro e w5 ⟨vR, rfl, rR, _, q5⟩
      have k5 := k4.trans q5
      have bb := bb.kept q5
      have c0 := bb.cell 0
      have c1 := bb.cell 1
      have c2 := bb.cell 2
      have c3 := bb.cell 3
      have c4 := bb.cell 4
      have c5 := bb.cell 5
      simp only [List.getElem?_cons_zero, List.getElem?_cons_succ] at c0 c1 c2 c3 c4 c5
      obtain ⟨aR, cR, rfl, _, _, _⟩ := rR.len
      have hS := HSm.out w5 _ _ _ _ (rA.kept q5) rR
      rw [same_self] at hS
      have HS := Lib.hid hS
      clear hS
      go_wp2_with fail
      (with_reducible refine (HS.out).mono ?_); rintro e w6 ⟨rfl, q6⟩
      have k6 := k5.trans q6
      have bb := bb.kept q6
      have HSp := Lib.hid (spoilR_any ((roA.kept q5).kept q6) HFit.out)
      go_wp2_with fail
      (with_reducible refine HSp.out.mono ?_); rintro e w7 ⟨rfl, t7⟩
      have k37 : Kept w3 w7 := Turn.keptOf ((q4.trans q5).trans q6) t7 (Row0.blks roA)
      have k7 : Kept w w7 := k3.trans k37
      have bb := Blk.turn bb t7 (fun hb => by have h1 := Row0.blks roA _ hb; have h2 := bb0.lt; have h3 := ((q1.trans q2').trans q3).size; omega)
      have c0 := bb.cell 0
      have c1 := bb.cell 1
      have c2 := bb.cell 2
      have c3 := bb.cell 3
      have c4 := bb.cell 4
      have c5 := bb.cell 5
      simp only [List.getElem?_cons_zero, List.getElem?_cons_succ] at c0 c1 c2 c3 c4 c5
      go_wp2_with fail
      (with_reducible refine (HN2.out _ k7).mono ?_); rintro e w8 ⟨vN, rfl, rN, _, q8⟩
      have k8 := k7.trans q8
      have bb := bb.kept q8
      have c0 := bb.cell 0
      have c1 := bb.cell 1
      have c2 := bb.cell 2
      have c3 := bb.cell 3
      have c4 := bb.cell 4
      have c5 := bb.cell 5
      simp only [List.getElem?_cons_zero, List.getElem?_cons_succ] at c0 c1 c2 c3 c4 c5
      obtain ⟨aN, cN, rfl, _, _, _⟩ := rN.len
      go_wp2_with fail
      (with_reducible refine (HRN.out _ k8).mono ?_); rintro e w9 ⟨vM, rfl, rM, _, q9⟩
      have k9 := k8.trans q9
      have bb := bb.kept q9
      obtain ⟨aM, cM, rfl, _, _, _⟩ := rM.len
      have hS2 := HSm.out w9 _ _ _ _ (rN.kept q9) rM
      rw [same_self] at hS2
      have HS2 := Lib.hid hS2
      clear hS2
      go_wp2_with fail
      (with_reducible refine (HS2.out).mono ?_); rintro e w10 ⟨rfl, q10⟩
      have k10 := k9.trans q10
      have bb := bb.kept q10
      have hS3 := HSm.out w10 _ _ _ _ (HT.out.kept k10) (oC.rd.kept (((k37.trans q8).trans q9).trans q10))
      rw [same_self] at hS3
      have HS3 := Lib.hid hS3
      clear hS3
      go_wp2_with fail
      (with_reducible refine (HS3.out).mono ?_); rintro e w11 ⟨rfl, q11⟩
      have k11 := k10.trans q11
      have bb := bb.kept q11
      go_wp2
      go_ret
      exact ⟨by simp, k11⟩
    · have hd : (20 : Int) < (l.un.length : Int) := by omega
      have hd2 : decide ((20 : Int) < (l.un.length : Int)) = true := decide_eq_true hd
      clear hr
      go_wp2
      go_ret
      exact ⟨rfl, k2⟩
end Go.Proofs.YtlmpejfkpidbeaaDoor
end
