/- The walk of the statement MathParts. -/
import Derived.Test.YtlohedmpcjpaeaaDoorMthPl
set_option linter.unusedSimpArgs false
set_option linter.unusedVariables false
namespace Go.Proofs.YtlohedmpcjpaeaaDoor
open Go.RowKit

set_option maxHeartbeats 4000000 in
set_option maxRecDepth 100000 in
theorem parts_bad (x n : Int) (hx : I64 x) (hn : I64 n) (h : inB x n = false) {w : World} (ht : Tabs w) :
    Calls Tryd.prog 5 #[.int .i64 x, .int .i64 n] w fun e w' => e = .returned (.bool true) ∧ Kept w w' := by
  have HL := Lib.hid (live_any w ht)
  have H1 := Lib.hid (fun W (k : Kept w W) => (Copath_any x n W hx hn (ht.kept k)).mono fun e w' hh => ListPost.no hh h)
  have H2 := Lib.hid (fun W (k : Kept w W) => (Path_any x n W hx hn (ht.kept k)).mono fun e w' hh => ListPost.no hh h)
  clear h hx hn
  have hc : decide (n < 1) = true ∨ (decide (n < 1) = false ∧ decide (256 < n) = true) ∨ (decide (n < 1) = false ∧ decide (256 < n) = false) := by
    cases decide (n < 1) <;> cases decide (256 < n) <;> simp
  rcases hc with d1 | ⟨d1, d2⟩ | ⟨d1, d2⟩
  all_goals
    go_enter Tryd.func5, Tryd.ntmps5
    go_wp2_with fail
    refine HL.out.mono ?_; rintro e w1 ⟨rfl, k1⟩
    go_wp2_with fail
    refine (H1.out _ k1).mono ?_; rintro e w2 ⟨cv, rfl, rc, q⟩
    replace k1 := k1.trans q
    clear q
    obtain ⟨ca, cc, rfl, _, _, _⟩ := rc.len
    go_wp2_with fail
    refine (H2.out _ k1).mono ?_; rintro e w3 ⟨pv, rfl, rp, q⟩
    replace k1 := k1.trans q
    clear q rc
    obtain ⟨pa, pc, rfl, _, _, _⟩ := rp.len
    clear rp
    go_wp2
    go_ret
    exact ⟨rfl, k1⟩

set_option maxHeartbeats 16000000 in
set_option maxRecDepth 100000 in
theorem parts_good (x n : Nat) (hn : n ∈ Mth.fulls) (hx : x < 2 * n - 1) {w : World} (ht : Tabs w) :
    Calls Tryd.prog 5 #[.int .i64 x, .int .i64 n] w fun e w' => e = .returned (.bool true) ∧ Kept w w' := by
  have HL := Lib.hid (live_any w ht)
  have hnb := fulls_bd hn
  obtain ⟨L, z, pf⟩ := pf_of hn hx
  have H1 : Hid (∀ W, Kept w W → Calls Tryd.prog 29 #[.int .i64 x, .int .i64 n] W (OkPost W (ints (Mth.copath x n)))) := Lib.hid (fun W kk => by
    have := Copath_any (x : Int) n W ⟨by omega, by omega⟩ ⟨by omega, by omega⟩ (ht.kept kk)
    rw [nat_in hn hx] at this
    exact this)
  have H2 : Hid (∀ W, Kept w W → Calls Tryd.prog 27 #[.int .i64 x, .int .i64 n] W (OkPost W (ints (Mth.path x n)))) := Lib.hid (fun W kk => by
    have := Path_any (x : Int) n W ⟨by omega, by omega⟩ ⟨by omega, by omega⟩ (ht.kept kk)
    rw [nat_in hn hx] at this
    exact this)
  have HRt : Hid (∀ W, Calls Tryd.prog 11 #[.int .i64 n] W fun e w' => e = .returned (.tuple #[.int .i64 ((n : Int) - 1), .int .i64 0]) ∧ Kept W w') := Lib.hid (fun W => by
    have := Root_any (n : Int) W ⟨by omega, by omega⟩
    rw [treeB_mk hn] at this
    exact this)
  generalize hpl : Mth.path x n = pl at pf H2
  generalize hco : Mth.copath x n = co at pf H1
  clear hpl hco
  have PFx := Shut.mk pf
  have x0 : (0 : Int) ≤ (x : Int) := by omega
  have x1 : (x : Int) ≤ 510 := by omega
  have n1 : (1 : Int) ≤ (n : Int) := by omega
  have n2 : (n : Int) ≤ 256 := by omega
  have d1 : decide ((n : Int) < 1) = false := decide_eq_false (by omega)
  have d2 : decide (256 < (n : Int)) = false := decide_eq_false (by omega)
  clear pf hn hx hnb
  go_enter Tryd.func5, Tryd.ntmps5
  go_wp2_with fail
  refine HL.out.mono ?_; rintro e w1 ⟨rfl, k1⟩
  go_wp2_with fail
  refine (H1.out _ k1).mono ?_; rintro e w2 ⟨cv, rfl, rc, q⟩
  have k2 := k1.trans q
  clear q k1
  obtain ⟨ca, cc, rfl, _, hcc, _⟩ := rc.len
  rw [ints_len] at rc ⊢
  go_wp2_with fail
  refine (H2.out _ k2).mono ?_; rintro e w3 ⟨pv, rfl, rp, q⟩
  have k3 := k2.trans q
  have rc := rc.kept q
  clear q k2
  obtain ⟨pa, pc, rfl, _, hpc, _⟩ := rp.len
  rw [ints_len] at rp ⊢
  have c63 : ((co.length : Nat) : Int) ≤ 9223372036854775807 := by have := PFx.out.col; have := PFx.out.L8; omega
  have p63 : ((pl.length : Nat) : Int) ≤ 9223372036854775807 := by have := PFx.out.pll; have := PFx.out.L8; omega
  clear hcc hpc
  have YL := Shut.mk (show (ints (x :: co)).length = co.length + 1 by rw [ints_len]; rfl)
  have hlen : [(x : Int)].length + (ints co).length ≤ 10000000000 := by rw [ints_len]; simp; have := PFx.out.col; have := PFx.out.L8; omega
  have HLen := Shut.mk hlen
  clear hlen
  go_wp2_with (first
    | (refine go_mki n rfl rfl (by omega) ?_; intro w4 b4 k4; have rc4 := (rc.kept k4).kept ((Kept.refl w4).alloc (.cells #[.int .i64 (x : Int)] 3)))
    | (at_builtin; refine go_appi w4.heap.size _ [(x : Int)] rfl (OwnI.lit1 w4 _) _ (ints co) rfl rc4 HLen.out (by simp) ?_; intro v6 w6 o6 t6 l6; replace o6 : OwnI w4.heap.size w6 v6 (ints (x :: co)) := o6; obtain ⟨ya, yc, hv, _, hyc, _⟩ := (OwnI.rd o6).len; rw [YL.out] at hv; subst hv))
  have hMB := b4.lt
  have hwM : w.heap.size ≤ w3.heap.size := k3.size
  have k36 : Kept w3 w6 := Turn.keptOf (k4.alloc (.cells #[.int .i64 (x : Int)] 3)) t6 (fun b hb => by have := (Ownv.lt (OwnI.lit1 w4 (x : Int)) hb).2; omega)
  have k6 : Kept w w6 := k3.trans k36
  have b6 : Blk w6 w3.heap.size 3 (rowN n fun _ => 0) := (b4.kept ((Kept.refl w4).alloc (.cells #[.int .i64 (x : Int)] 3))).turn t6 (fun hb => by have := (Ownv.lt (OwnI.lit1 w4 (x : Int)) hb).2; omega)
  have RC := Lib.hid (fun W (t : Turn (fun b => b = w3.heap.size) w6 W) => rc.turnB k36 t (Nat.le_refl _))
  have RP := Lib.hid (fun W (t : Turn (fun b => b = w3.heap.size) w6 W) => rp.turnB k36 t (Nat.le_refl _))
  have RY := Lib.hid (fun W (t : Turn (fun b => b = w3.heap.size) w6 W) => OwnI.rd (o6.turnM t hMB))
  have HK := Lib.hid (fun W (t : Turn (fun b => b = w3.heap.size) w6 W) => Turn.keptOf k6 t (fun b hb => by omega))
  clear rc rp o6 t6 l6 rc4 k36 k6 b4 k4 hMB hwM hyc k3
  generalize w3.heap.size = MB at *
  go_loopw [84] (fun c wr => ∃ (i : Nat) (f : Nat → Nat), i ≤ co.length + 1 ∧ c = .int .i64 i ∧ Blk wr MB 3 (rowN n f) ∧ (∀ k, k < n → f k = Mth.cnt k ((x :: co).take i)) ∧ Turn (fun b => b = MB) w6 wr) (fun c _ => co.length + 1 - (intOf c).toNat)
  case atStart => exact ⟨0, _, Nat.zero_le _, rfl, b6, fun k hk => rfl, Turn.refl _ _⟩
  case round =>
    obtain ⟨i, f, hi, rfl, hb, hf, htr⟩ := hrel
    have HF := Shut.mk hf
    clear hf
    by_cases hlt : i < co.length + 1
    · have hyl : i < (x :: co).length := hlt
      have hym : (x :: co).getD i 0 ∈ x :: co := by rw [List.getD_eq_getElem?_getD, List.getElem?_eq_getElem hyl]; exact List.getElem_mem hyl
      obtain ⟨y1, y2, y3⟩ := PFx.out.inn _ hym
      have ry := RY.out _ htr
      obtain ⟨rb, ro, rcp, hrv, _, _, hrb, hcl⟩ := ry.addr (by rw [YL.out]; omega)
      simp only [Value.slice.injEq] at hrv
      obtain ⟨rfl, -, rfl⟩ := hrv
      have q1 := hcl i (by rw [YL.out]; exact hlt)
      rw [ints_get hyl] at q1
      have HT := Shut.mk (fun k => cnt_take (b := k) hyl)
      have HG := Shut.mk (show ∀ k, k < n → f k ≤ 9 from fun k hk => by
        rw [HF.out k hk]
        have h1 := cnt_len k ((x :: co).take i)
        have h2 := List.length_take_le i (x :: co)
        have h3 := PFx.out.col
        have h4 := PFx.out.L8
        omega)
      clear hcl hym ry
      generalize (x :: co).getD i 0 = y at y1 y2 y3 q1 HT
      have HLv : Hid (∀ W, Kept w W → Calls Tryd.prog 21 #[.int .i64 y] W fun e w' => e = .returned (.tuple #[.int .i64 (Mth.lo y : Nat), .int .i64 (Mth.hi y : Nat), .int .i64 0]) ∧ Kept W w') := Lib.hid (fun W kq => by
        have := Leaves_any y W ⟨by omega, by omega⟩ (ht.kept kq)
        rw [in_any (show y < 511 by omega)] at this
        exact this)
      have HHas := Shut.mk (fun k => Mth.hasB_iff (y := y) (i := k))
      generalize Mth.lo y = lo at HLv HHas y3
      generalize Mth.hi y = hi' at HLv HHas y2 y3
      have hkw := HK.out _ htr
      have i0 : (0 : Int) ≤ (i : Int) := by omega
      have i1 : (i : Int) < (co.length : Int) + 1 := by omega
      have i2 : i ≤ 8 := by have := PFx.out.col; have := PFx.out.L8; omega
      have d3 : decide ((lo : Int) < 0) = false := decide_eq_false (by omega)
      have d4 : decide (n < hi') = false := decide_eq_false (by omega)
      have d5 : decide (hi' ≤ lo) = false := decide_eq_false (by omega)
      go_wp2_with fail
      refine (HLv.out _ hkw).mono ?_; rintro e w7 ⟨rfl, q7⟩
      have b7 := hb.kept q7
      have t7 := htr.kept q7
      obtain ⟨wo, hwo⟩ : ∃ wo : World, wo = wr := ⟨_, rfl⟩
      subst hwo
      clear hb q7 hkw
      go_wp2_with fail
      go_loopw [16] (fun u wq => ∃ (j : Nat) (g : Nat → Nat), lo ≤ j ∧ j ≤ hi' ∧ u = .int .i64 j ∧ Blk wq MB 3 (rowN n g) ∧ (∀ k, k < n → g k = f k + (bif decide (lo ≤ k ∧ k < j) then 1 else 0)) ∧ Turn (fun b => b = MB) w7 wq) (fun u _ => hi' - (intOf u).toNat)
      case atStart => exact ⟨lo, f, Nat.le_refl _, by omega, rfl, b7, fun k hk => by rw [decide_eq_false (by omega)]; rfl, Turn.refl _ _⟩
      case round =>
        obtain ⟨j, g, hj1, hj2, rfl, hbq, hg, htq⟩ := hrel
        have HGq := Shut.mk hg
        clear hg
        by_cases hjl : j < hi'
        · have hjn : j < n := by omega
          have g0 := (Blk.cell hbq j).trans (rowN_at hjn)
          have g1 := Blk.frozen hbq j
          have hgj := HGq.out j hjn
          rw [decide_eq_false (by omega)] at hgj
          have hg9 : g j ≤ 9 := by rw [hgj]; have := HG.out j hjn; simp only [cond_false]; omega
          have HGj := Shut.mk hgj
          have HSet := Shut.mk (fun v => rowN_set (n := n) (f := g) (i := j) v)
          clear hgj
          generalize hgv : g j = gv at g0 hg9
          have HGv := Shut.mk hgv
          clear hgv
          have g2 : (0 : Int) ≤ (gv : Int) := by omega
          have g3 : (gv : Int) ≤ 9 := by omega
          have j0 : (0 : Int) ≤ (j : Int) := by omega
          have j1 : (j : Int) < (n : Int) := by omega
          have j2 : decide (j < hi') = true := decide_eq_true hjl
          go_wp2
          go_roundw
          case rel => exact ⟨j + 1, fun k => if k = j then gv + 1 else g k, by omega, hjl, by go_num, by
            have hs := hbq.set j (.int .i64 ((gv + 1 : Nat) : Int))
            rw [HSet.out] at hs
            exact hs, fun k hk => by
            show (if k = j then gv + 1 else g k) = _
            by_cases c : k = j
            · subst c
              have h1 := HGj.out
              have h2 := HGv.out
              rw [if_pos rfl, decide_eq_true (by omega)]
              simp only [cond_false] at h1
              simp only [cond_true]
              omega
            · rw [if_neg c, HGq.out k hk]
              congr 2
              exact decide_eq_decide.2 (by omega), Turn.trans htq (turn_setCell _ ⟨MB, j, none⟩ _) (fun b e => .inl e)⟩
          case measure => simp [intOf]; omega
        · have e : j = hi' := by omega
          have HE := Shut.mk e
          have j2 : decide (j < hi') = false := decide_eq_false hjl
          clear e
          go_wp2
          go_roundw
          case rel => exact ⟨i + 1, g, by omega, by go_num, hbq, fun k hk => by
            rw [HGq.out k hk, HF.out k hk, HT.out k]
            congr 2
            have h1 := HHas.out k
            have h2 := HE.out
            rw [Bool.eq_iff_iff, decide_eq_true_iff, h1, h2], Turn.trans t7 htq (fun b e => .inl e)⟩
          case measure => simp [intOf]; omega
    · have e : i = co.length + 1 := by omega
      have hone : ∀ k, k < n → f k = 1 := fun k hk => by
        rw [HF.out k hk, e, show (x :: co).take (co.length + 1) = x :: co from List.take_length (l := x :: co)]
        exact PFx.out.one k hk
      have HOne := Shut.mk hone
      have hkw := HK.out _ htr
      have rc9 := RC.out _ htr
      have rp9 := RP.out _ htr
      have HE := Shut.mk e
      have i9 : ¬ ((i : Int) < (co.length : Int) + 1) := by omega
      have hl9 : ((co.length : Nat) : Int) ≤ 8 := by have := PFx.out.col; have := PFx.out.L8; omega
      clear e hone htr
      go_wp2_with fail
      obtain ⟨wo, hwo⟩ : ∃ wo : World, wo = wr := ⟨_, rfl⟩
      subst hwo
      go_loop [125] (fun c => ∃ m : Nat, m ≤ n ∧ c = .int .i64 m) (fun c => n - (intOf c).toNat)
      case atStart => exact ⟨0, Nat.zero_le _, rfl⟩
      case round =>
        obtain ⟨m, hm, rfl⟩ := hrel
        by_cases hml : m < n
        · have g0 := (Blk.cell hb m).trans (rowN_at hml)
          rw [HOne.out m hml] at g0
          have m0 : (0 : Int) ≤ (m : Int) := by omega
          have m1 : (m : Int) < (n : Int) := by omega
          have m2 : decide (m < n) = true := decide_eq_true hml
          go_wp2
          go_round
          case rel => exact ⟨m + 1, hml, by go_num⟩
          case measure => simp [intOf]; omega
        · have m2 : decide (m < n) = false := decide_eq_false hml
          have HLx : Hid (∀ W, Kept w W → Calls Tryd.prog 13 #[.int .i64 x] W fun e w' => e = .returned (.tuple #[.int .i64 (Mth.lvl x : Nat), .int .i64 0]) ∧ Kept W w') := Lib.hid (fun W kq => by
            have hx5 : x < 511 := by omega
            have := Level_any x W ⟨by omega, by omega⟩ (ht.kept kq)
            rw [in_any hx5] at this
            exact this)
          have HLb := Shut.mk (lvl_le (x := x) (by omega))
          clear m2 hb
          generalize hlx : Mth.lvl x = lx at HLx HLb
          have HLX := Shut.mk hlx
          clear hlx
          go_wp2_with fail
          refine (HLx.out _ hkw).mono ?_; rintro e w8 ⟨rfl, q8⟩
          have k8 := hkw.trans q8
          have rc8 := rc9.kept q8
          have rp8 := rp9.kept q8
          clear q8 rc9 rp9 hkw HOne
          have hpl8 : pl.length ≤ 8 := by have := PFx.out.pll; have := PFx.out.L8; omega
          go_wp2_with fail
          go_loopw [19, 139] (fun l c wq => ∃ q : Nat, q ≤ pl.length ∧ l = .int .i64 ((lx + q : Nat) : Int) ∧ c = .int .i64 q ∧ Kept w8 wq) (fun _ c _ => pl.length - (intOf c).toNat)
          case atStart => exact ⟨0, Nat.zero_le _, rfl, rfl, Kept.refl _⟩
          case round =>
            obtain ⟨q, hq, rfl, rfl, hkq⟩ := hrel
            by_cases hql : q < pl.length
            · have hp := PFx.out.pa q (by rw [← PFx.out.pll]; exact hql)
              have hc := PFx.out.ca q (by rw [← PFx.out.pll]; exact hql)
              have hqL : q < L := by rw [← PFx.out.pll]; exact hql
              have hkid := PFx.out.kid q hqL
              have hz5 := PFx.out.zb (q + 1) hqL
              have hlv := PFx.out.lv (q + 1) hqL
              have hs5 := PFx.out.sb q hqL
              have hb5 := PFx.out.zb q (by omega)
              have hl0 : 0 < Mth.lvl (z (q + 1)) := by omega
              have hkk := k8.trans hkq
              have rpq := rp8.kept hkq
              have rcq := rc8.kept hkq
              have hcol : co.length = pl.length := by rw [PFx.out.col, PFx.out.pll]
              obtain ⟨rb, ro, rcp, hrv, _, _, hrb, hcl⟩ := rpq.addr (by rw [ints_len]; omega)
              simp only [Value.slice.injEq] at hrv
              obtain ⟨rfl, -, rfl⟩ := hrv
              obtain ⟨sb, so, scp, hsv, _, _, hsb, hcl2⟩ := rcq.addr (by rw [ints_len]; omega)
              simp only [Value.slice.injEq] at hsv
              obtain ⟨rfl, -, rfl⟩ := hsv
              have g0 := hcl q (by rw [ints_len]; exact hql)
              rw [ints_get hql, hp] at g0
              have s0 := hcl2 q (by rw [ints_len]; omega)
              rw [ints_get (by omega), hc] at s0
              have gb : 0 < q → wr.cell? ⟨rb, ro + (q - 1), none⟩ = some (.int .i64 ((z q : Nat) : Int)) := fun h => by
                have := hcl (q - 1) (by rw [ints_len]; omega)
                rw [ints_get (by omega), PFx.out.pa (q - 1) (by omega), show q - 1 + 1 = q by omega] at this
                exact this
              have hz0 : q = 0 → z q = x := fun h => by rw [h]; exact PFx.out.z0
              have HLf : Hid (∀ W, Kept w W → Calls Tryd.prog 15 #[.int .i64 (z (q + 1) : Nat)] W fun e w' => e = .returned (.tuple #[.int .i64 (Mth.left (z (q + 1)) : Nat), .int .i64 0]) ∧ Kept W w') := Lib.hid (fun W kq => by
                have := Left_any (z (q + 1) : Nat) W ⟨by omega, by omega⟩ (ht.kept kq)
                rw [kidB_pos hz5 hl0] at this
                exact this)
              have HRf : Hid (∀ W, Kept w W → Calls Tryd.prog 17 #[.int .i64 (z (q + 1) : Nat)] W fun e w' => e = .returned (.tuple #[.int .i64 (Mth.right (z (q + 1)) : Nat), .int .i64 0]) ∧ Kept W w') := Lib.hid (fun W kq => by
                have := Right_any (z (q + 1) : Nat) W ⟨by omega, by omega⟩ (ht.kept kq)
                rw [kidB_pos hz5 hl0] at this
                exact this)
              have HLl : Hid (∀ W, Kept w W → Calls Tryd.prog 13 #[.int .i64 (z (q + 1) : Nat)] W fun e w' => e = .returned (.tuple #[.int .i64 ((lx + q : Nat) + 1 : Int), .int .i64 0]) ∧ Kept W w') := Lib.hid (fun W kq => by
                have := Level_any (z (q + 1) : Nat) W ⟨by omega, by omega⟩ (ht.kept kq)
                rw [in_any hz5] at this
                have e : ((Mth.lvl (z (q + 1)) : Nat) : Int) = ((lx + q : Nat) : Int) + 1 := by have := HLX.out; omega
                rw [← e]; exact this)
              have HM := Shut.mk (show ((lx + q : Nat) : Int) + 1 = ((lx + (q + 1) : Nat) : Int) by omega)
              have hlq : lx + q ≤ 20 := by have := HLb.out; omega
              have hqc : (q : Int) < (co.length : Int) := by omega
              clear hp hc hlv hl0 hcl hcl2 hs5 hb5 hz5 hcol hqL rpq rcq
              generalize lx + q = lq at HLl HM hlq ⊢
              generalize z (q + 1) = p at HLf HRf HLl g0 hkid
              generalize Mth.sib (z q) = s at hkid s0
              generalize z q = b at hkid gb hz0
              have q0 : (0 : Int) ≤ (q : Int) := by omega
              have q1 : (q : Int) < (pl.length : Int) := by omega
              have q3 : (q : Int) ≤ 8 := by omega
              have lq0 : (0 : Int) ≤ (lq : Int) := by omega
              have lq1 : (lq : Int) ≤ 20 := by omega
              by_cases hq0 : q = 0
              · have hbx := hz0 hq0
                rw [hbx] at hkid
                have hd0 : decide (0 < q) = false := decide_eq_false (by omega)
                clear hz0 gb hq0 hbx
                rcases hkid with ⟨c1, c2⟩ | ⟨c1, c2, c3⟩
                · rw [c1] at HLf
                  rw [c2] at HRf
                  clear c1 c2
                  go_wp2_with fail
                  refine (HLf.out _ hkk).mono ?_; rintro e w9 ⟨rfl, q9⟩
                  have k9 := hkk.trans q9
                  go_wp2_with fail
                  refine (HRf.out _ k9).mono ?_; rintro e w10 ⟨rfl, q10⟩
                  have k10 := k9.trans q10
                  go_wp2_with fail
                  refine (HLl.out _ k10).mono ?_; rintro e w11 ⟨rfl, q11⟩
                  have q12 := (q9.trans q10).trans q11
                  have s1 := (q12.cell hsb).trans s0

                  clear q9 q10 q11 k9 k10
                  go_wp2
                  go_roundw
                  case rel => exact ⟨q + 1, hql, by rw [← HM.out], by go_num, hkq.trans q12⟩
                  case measure => simp [intOf]; omega
                · rw [c2] at HLf c3
                  rw [c1] at HRf
                  have e9 : ((s : Int) == (x : Int)) = false := by rw [beq_eq_false_iff_ne]; omega
                  clear c1 c2 c3
                  go_wp2_with fail
                  refine (HLf.out _ hkk).mono ?_; rintro e w9 ⟨rfl, q9⟩
                  have k9 := hkk.trans q9
                  go_wp2_with fail
                  refine (HRf.out _ k9).mono ?_; rintro e w10 ⟨rfl, q10⟩
                  have k10 := k9.trans q10
                  go_wp2_with fail
                  refine (HLl.out _ k10).mono ?_; rintro e w11 ⟨rfl, q11⟩
                  have q12 := (q9.trans q10).trans q11
                  have s1 := (q12.cell hsb).trans s0

                  clear q9 q10 q11 k9 k10
                  go_wp2
                  go_roundw
                  case rel => exact ⟨q + 1, hql, by rw [← HM.out], by go_num, hkq.trans q12⟩
                  case measure => simp [intOf]; omega
              · have gb := gb (by omega)
                have hd0 : decide (0 < q) = true := decide_eq_true (by omega)
                have q4 : (1 : Int) ≤ (q : Int) := by omega
                clear hz0 hq0
                rcases hkid with ⟨c1, c2⟩ | ⟨c1, c2, c3⟩
                · rw [c1] at HLf
                  rw [c2] at HRf
                  clear c1 c2
                  go_wp2_with fail
                  refine (HLf.out _ hkk).mono ?_; rintro e w9 ⟨rfl, q9⟩
                  have k9 := hkk.trans q9
                  go_wp2_with fail
                  refine (HRf.out _ k9).mono ?_; rintro e w10 ⟨rfl, q10⟩
                  have k10 := k9.trans q10
                  go_wp2_with fail
                  refine (HLl.out _ k10).mono ?_; rintro e w11 ⟨rfl, q11⟩
                  have q12 := (q9.trans q10).trans q11
                  have s1 := (q12.cell hsb).trans s0
                  have gb1 := (q12.cell hrb).trans gb
                  clear q9 q10 q11 k9 k10
                  go_wp2
                  go_roundw
                  case rel => exact ⟨q + 1, hql, by rw [← HM.out], by go_num, hkq.trans q12⟩
                  case measure => simp [intOf]; omega
                · rw [c2] at HLf c3
                  rw [c1] at HRf
                  have e9 : ((s : Int) == (b : Int)) = false := by rw [beq_eq_false_iff_ne]; omega
                  clear c1 c2 c3
                  go_wp2_with fail
                  refine (HLf.out _ hkk).mono ?_; rintro e w9 ⟨rfl, q9⟩
                  have k9 := hkk.trans q9
                  go_wp2_with fail
                  refine (HRf.out _ k9).mono ?_; rintro e w10 ⟨rfl, q10⟩
                  have k10 := k9.trans q10
                  go_wp2_with fail
                  refine (HLl.out _ k10).mono ?_; rintro e w11 ⟨rfl, q11⟩
                  have q12 := (q9.trans q10).trans q11
                  have s1 := (q12.cell hsb).trans s0
                  have gb1 := (q12.cell hrb).trans gb
                  clear q9 q10 q11 k9 k10
                  go_wp2
                  go_roundw
                  case rel => exact ⟨q + 1, hql, by rw [← HM.out], by go_num, hkq.trans q12⟩
                  case measure => simp [intOf]; omega
            · have hqe : q = pl.length := by omega
              have HQ := Shut.mk hqe
              have q2 : ¬ ((q : Int) < (pl.length : Int)) := by omega
              clear hqe
              have hcl : co.length = pl.length := by rw [PFx.out.col, PFx.out.pll]
              have e1 : ((co.length : Int) == (pl.length : Int)) = true := by rw [beq_iff_eq]; omega
              have e5 : decide (pl.length = co.length) = true := decide_eq_true hcl.symm
              have rpq := rp8.kept hkq
              have HZ := Shut.mk (show (z pl.length = n - 1) from by rw [PFx.out.pll]; exact PFx.out.zL)
              clear hcl e5
              by_cases hp0 : pl.length = 0
              · have hz0 : x = n - 1 := by have h1 := HZ.out; rw [hp0, PFx.out.z0] at h1; exact h1
                have e2 : ((pl.length : Int) == 0) = true := by rw [beq_iff_eq]; omega
                have e3 : ((x : Int) == (n : Int) - 1) = true := by rw [beq_iff_eq]; omega
                clear hp0 hz0
                go_wp2_with fail
                refine (HRt.out _).mono ?_; rintro e w9 ⟨rfl, q9⟩
                go_wp2
                go_ret
                exact ⟨rfl, (k8.trans hkq).trans q9⟩
              · have e2 : ((pl.length : Int) == 0) = false := by rw [beq_eq_false_iff_ne]; omega
                have e3 : decide (0 < pl.length) = true := decide_eq_true (by omega)
                obtain ⟨rb, ro, rcp, hrv, _, _, hrb, hcl⟩ := rpq.addr (by rw [ints_len]; omega)
                simp only [Value.slice.injEq] at hrv
                obtain ⟨rfl, -, rfl⟩ := hrv
                have g0 := hcl (pl.length - 1) (by rw [ints_len]; omega)
                rw [ints_get (by omega), PFx.out.pa (pl.length - 1) (by rw [← PFx.out.pll]; omega), show pl.length - 1 + 1 = pl.length by omega, HZ.out] at g0
                have e4 : (((n - 1 : Nat) : Int) == (n : Int) - 1) = true := by rw [beq_iff_eq]; omega
                generalize ((n - 1 : Nat) : Int) = nn at g0 e4
                have p1 : (1 : Int) ≤ (pl.length : Int) := by omega
                clear hp0 hcl
                go_wp2_with fail
                refine (HRt.out _).mono ?_; rintro e w9 ⟨rfl, q9⟩
                have g1 := (q9.cell hrb).trans g0
                go_wp2

                go_ret
                exact ⟨rfl, (k8.trans hkq).trans q9⟩
theorem parts_any {x : Int} (hx : I64 x) {n : Int} (hn : I64 n) {w : World} (ht : Tabs w) :
    Calls Tryd.prog 5 #[.int .i64 x, .int .i64 n] w fun e w' => e = .returned (.bool true) ∧ Kept w w' := by
  cases h : inB x n with
  | false => exact parts_bad x n hx hn h ht
  | true =>
    obtain ⟨m, k, hm, hk, hkf, h4, -⟩ := in_nat h
    subst hm hk
    exact parts_good m k hkf h4 ht
end Go.Proofs.YtlohedmpcjpaeaaDoor
