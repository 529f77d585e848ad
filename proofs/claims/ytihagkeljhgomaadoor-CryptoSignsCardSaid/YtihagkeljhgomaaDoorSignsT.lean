/- The walk of CryptoSigns. -/
import Derived.Test.YtihagkeljhgomaaDoorCrI
import Derived.Deep.DeepCutAuto
import Derived.Deep.RegionHeld3
set_option linter.unusedSimpArgs false
set_option linter.unusedVariables false
namespace Go.Proofs.YtihagkeljhgomaaDoor
open Go.RowKit Go.Maps

/-- The blocks that are there, and 3 more. -/
def SX3 (w : World) : Nat → Prop := fun b => b < w.heap.size + 3
theorem kept_cell' {a b : World} {p : Addr} {v : Value} (k : Kept a b) (h : a.cell? p = some v) : b.cell? p = some v := (Below.cell k (World.block_lt_of_cell? _ _ h)).trans h
/-- A number among the terms. -/
def red (m x : Int) : Int := (x.tmod m + m).tmod m
theorem red_lt {m x : Int} (hm : 0 < m) : 0 ≤ red m x ∧ red m x < m := by
  have h1 := Int.tmod_lt_of_pos x hm
  have h2 := Int.lt_tmod_of_pos x hm
  have h3 : 0 ≤ x.tmod m + m := by omega
  unfold red
  exact ⟨Int.tmod_nonneg _ h3, Int.tmod_lt_of_pos _ hm⟩
/-- What a number is behind so many rounds. -/
def cur (m : Int) (k j : Nat) (x : Int) : Int := if j < k then red m x else x
theorem cur_lo {m x : Int} {k j : Nat} (h : ¬ j < k) : cur m k j x = x := if_neg h
theorem cur_hi {m x : Int} {k j : Nat} (h : j < k) : cur m k j x = red m x := if_pos h
theorem cur_same {m x : Int} {k j : Nat} (h : j ≠ k) : cur m (k + 1) j x = cur m k j x := by
  unfold cur
  by_cases c : j < k
  · rw [if_pos c, if_pos (by omega)]
  · rw [if_neg c, if_neg (by omega)]

set_option maxHeartbeats 8000000 in
set_option maxRecDepth 100000 in
theorem signs_walk {w : World} {v : Value} {ls : List Opn} (hv : RdOs w v ls) (hok : ∀ o ∈ ls, OpnOk o) {x0 : Int} (hx0 : I64 x0) {x1 : Int} (hx1 : I64 x1) {x2 : Int} (hx2 : I64 x2) (ht : Tabs w) :
    Calls Tryd.prog 4 #[v, .int .i64 x0, .int .i64 x1, .int .i64 x2] w fun e w' => e = .returned (.bool true) ∧ Kept w w' := by
  obtain ⟨na, ncap, rfl, n1, n2, _⟩ := hv.len
  have kb : Kept w (((w.alloc (.cells #[.int .i64 x0] 3)).alloc (.cells #[.int .i64 x1] 3)).alloc (.cells #[.int .i64 x2] 3)) := ((((Kept.refl w)).alloc _).alloc _).alloc _
  have b0 := Blk.new w [.int .i64 x0] 3
  have b1 := Blk.new (w.alloc (.cells #[.int .i64 x0] 3)) [.int .i64 x1] 3
  simp only [alloc_size] at b1
  have b2 := Blk.new ((w.alloc (.cells #[.int .i64 x0] 3)).alloc (.cells #[.int .i64 x1] 3)) [.int .i64 x2] 3
  simp only [alloc_size] at b2
  have b0 := b0.kept (((Kept.refl _).alloc (.cells #[.int .i64 x1] 3)).alloc (.cells #[.int .i64 x2] 3))
  have b1 := b1.kept ((Kept.refl _).alloc (.cells #[.int .i64 x2] 3))
  generalize hW : ((w.alloc (.cells #[.int .i64 x0] 3)).alloc (.cells #[.int .i64 x1] 3)).alloc (.cells #[.int .i64 x2] 3) = wb at kb b0 b1 b2
  have hsz : wb.heap.size = w.heap.size + 3 := by rw [← hW]; simp only [alloc_size]
  go_enter Tryd.func4, Tryd.ntmps4
  go_upto_region 1 with fail
  try rw [hW]
  clear hW
  go_wp2_with fail
  refine (liveA (ht.kept kb)).mono ?_
  rintro e w1 ⟨rfl, k1⟩
  have k01 := kb.trans k1
  go_wp2_with fail
  refine (fewA (hv.kept k01)).mono ?_
  rintro e w2 ⟨b, rfl, hfew, k2⟩
  have k02 := k01.trans k2
  cases b with
  | false =>
    go_wp2
    go_ret
    exact ⟨rfl, k02⟩
  | true =>
    have hf := hfew rfl
    clear hfew
    have b0 := (b0.kept k1).kept k2
    have b1 := (b1.kept k1).kept k2
    have b2 := (b2.kept k1).kept k2
    have hs2 : w.heap.size + 3 ≤ w2.heap.size := by rw [← hsz]; exact (k1.trans k2).size
    go_wp2_with fail
    refine (grownA hv hok hf k02 ht (S := SX3 w) (fun b hb => Nat.lt_of_lt_of_le hb hs2) (fun b hb => Nat.lt_of_lt_of_le hb (Nat.le_add_right _ _))).mono ?_
    rintro e w3 ⟨p, pv, ds, ts, rfl, a3, o3, hts, his, hdl, k3, pa, rfl⟩
    have b0 := k3.blk b0 (by unfold SX3; omega)
    have b1 := k3.blk b1 (by unfold SX3; omega)
    have b2 := k3.blk b2 (by unfold SX3; omega)
    have hpos : 0 < ds.length := by have := (his 0 (by omega)).hi; have := (his 0 (by omega)).lo; omega
    have hlen : ds.length ≤ 605 := by omega
    have a3 := a3.less (S := SX3 w) (fun b hb => .inl hb) (fun b hb => Nat.lt_of_lt_of_le hb (Nat.le_add_right _ _))
    clear his hts o3
    clear hf
    go_wp2_with fail
    refine (lenA a3).mono ?_
    rintro e w' ⟨rfl, rfl⟩
    obtain ⟨m, hm⟩ : ∃ m, m = (ds.length : Int) := ⟨_, rfl⟩
    rw [← hm]
    have m1 : 0 < m := by omega
    have m2 : m ≤ 605 := by omega
    have HM := Shut.mk hm
    clear hm
    have bp := Blk.new w3 [.pointer (some ⟨w.heap.size, 0, none⟩), .pointer (some ⟨w.heap.size + 1, 0, none⟩), .pointer (some ⟨w.heap.size + 2, 0, none⟩)] 30
    have kp : Kept w3 (w3.alloc (.cells #[.pointer (some ⟨w.heap.size, 0, none⟩), .pointer (some ⟨w.heap.size + 1, 0, none⟩), .pointer (some ⟨w.heap.size + 2, 0, none⟩)] 30)) := (Kept.refl w3).alloc _
    have ap := a3.step kp
    have b0 := b0.kept kp
    have b1 := b1.kept kp
    have b2 := b2.kept kp
    have hs3 : w.heap.size + 3 ≤ w3.heap.size := Nat.le_trans hs2 k3.size
    clear a3 k01 k02 k1 k2 kb hsz hs2
    go_wp2_with fail
    generalize hWp : w3.alloc (.cells #[.pointer (some ⟨w.heap.size, 0, none⟩), .pointer (some ⟨w.heap.size + 1, 0, none⟩), .pointer (some ⟨w.heap.size + 2, 0, none⟩)] 30) = wp at *
    clear hWp
    go_loopw [50] (fun i wr => ∃ k : Nat, k ≤ 3 ∧ i = .int .i64 k ∧ Blk wr w.heap.size 3 [.int .i64 (cur m k 0 x0)] ∧ Blk wr (w.heap.size + 1) 3 [.int .i64 (cur m k 1 x1)] ∧ Blk wr (w.heap.size + 2) 3 [.int .i64 (cur m k 2 x2)] ∧ Blk wr w3.heap.size 30 [.pointer (some ⟨w.heap.size, 0, none⟩), .pointer (some ⟨w.heap.size + 1, 0, none⟩), .pointer (some ⟨w.heap.size + 2, 0, none⟩)] ∧ At w (SX3 w) wr (.pointer (some pa)) ds ∧ Turn (fun b => w.heap.size ≤ b ∧ b < w.heap.size + 3) wp wr) (fun i _ => 3 - (intOf i).toNat)
    case atStart => exact ⟨0, Nat.zero_le _, rfl, b0, b1, b2, bp, ap, Turn.refl _ _⟩
    case round =>
      obtain ⟨k, hk, rfl, g0, g1, g2, gp, ga, gt⟩ := hrel
      by_cases hlt : k < 3
      · have p0 : ∀ i, wr.cell? ⟨w3.heap.size, i, none⟩ = _ := fun i => gp.cell i
        have hcase : k = 0 ∨ k = 1 ∨ k = 2 := by omega
        rcases hcase with rfl | rfl | rfl
        · rw [cur_lo (show ¬ 0 < 0 by omega)] at g0
          have y := p0 0
          simp only [List.getElem?_cons_succ, List.getElem?_cons_zero] at y
          have z := g0.cell 0
          have f := g0.frozen 0
          simp only [List.getElem?_cons_zero] at z
          have hr := red_lt (x := x0) m1
          have hq1 := Int.tmod_lt_of_pos x0 m1
          have hq2 := Int.lt_tmod_of_pos x0 m1
          have hcs : cur m (0 + 1) 0 x0 = red m x0 := cur_hi (by omega)
          unfold red at hr hcs
          have HC := Shut.mk hcs
          clear hcs
          obtain ⟨q, hq⟩ : ∃ q, q = x0.tmod m := ⟨_, rfl⟩
          rw [← hq] at hr hq1 hq2
          have HQ := Shut.mk hq
          have hq' := hq.symm
          clear hq
          obtain ⟨r, hr2⟩ : ∃ r, r = (q + m).tmod m := ⟨_, rfl⟩
          rw [← hr2] at hr
          have HR := Shut.mk hr2
          have hr' := hr2.symm
          clear hr2 p0
          go_wp2
          have t0 := turn_setCell wr ⟨w.heap.size, 0, none⟩ (.int .i64 r)
          go_roundw
          case rel =>
            refine ⟨1, hlt, rfl, ?_, ?_, ?_, ?_, ?_, ?_⟩
            · rw [HC.out, ← HQ.out, ← HR.out]; exact g0.set 0 (.int .i64 r)
            · rw [show cur m 1 1 x1 = cur m 0 1 x1 from cur_same (by omega)]; exact g1.turn t0 (fun e => by simp at e)
            · rw [show cur m 1 2 x2 = cur m 0 2 x2 from cur_same (by omega)]; exact g2.turn t0 (fun e => by simp at e)
            · exact gp.turn t0 (fun e => by have e' : w3.heap.size = w.heap.size := e; omega)
            · exact ga.turn t0 (fun b e => ⟨(by have e' : b = w.heap.size := e; unfold SX3; omega), by have e' : b = w.heap.size := e; omega⟩)
            · exact gt.trans t0 (fun b e => .inl (by have e' : b = w.heap.size := e; omega))
          case measure => simp [intOf]
        · rw [cur_lo (show ¬ 1 < 1 by omega)] at g1
          have y := p0 1
          simp only [List.getElem?_cons_succ, List.getElem?_cons_zero] at y
          have z := g1.cell 0
          have f := g1.frozen 0
          simp only [List.getElem?_cons_zero] at z
          have hr := red_lt (x := x1) m1
          have hq1 := Int.tmod_lt_of_pos x1 m1
          have hq2 := Int.lt_tmod_of_pos x1 m1
          have hcs : cur m (1 + 1) 1 x1 = red m x1 := cur_hi (by omega)
          unfold red at hr hcs
          have HC := Shut.mk hcs
          clear hcs
          obtain ⟨q, hq⟩ : ∃ q, q = x1.tmod m := ⟨_, rfl⟩
          rw [← hq] at hr hq1 hq2
          have HQ := Shut.mk hq
          have hq' := hq.symm
          clear hq
          obtain ⟨r, hr2⟩ : ∃ r, r = (q + m).tmod m := ⟨_, rfl⟩
          rw [← hr2] at hr
          have HR := Shut.mk hr2
          have hr' := hr2.symm
          clear hr2 p0
          go_wp2
          have t0 := turn_setCell wr ⟨w.heap.size + 1, 0, none⟩ (.int .i64 r)
          go_roundw
          case rel =>
            refine ⟨2, hlt, rfl, ?_, ?_, ?_, ?_, ?_, ?_⟩
            · rw [show cur m 2 0 x0 = cur m 1 0 x0 from cur_same (by omega)]; exact g0.turn t0 (fun e => by simp at e)
            · rw [HC.out, ← HQ.out, ← HR.out]; exact g1.set 0 (.int .i64 r)
            · rw [show cur m 2 2 x2 = cur m 1 2 x2 from cur_same (by omega)]; exact g2.turn t0 (fun e => by simp at e)
            · exact gp.turn t0 (fun e => by have e' : w3.heap.size = w.heap.size + 1 := e; omega)
            · exact ga.turn t0 (fun b e => ⟨(by have e' : b = w.heap.size + 1 := e; unfold SX3; omega), by have e' : b = w.heap.size + 1 := e; omega⟩)
            · exact gt.trans t0 (fun b e => .inl (by have e' : b = w.heap.size + 1 := e; omega))
          case measure => simp [intOf]
        · rw [cur_lo (show ¬ 2 < 2 by omega)] at g2
          have y := p0 2
          simp only [List.getElem?_cons_succ, List.getElem?_cons_zero] at y
          have z := g2.cell 0
          have f := g2.frozen 0
          simp only [List.getElem?_cons_zero] at z
          have hr := red_lt (x := x2) m1
          have hq1 := Int.tmod_lt_of_pos x2 m1
          have hq2 := Int.lt_tmod_of_pos x2 m1
          have hcs : cur m (2 + 1) 2 x2 = red m x2 := cur_hi (by omega)
          unfold red at hr hcs
          have HC := Shut.mk hcs
          clear hcs
          obtain ⟨q, hq⟩ : ∃ q, q = x2.tmod m := ⟨_, rfl⟩
          rw [← hq] at hr hq1 hq2
          have HQ := Shut.mk hq
          have hq' := hq.symm
          clear hq
          obtain ⟨r, hr2⟩ : ∃ r, r = (q + m).tmod m := ⟨_, rfl⟩
          rw [← hr2] at hr
          have HR := Shut.mk hr2
          have hr' := hr2.symm
          clear hr2 p0
          go_wp2
          have t0 := turn_setCell wr ⟨w.heap.size + 2, 0, none⟩ (.int .i64 r)
          go_roundw
          case rel =>
            refine ⟨3, hlt, rfl, ?_, ?_, ?_, ?_, ?_, ?_⟩
            · rw [show cur m 3 0 x0 = cur m 2 0 x0 from cur_same (by omega)]; exact g0.turn t0 (fun e => by simp at e)
            · rw [show cur m 3 1 x1 = cur m 2 1 x1 from cur_same (by omega)]; exact g1.turn t0 (fun e => by simp at e)
            · rw [HC.out, ← HQ.out, ← HR.out]; exact g2.set 0 (.int .i64 r)
            · exact gp.turn t0 (fun e => by have e' : w3.heap.size = w.heap.size + 2 := e; omega)
            · exact ga.turn t0 (fun b e => ⟨(by have e' : b = w.heap.size + 2 := e; unfold SX3; omega), by have e' : b = w.heap.size + 2 := e; omega⟩)
            · exact gt.trans t0 (fun b e => .inl (by have e' : b = w.heap.size + 2 := e; omega))
          case measure => simp [intOf]
      · skip
        obtain rfl : k = 3 := by omega
        have hlen' : ds.length ≤ 605 + 0 := by omega
        rw [cur_hi (show 0 < 3 by omega)] at g0
        have i0 : IsT ds (red m x0) := ⟨(red_lt m1).1, by have := (red_lt (x := x0) m1).2; rw [HM.out] at this ⊢; exact this⟩
        have y0 := g0.cell 0
        simp only [List.getElem?_cons_zero] at y0
        generalize red m x0 = z0 at i0 y0
        have e0 : I64 z0 := i0.i64 ga.few
        have s0 : SX3 w (w.heap.size) := by unfold SX3; omega
        clear g0
        rw [cur_hi (show 1 < 3 by omega)] at g1
        have i1 : IsT ds (red m x1) := ⟨(red_lt m1).1, by have := (red_lt (x := x1) m1).2; rw [HM.out] at this ⊢; exact this⟩
        have y1 := g1.cell 0
        simp only [List.getElem?_cons_zero] at y1
        generalize red m x1 = z1 at i1 y1
        have e1 : I64 z1 := i1.i64 ga.few
        have s1 : SX3 w (w.heap.size + 1) := by unfold SX3; omega
        clear g1
        rw [cur_hi (show 2 < 3 by omega)] at g2
        have i2 : IsT ds (red m x2) := ⟨(red_lt m1).1, by have := (red_lt (x := x2) m1).2; rw [HM.out] at this ⊢; exact this⟩
        have y2 := g2.cell 0
        simp only [List.getElem?_cons_zero] at y2
        generalize red m x2 = z2 at i2 y2
        have e2 : I64 z2 := i2.i64 ga.few
        have s2 : SX3 w (w.heap.size + 2) := by unfold SX3; omega
        clear g2
        clear gp gt hlt hk
        obtain ⟨r_1, t_jd, m_1, q_1, jd⟩ := mk_is (may_atom ds (n := 999) (by decide)) (by have := hlen; omega)
        have c_1 := freshA ga (n := 999) (i64_lit (by simp))
        rw [show mk ds ⟨1, 999, [], []⟩ = _ from m_1] at c_1
        clear m_1
        go_wp2_with fail
        refine c_1.mono ?_
        clear c_1
        rintro e' w_1 ⟨rfl, a_1, k_1⟩
        simp only at a_1
        have i0 := i0.more r_1
        have i1 := i1.more r_1
        have i2 := i2.more r_1
        have l_1 : (ds ++ r_1).length ≤ 605 + 1 := by rw [List.length_append]; have := hlen; omega
        generalize ds ++ r_1 = d_1 at a_1 l_1 i0 i1 i2 jd
        clear q_1 hlen ga
        have y0 := k_1.cell y0 s0
        have y1 := k_1.cell y1 s1
        have y2 := k_1.cell y2 s2
        have ed : I64 t_jd := jd.i64 a_1.few
        obtain ⟨r_2, t_jw, m_2, q_2, jw⟩ := mk_is (may_atom d_1 (n := 998) (by decide)) (by have := l_1; omega)
        have c_2 := freshA a_1 (n := 998) (i64_lit (by simp))
        rw [show mk d_1 ⟨1, 998, [], []⟩ = _ from m_2] at c_2
        clear m_2
        go_wp2_with fail
        refine c_2.mono ?_
        clear c_2
        rintro e' w_2 ⟨rfl, a_2, k_2⟩
        simp only at a_2
        have i0 := i0.more r_2
        have i1 := i1.more r_2
        have i2 := i2.more r_2
        have jd := jd.more r_2
        have l_2 : (d_1 ++ r_2).length ≤ 605 + 2 := by rw [List.length_append]; have := l_1; omega
        generalize d_1 ++ r_2 = d_2 at a_2 l_2 i0 i1 i2 jd jw
        clear q_2 l_1 a_1
        have y0 := k_2.cell y0 s0
        have y1 := k_2.cell y1 s1
        have y2 := k_2.cell y2 s2
        have HWD := Shut.mk (a_2.good.ne jw jd (by simp))
        obtain ⟨r_3, t_jp, m_3, q_3, jp⟩ := mk_is (may1 (.inr rfl) i0) (by have := l_2; omega)
        have c_3 := publicA a_2 e0
        rw [show made d_2 7 [z0] = _ from m_3] at c_3
        clear m_3
        go_wp2_with fail
        refine c_3.mono ?_
        clear c_3
        rintro e' w_3 ⟨rfl, a_3, k_3⟩
        simp only at a_3
        have i0 := i0.more r_3
        have i1 := i1.more r_3
        have i2 := i2.more r_3
        have jd := jd.more r_3
        have jw := jw.more r_3
        have l_3 : (d_2 ++ r_3).length ≤ 605 + 3 := by rw [List.length_append]; have := l_2; omega
        generalize d_2 ++ r_3 = d_3 at a_3 l_3 i0 i1 i2 jd jw jp
        clear q_3 l_2 a_2
        have y0 := k_3.cell y0 s0
        have y1 := k_3.cell y1 s1
        have y2 := k_3.cell y2 s2
        obtain ⟨r_4, t_jo, m_4, q_4, jo⟩ := mk_is (may1 (.inr rfl) i2) (by have := l_3; omega)
        have c_4 := publicA a_3 e2
        rw [show made d_3 7 [z2] = _ from m_4] at c_4
        clear m_4
        go_wp2_with fail
        refine c_4.mono ?_
        clear c_4
        rintro e' w_4 ⟨rfl, a_4, k_4⟩
        simp only at a_4
        have i0 := i0.more r_4
        have i1 := i1.more r_4
        have i2 := i2.more r_4
        have jd := jd.more r_4
        have jw := jw.more r_4
        have jp := jp.more r_4
        have l_4 : (d_3 ++ r_4).length ≤ 605 + 4 := by rw [List.length_append]; have := l_3; omega
        generalize d_3 ++ r_4 = d_4 at a_4 l_4 i0 i1 i2 jd jw jp jo
        clear q_4 l_3 a_3
        have y0 := k_4.cell y0 s0
        have y1 := k_4.cell y1 s1
        have y2 := k_4.cell y2 s2
        obtain ⟨r_5, t_js, m_5, q_5, js⟩ := mk_is (may2 (.inr (.inl rfl)) i0 i1) (by have := l_4; omega)
        have c_5 := signA a_4 e0 e1
        rw [show made d_4 10 [z0, z1] = _ from m_5] at c_5
        clear m_5
        go_wp2_with fail
        refine c_5.mono ?_
        clear c_5
        rintro e' w_5 ⟨rfl, a_5, k_5⟩
        simp only at a_5
        have i0 := i0.more r_5
        have i1 := i1.more r_5
        have i2 := i2.more r_5
        have jd := jd.more r_5
        have jw := jw.more r_5
        have jp := jp.more r_5
        have jo := jo.more r_5
        have l_5 : (d_4 ++ r_5).length ≤ 605 + 5 := by rw [List.length_append]; have := l_4; omega
        generalize d_4 ++ r_5 = d_5 at a_5 l_5 i0 i1 i2 jd jw jp jo js
        clear q_5 l_4 a_4
        have y0 := k_5.cell y0 s0
        have y1 := k_5.cell y1 s1
        have y2 := k_5.cell y2 s2
        obtain ⟨r_6, t_jt, m_6, q_6, jt⟩ := mk_is (may2 (.inr (.inr (.inl rfl))) i0 i1) (by have := l_5; omega)
        have c_6 := tagA a_5 e0 e1
        rw [show made d_5 11 [z0, z1] = _ from m_6] at c_6
        clear m_6
        go_wp2_with fail
        refine c_6.mono ?_
        clear c_6
        rintro e' w_6 ⟨rfl, a_6, k_6⟩
        simp only at a_6
        have i0 := i0.more r_6
        have i1 := i1.more r_6
        have i2 := i2.more r_6
        have jd := jd.more r_6
        have jw := jw.more r_6
        have jp := jp.more r_6
        have jo := jo.more r_6
        have js := js.more r_6
        have l_6 : (d_5 ++ r_6).length ≤ 605 + 6 := by rw [List.length_append]; have := l_5; omega
        generalize d_5 ++ r_6 = d_6 at a_6 l_6 i0 i1 i2 jd jw jp jo js jt
        clear q_6 l_5 a_5
        have y0 := k_6.cell y0 s0
        have y1 := k_6.cell y1 s1
        have y2 := k_6.cell y2 s2
        obtain ⟨r_7, t_jb, m_7, q_7, jb⟩ := mk_is (may2 (.inr (.inr (.inr rfl))) i1 jd.isT) (by have := l_6; omega)
        have c_7 := blindA a_6 e1 ed
        rw [show made d_6 12 [z1, t_jd] = _ from m_7] at c_7
        clear m_7
        go_wp2_with fail
        refine c_7.mono ?_
        clear c_7
        rintro e' w_7 ⟨rfl, a_7, k_7⟩
        simp only at a_7
        have i0 := i0.more r_7
        have i1 := i1.more r_7
        have i2 := i2.more r_7
        have jd := jd.more r_7
        have jw := jw.more r_7
        have jp := jp.more r_7
        have jo := jo.more r_7
        have js := js.more r_7
        have jt := jt.more r_7
        have l_7 : (d_6 ++ r_7).length ≤ 605 + 7 := by rw [List.length_append]; have := l_6; omega
        generalize d_6 ++ r_7 = d_7 at a_7 l_7 i0 i1 i2 jd jw jp jo js jt jb
        clear q_7 l_6 a_6
        have y0 := k_7.cell y0 s0
        have y1 := k_7.cell y1 s1
        have y2 := k_7.cell y2 s2
        have eb : I64 t_jb := jb.i64 a_7.few
        obtain ⟨r_8, t_jk, m_8, q_8, jk⟩ := mk_is (may2 (.inr (.inl rfl)) i0 jb.isT) (by have := l_7; omega)
        have c_8 := signA a_7 e0 eb
        rw [show made d_7 10 [z0, t_jb] = _ from m_8] at c_8
        clear m_8
        go_wp2_with fail
        refine c_8.mono ?_
        clear c_8
        rintro e' w_8 ⟨rfl, a_8, k_8⟩
        simp only at a_8
        have i0 := i0.more r_8
        have i1 := i1.more r_8
        have i2 := i2.more r_8
        have jd := jd.more r_8
        have jw := jw.more r_8
        have jp := jp.more r_8
        have jo := jo.more r_8
        have js := js.more r_8
        have jt := jt.more r_8
        have jb := jb.more r_8
        have l_8 : (d_7 ++ r_8).length ≤ 605 + 8 := by rw [List.length_append]; have := l_7; omega
        generalize d_7 ++ r_8 = d_8 at a_8 l_8 i0 i1 i2 jd jw jp jo js jt jb jk
        clear q_8 l_7 a_7
        have y0 := k_8.cell y0 s0
        have y1 := k_8.cell y1 s1
        have y2 := k_8.cell y2 s2
        obtain ⟨r_9, t_ju, m_9, q_9, ju⟩ := mk_is (may2 (.inr (.inl rfl)) i0 i1) (by have := l_8; omega)
        have c_9 := unblindA a_8 t_jk t_jd
        rw [unblind_is jk jb jd.isT, if_pos rfl, show made d_8 10 [z0, z1] = _ from m_9] at c_9
        clear m_9
        go_wp2_with fail
        refine c_9.mono ?_
        clear c_9
        rintro e' w_9 ⟨rfl, a_9, k_9⟩
        simp only at a_9
        have i0 := i0.more r_9
        have i1 := i1.more r_9
        have i2 := i2.more r_9
        have jd := jd.more r_9
        have jw := jw.more r_9
        have jp := jp.more r_9
        have jo := jo.more r_9
        have js := js.more r_9
        have jt := jt.more r_9
        have jb := jb.more r_9
        have jk := jk.more r_9
        have l_9 : (d_8 ++ r_9).length ≤ 605 + 9 := by rw [List.length_append]; have := l_8; omega
        generalize d_8 ++ r_9 = d_9 at a_9 l_9 i0 i1 i2 jd jw jp jo js jt jb jk ju
        clear q_9 l_8 a_8
        have y0 := k_9.cell y0 s0
        have y1 := k_9.cell y1 s1
        have y2 := k_9.cell y2 s2
        have c_10 := unblindA a_9 t_jk t_jw
        rw [unblind_is jk jb jw.isT, if_neg HWD.out] at c_10
        go_wp2_with fail
        refine c_10.mono ?_
        clear c_10
        rintro e' w_10 ⟨rfl, a_10, k_10⟩
        simp only at a_10
        clear a_9
        have y0 := k_10.cell y0 s0
        have y1 := k_10.cell y1 s1
        have y2 := k_10.cell y2 s2
        have G := a_10.good
        obtain ⟨p1, hp1⟩ : ∃ b : Bool, b = decide (z2 = z0) := ⟨_, rfl⟩
        obtain ⟨p2, hp2⟩ : ∃ b : Bool, b = decide (z2 = z1) := ⟨_, rfl⟩
        have x0 : (t_ju == t_js) = true := by have := ju.same G js; simpa using this
        have x1 : (z2 == z0) = p1 := by rw [hp1]; rw [Bool.eq_iff_iff]; simp
        have x2 : (z2 == z1) = p2 := by rw [hp2]; rw [Bool.eq_iff_iff]; simp
        have hb : ¬ t_jb = z1 := by have := jb.less G z1 (by simp); omega
        have V1 : verifyM d_9 t_jp z1 t_js = true := by rw [verify_is js jp]; simp
        have V2 : verifyM d_9 t_jo z1 t_js = p1 := by rw [verify_is js jo, hp1]; simp [eq_comm]
        have V3 : verifyM d_9 t_jp z2 t_js = p2 := by rw [verify_is js jp, hp2]; simp [eq_comm]
        have V4 : verifyM d_9 t_jp z1 t_jk = false := by rw [verify_is jk jp]; simp [hb]
        have V5 : checkM d_9 z0 z1 t_jt = true := by rw [check_is jt]; simp
        have V6 : checkM d_9 z2 z1 t_jt = p1 := by rw [check_is jt, hp1]; simp [eq_comm]
        have hv : ∀ W, Kept w_10 W → ∀ k n x : Int, Calls Tryd.prog 22 #[.pointer (some pa), .int .i64 k, .int .i64 n, .int .i64 x] W fun e w' => e = .returned (.bool (verifyM d_9 k n x)) ∧ Kept W w' := fun W kk k n x => verifyA (a_10.step kk) k n x
        have hc : ∀ W, Kept w_10 W → ∀ k n x : Int, Calls Tryd.prog 23 #[.pointer (some pa), .int .i64 k, .int .i64 n, .int .i64 x] W fun e w' => e = .returned (.bool (checkM d_9 k n x)) ∧ Kept W w' := fun W kk k n x => checkA (a_10.step kk) k n x
        generalize verifyM d_9 = V at hv V1 V2 V3 V4
        generalize checkM d_9 = C at hc V5 V6
        have AE := Shut.mk a_10.kept
        clear hp1 hp2 hb G i0 i1 i2 e0 e1 e2 ed eb jd jw jp jo js jt jb jk ju a_10
        obtain ⟨wz, hwz⟩ : ∃ wz, wz = w_10 := ⟨_, rfl⟩
        rw [← hwz] at hv hc AE
        have kz : Kept wz w_10 := by rw [hwz]; exact Kept.refl _
        have n0' : wz.cell? ⟨w.heap.size, 0, none⟩ = some (.int .i64 z0) := by rw [hwz]; exact y0
        have n1' : wz.cell? ⟨w.heap.size + 1, 0, none⟩ = some (.int .i64 z1) := by rw [hwz]; exact y1
        have n2' : wz.cell? ⟨w.heap.size + 2, 0, none⟩ = some (.int .i64 z2) := by rw [hwz]; exact y2
        clear hwz
        go_wp2_with (first
          | (go_at_call 22; (refine (hv _ (by first | exact kz | exact kz.drew | exact kz.drewN _) _ _ _).mono ?_; rintro e w51 ⟨he, k51⟩; simp only [V1, V2, V3, V4, V5, V6] at he; subst he; have q51 : Kept wz w51 := (by first | exact Kept.trans kz k51 | exact Kept.trans kz.drew k51 | exact Kept.trans (kz.drewN _) k51); obtain ⟨c510, c511, c512⟩ := (show _ ∧ _ ∧ _ from ⟨kept_cell' q51 n0', kept_cell' q51 n1', kept_cell' q51 n2'⟩)))
          | (go_at_call 23; (refine (hc _ (by first | exact q51 | exact q51.drew | exact q51.drewN _) _ _ _).mono ?_; rintro e w52 ⟨he, k52⟩; simp only [V1, V2, V3, V4, V5, V6] at he; subst he; have q52 : Kept wz w52 := (by first | exact Kept.trans q51 k52 | exact Kept.trans q51.drew k52 | exact Kept.trans (q51.drewN _) k52); obtain ⟨c520, c521, c522⟩ := (show _ ∧ _ ∧ _ from ⟨kept_cell' q52 n0', kept_cell' q52 n1', kept_cell' q52 n2'⟩)))
          | fail)
        clear kz k51 q51 c510 c511 c512 y0 y1 y2
        go_region_held3 (fun w' => w'.cell? ⟨w.heap.size, 0, none⟩ = some (.int .i64 z0) ∧ w'.cell? ⟨w.heap.size + 1, 0, none⟩ = some (.int .i64 z1) ∧ w'.cell? ⟨w.heap.size + 2, 0, none⟩ = some (.int .i64 z2))
          (first
            | exact ⟨kept_cell' q52 n0', kept_cell' q52 n1', kept_cell' q52 n2'⟩
            | exact ⟨kept_cell' q52.drew n0', kept_cell' q52.drew n1', kept_cell' q52.drew n2'⟩
            | exact ⟨kept_cell' (q52.drewN _) n0', kept_cell' (q52.drewN _) n1', kept_cell' (q52.drewN _) n2'⟩
            | exact ⟨kept_cell' q61 n0', kept_cell' q61 n1', kept_cell' q61 n2'⟩
            | exact ⟨kept_cell' q61.drew n0', kept_cell' q61.drew n1', kept_cell' q61.drew n2'⟩
            | exact ⟨kept_cell' (q61.drewN _) n0', kept_cell' (q61.drewN _) n1', kept_cell' (q61.drewN _) n2'⟩
            | exact ⟨kept_cell' q62 n0', kept_cell' q62 n1', kept_cell' q62 n2'⟩
            | exact ⟨kept_cell' q62.drew n0', kept_cell' q62.drew n1', kept_cell' q62.drew n2'⟩
            | exact ⟨kept_cell' (q62.drewN _) n0', kept_cell' (q62.drewN _) n1', kept_cell' (q62.drewN _) n2'⟩
            | exact ⟨kept_cell' q63 n0', kept_cell' q63 n1', kept_cell' q63 n2'⟩
            | exact ⟨kept_cell' q63.drew n0', kept_cell' q63.drew n1', kept_cell' q63.drew n2'⟩
            | exact ⟨kept_cell' (q63.drewN _) n0', kept_cell' (q63.drewN _) n1', kept_cell' (q63.drewN _) n2'⟩
            | exact ⟨kept_cell' q64 n0', kept_cell' q64 n1', kept_cell' q64 n2'⟩
            | exact ⟨kept_cell' q64.drew n0', kept_cell' q64.drew n1', kept_cell' q64.drew n2'⟩
            | exact ⟨kept_cell' (q64.drewN _) n0', kept_cell' (q64.drewN _) n1', kept_cell' (q64.drewN _) n2'⟩)
          ((first | (go_at_call 22; first | (refine (hv _ (by first | exact q52 | exact q52.drew | exact q52.drewN _) _ _ _).mono ?_; rintro e w61 ⟨he, k61⟩; simp only [V1, V2, V3, V4, V5, V6] at he; subst he; have q61 : Kept wz w61 := (by first | exact Kept.trans q52 k61 | exact Kept.trans q52.drew k61 | exact Kept.trans (q52.drewN _) k61)) | (refine (hv _ (by first | exact q61 | exact q61.drew | exact q61.drewN _) _ _ _).mono ?_; rintro e w62 ⟨he, k62⟩; simp only [V1, V2, V3, V4, V5, V6] at he; subst he; have q62 : Kept wz w62 := (by first | exact Kept.trans q61 k62 | exact Kept.trans q61.drew k62 | exact Kept.trans (q61.drewN _) k62)) | (refine (hv _ (by first | exact q63 | exact q63.drew | exact q63.drewN _) _ _ _).mono ?_; rintro e w64 ⟨he, k64⟩; simp only [V1, V2, V3, V4, V5, V6] at he; subst he; have q64 : Kept wz w64 := (by first | exact Kept.trans q63 k64 | exact Kept.trans q63.drew k64 | exact Kept.trans (q63.drewN _) k64))) | (go_at_call 23; (refine (hc _ (by first | exact q62 | exact q62.drew | exact q62.drewN _) _ _ _).mono ?_; rintro e w63 ⟨he, k63⟩; simp only [V1, V2, V3, V4, V5, V6] at he; subst he; have q63 : Kept wz w63 := (by first | exact Kept.trans q62 k63 | exact Kept.trans q62.drew k63 | exact Kept.trans (q62.drewN _) k63)))))
        go_wp2
        go_ret
        first | exact ⟨rfl, AE.out.trans q64⟩ | exact ⟨rfl, AE.out.trans q64.drew⟩ | exact ⟨rfl, AE.out.trans (q64.drewN _)⟩
end Go.Proofs.YtihagkeljhgomaaDoor
