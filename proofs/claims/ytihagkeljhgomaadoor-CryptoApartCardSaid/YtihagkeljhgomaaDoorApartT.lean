/- The walk of CryptoApart. -/
import Derived.Test.YtihagkeljhgomaaDoorCrI
import Derived.Deep.DeepCutAuto
set_option linter.unusedSimpArgs false
set_option linter.unusedVariables false
namespace Go.Proofs.YtihagkeljhgomaaDoor
open Go.RowKit Go.Maps

/-- The blocks that are there, and 3 more. -/
def SX3 (w : World) : Nat → Prop := fun b => b < w.heap.size + 3
/-- A number among the terms. -/
def red (m x : Int) : Int := (x.tmod m + m).tmod m
theorem red_lt {m x : Int} (hm : 0 < m) : 0 ≤ red m x ∧ red m x < m := by
  have h1 := Int.tmod_lt_of_pos x hm
  have h2 := Int.lt_tmod_of_pos x hm
  have h3 : 0 ≤ x.tmod m + m := by omega
  unfold red
  exact ⟨Int.tmod_nonneg _ h3, Int.tmod_lt_of_pos _ hm⟩
/-- What a number is behind so many rounds. -/
def cur (m : Int) (k j : Nat) (x : Int) : Int := if j < k then red m x else x
theorem cur_lo {m x : Int} {k j : Nat} (h : ¬ j < k) : cur m k j x = x := if_neg h
theorem cur_hi {m x : Int} {k j : Nat} (h : j < k) : cur m k j x = red m x := if_pos h
theorem cur_same {m x : Int} {k j : Nat} (h : j ≠ k) : cur m (k + 1) j x = cur m k j x := by
  unfold cur
  by_cases c : j < k
  · rw [if_pos c, if_pos (by omega)]
  · rw [if_neg c, if_neg (by omega)]

set_option maxHeartbeats 8000000 in
set_option maxRecDepth 100000 in
theorem apart_walk {w : World} {v : Value} {ls : List Opn} (hv : RdOs w v ls) (hok : ∀ o ∈ ls, OpnOk o) {x0 : Int} (hx0 : I64 x0) {x1 : Int} (hx1 : I64 x1) {x2 : Int} (hx2 : I64 x2) (P : ByteArray) (hP : P.size ≤ 9223372036854775807) (Q : ByteArray) (hQ : Q.size ≤ 9223372036854775807) (ht : Tabs w) :
    Calls Tryd.prog 5 #[v, .int .i64 x0, .int .i64 x1, .int .i64 x2, .string P, .string Q] w fun e w' => e = .returned (.bool true) ∧ Kept w w' := by
  obtain ⟨na, ncap, rfl, n1, n2, _⟩ := hv.len
  obtain ⟨xp, hxp⟩ : ∃ x, P = strB x := ⟨P.data.toList, by cases P; rfl⟩
  obtain ⟨xq, hxq⟩ : ∃ x, Q = strB x := ⟨Q.data.toList, by cases Q; rfl⟩
  have p1 : P.size = xp.length := by rw [hxp, strB_size]
  have p2 : Q.size = xq.length := by rw [hxq, strB_size]
  have p3 : P.toList = xp := by rw [hxp, strB_list]
  have p4 : Q.toList = xq := by rw [hxq, strB_list]
  have HXP := Shut.mk hxp
  have HXQ := Shut.mk hxq
  have HP3 := Shut.mk p3
  have HP4 := Shut.mk p4
  clear hxp hxq p3 p4
  have kb : Kept w (((w.alloc (.cells #[.int .i64 x0] 3)).alloc (.cells #[.int .i64 x1] 3)).alloc (.cells #[.int .i64 x2] 3)) := ((((Kept.refl w)).alloc _).alloc _).alloc _
  have b0 := Blk.new w [.int .i64 x0] 3
  have b1 := Blk.new (w.alloc (.cells #[.int .i64 x0] 3)) [.int .i64 x1] 3
  simp only [alloc_size] at b1
  have b2 := Blk.new ((w.alloc (.cells #[.int .i64 x0] 3)).alloc (.cells #[.int .i64 x1] 3)) [.int .i64 x2] 3
  simp only [alloc_size] at b2
  have b0 := b0.kept (((Kept.refl _).alloc (.cells #[.int .i64 x1] 3)).alloc (.cells #[.int .i64 x2] 3))
  have b1 := b1.kept ((Kept.refl _).alloc (.cells #[.int .i64 x2] 3))
  generalize hW : ((w.alloc (.cells #[.int .i64 x0] 3)).alloc (.cells #[.int .i64 x1] 3)).alloc (.cells #[.int .i64 x2] 3) = wb at kb b0 b1 b2
  have hsz : wb.heap.size = w.heap.size + 3 := by rw [← hW]; simp only [alloc_size]
  go_enter Tryd.func5, Tryd.ntmps5
  go_upto_region 1 with fail
  try rw [hW]
  clear hW
  go_wp2_with fail
  refine (liveA (ht.kept kb)).mono ?_
  rintro e w1 ⟨rfl, k1⟩
  have k01 := kb.trans k1
  go_wp2_with fail
  refine (fewA (hv.kept k01)).mono ?_
  rintro e w2 ⟨b, rfl, hfew, k2⟩
  have k02 := k01.trans k2
  cases b with
  | false =>
    go_wp2
    go_ret
    exact ⟨rfl, k02⟩
  | true =>
    have hf := hfew rfl
    clear hfew
    have b0 := (b0.kept k1).kept k2
    have b1 := (b1.kept k1).kept k2
    have b2 := (b2.kept k1).kept k2
    have hs2 : w.heap.size + 3 ≤ w2.heap.size := by rw [← hsz]; exact (k1.trans k2).size
    by_cases c1 : 100 < P.size
    · go_wp2
      go_ret
      exact ⟨rfl, k02⟩
    by_cases c2 : 100 < Q.size
    · go_wp2
      go_ret
      exact ⟨rfl, k02⟩
    have hxp2 : xp.length ≤ 200 := by omega
    have hxq2 : xq.length ≤ 200 := by omega
    have hxp3 : xp.length ≤ maxLen := by unfold maxLen; omega
    have hxq3 : xq.length ≤ maxLen := by unfold maxLen; omega
    go_wp2_with fail
    refine (grownA hv hok hf k02 ht (S := SX3 w) (fun b hb => Nat.lt_of_lt_of_le hb hs2) (fun b hb => Nat.lt_of_lt_of_le hb (Nat.le_add_right _ _))).mono ?_
    rintro e w3 ⟨p, pv, ds, ts, rfl, a3, o3, hts, his, hdl, k3, pa, rfl⟩
    have b0 := k3.blk b0 (by unfold SX3; omega)
    have b1 := k3.blk b1 (by unfold SX3; omega)
    have b2 := k3.blk b2 (by unfold SX3; omega)
    have hpos : 0 < ds.length := by have := (his 0 (by omega)).hi; have := (his 0 (by omega)).lo; omega
    have hlen : ds.length ≤ 605 := by omega
    have a3 := a3.less (S := SX3 w) (fun b hb => .inl hb) (fun b hb => Nat.lt_of_lt_of_le hb (Nat.le_add_right _ _))
    clear his hts o3
    clear hf
    go_wp2_with fail
    refine (lenA a3).mono ?_
    rintro e w' ⟨rfl, rfl⟩
    obtain ⟨m, hm⟩ : ∃ m, m = (ds.length : Int) := ⟨_, rfl⟩
    rw [← hm]
    have m1 : 0 < m := by omega
    have m2 : m ≤ 605 := by omega
    have HM := Shut.mk hm
    clear hm
    have bp := Blk.new w3 [.pointer (some ⟨w.heap.size, 0, none⟩), .pointer (some ⟨w.heap.size + 1, 0, none⟩), .pointer (some ⟨w.heap.size + 2, 0, none⟩)] 30
    have kp : Kept w3 (w3.alloc (.cells #[.pointer (some ⟨w.heap.size, 0, none⟩), .pointer (some ⟨w.heap.size + 1, 0, none⟩), .pointer (some ⟨w.heap.size + 2, 0, none⟩)] 30)) := (Kept.refl w3).alloc _
    have ap := a3.step kp
    have b0 := b0.kept kp
    have b1 := b1.kept kp
    have b2 := b2.kept kp
    have hs3 : w.heap.size + 3 ≤ w3.heap.size := Nat.le_trans hs2 k3.size
    clear a3 k01 k02 k1 k2 kb hsz hs2
    go_wp2_with fail
    generalize hWp : w3.alloc (.cells #[.pointer (some ⟨w.heap.size, 0, none⟩), .pointer (some ⟨w.heap.size + 1, 0, none⟩), .pointer (some ⟨w.heap.size + 2, 0, none⟩)] 30) = wp at *
    clear hWp
    go_loopw [53] (fun i wr => ∃ k : Nat, k ≤ 3 ∧ i = .int .i64 k ∧ Blk wr w.heap.size 3 [.int .i64 (cur m k 0 x0)] ∧ Blk wr (w.heap.size + 1) 3 [.int .i64 (cur m k 1 x1)] ∧ Blk wr (w.heap.size + 2) 3 [.int .i64 (cur m k 2 x2)] ∧ Blk wr w3.heap.size 30 [.pointer (some ⟨w.heap.size, 0, none⟩), .pointer (some ⟨w.heap.size + 1, 0, none⟩), .pointer (some ⟨w.heap.size + 2, 0, none⟩)] ∧ At w (SX3 w) wr (.pointer (some pa)) ds ∧ Turn (fun b => w.heap.size ≤ b ∧ b < w.heap.size + 3) wp wr) (fun i _ => 3 - (intOf i).toNat)
    case atStart => exact ⟨0, Nat.zero_le _, rfl, b0, b1, b2, bp, ap, Turn.refl _ _⟩
    case round =>
      obtain ⟨k, hk, rfl, g0, g1, g2, gp, ga, gt⟩ := hrel
      by_cases hlt : k < 3
      · have p0 : ∀ i, wr.cell? ⟨w3.heap.size, i, none⟩ = _ := fun i => gp.cell i
        have hcase : k = 0 ∨ k = 1 ∨ k = 2 := by omega
        rcases hcase with rfl | rfl | rfl
        · rw [cur_lo (show ¬ 0 < 0 by omega)] at g0
          have y := p0 0
          simp only [List.getElem?_cons_succ, List.getElem?_cons_zero] at y
          have z := g0.cell 0
          have f := g0.frozen 0
          simp only [List.getElem?_cons_zero] at z
          have hr := red_lt (x := x0) m1
          have hq1 := Int.tmod_lt_of_pos x0 m1
          have hq2 := Int.lt_tmod_of_pos x0 m1
          have hcs : cur m (0 + 1) 0 x0 = red m x0 := cur_hi (by omega)
          unfold red at hr hcs
          have HC := Shut.mk hcs
          clear hcs
          obtain ⟨q, hq⟩ : ∃ q, q = x0.tmod m := ⟨_, rfl⟩
          rw [← hq] at hr hq1 hq2
          have HQ := Shut.mk hq
          have hq' := hq.symm
          clear hq
          obtain ⟨r, hr2⟩ : ∃ r, r = (q + m).tmod m := ⟨_, rfl⟩
          rw [← hr2] at hr
          have HR := Shut.mk hr2
          have hr' := hr2.symm
          clear hr2 p0
          go_wp2
          have t0 := turn_setCell wr ⟨w.heap.size, 0, none⟩ (.int .i64 r)
          go_roundw
          case rel =>
            refine ⟨1, hlt, rfl, ?_, ?_, ?_, ?_, ?_, ?_⟩
            · rw [HC.out, ← HQ.out, ← HR.out]; exact g0.set 0 (.int .i64 r)
            · rw [show cur m 1 1 x1 = cur m 0 1 x1 from cur_same (by omega)]; exact g1.turn t0 (fun e => by simp at e)
            · rw [show cur m 1 2 x2 = cur m 0 2 x2 from cur_same (by omega)]; exact g2.turn t0 (fun e => by simp at e)
            · exact gp.turn t0 (fun e => by have e' : w3.heap.size = w.heap.size := e; omega)
            · exact ga.turn t0 (fun b e => ⟨(by have e' : b = w.heap.size := e; unfold SX3; omega), by have e' : b = w.heap.size := e; omega⟩)
            · exact gt.trans t0 (fun b e => .inl (by have e' : b = w.heap.size := e; omega))
          case measure => simp [intOf]
        · rw [cur_lo (show ¬ 1 < 1 by omega)] at g1
          have y := p0 1
          simp only [List.getElem?_cons_succ, List.getElem?_cons_zero] at y
          have z := g1.cell 0
          have f := g1.frozen 0
          simp only [List.getElem?_cons_zero] at z
          have hr := red_lt (x := x1) m1
          have hq1 := Int.tmod_lt_of_pos x1 m1
          have hq2 := Int.lt_tmod_of_pos x1 m1
          have hcs : cur m (1 + 1) 1 x1 = red m x1 := cur_hi (by omega)
          unfold red at hr hcs
          have HC := Shut.mk hcs
          clear hcs
          obtain ⟨q, hq⟩ : ∃ q, q = x1.tmod m := ⟨_, rfl⟩
          rw [← hq] at hr hq1 hq2
          have HQ := Shut.mk hq
          have hq' := hq.symm
          clear hq
          obtain ⟨r, hr2⟩ : ∃ r, r = (q + m).tmod m := ⟨_, rfl⟩
          rw [← hr2] at hr
          have HR := Shut.mk hr2
          have hr' := hr2.symm
          clear hr2 p0
          go_wp2
          have t0 := turn_setCell wr ⟨w.heap.size + 1, 0, none⟩ (.int .i64 r)
          go_roundw
          case rel =>
            refine ⟨2, hlt, rfl, ?_, ?_, ?_, ?_, ?_, ?_⟩
            · rw [show cur m 2 0 x0 = cur m 1 0 x0 from cur_same (by omega)]; exact g0.turn t0 (fun e => by simp at e)
            · rw [HC.out, ← HQ.out, ← HR.out]; exact g1.set 0 (.int .i64 r)
            · rw [show cur m 2 2 x2 = cur m 1 2 x2 from cur_same (by omega)]; exact g2.turn t0 (fun e => by simp at e)
            · exact gp.turn t0 (fun e => by have e' : w3.heap.size = w.heap.size + 1 := e; omega)
            · exact ga.turn t0 (fun b e => ⟨(by have e' : b = w.heap.size + 1 := e; unfold SX3; omega), by have e' : b = w.heap.size + 1 := e; omega⟩)
            · exact gt.trans t0 (fun b e => .inl (by have e' : b = w.heap.size + 1 := e; omega))
          case measure => simp [intOf]
        · rw [cur_lo (show ¬ 2 < 2 by omega)] at g2
          have y := p0 2
          simp only [List.getElem?_cons_succ, List.getElem?_cons_zero] at y
          have z := g2.cell 0
          have f := g2.frozen 0
          simp only [List.getElem?_cons_zero] at z
          have hr := red_lt (x := x2) m1
          have hq1 := Int.tmod_lt_of_pos x2 m1
          have hq2 := Int.lt_tmod_of_pos x2 m1
          have hcs : cur m (2 + 1) 2 x2 = red m x2 := cur_hi (by omega)
          unfold red at hr hcs
          have HC := Shut.mk hcs
          clear hcs
          obtain ⟨q, hq⟩ : ∃ q, q = x2.tmod m := ⟨_, rfl⟩
          rw [← hq] at hr hq1 hq2
          have HQ := Shut.mk hq
          have hq' := hq.symm
          clear hq
          obtain ⟨r, hr2⟩ : ∃ r, r = (q + m).tmod m := ⟨_, rfl⟩
          rw [← hr2] at hr
          have HR := Shut.mk hr2
          have hr' := hr2.symm
          clear hr2 p0
          go_wp2
          have t0 := turn_setCell wr ⟨w.heap.size + 2, 0, none⟩ (.int .i64 r)
          go_roundw
          case rel =>
            refine ⟨3, hlt, rfl, ?_, ?_, ?_, ?_, ?_, ?_⟩
            · rw [show cur m 3 0 x0 = cur m 2 0 x0 from cur_same (by omega)]; exact g0.turn t0 (fun e => by simp at e)
            · rw [show cur m 3 1 x1 = cur m 2 1 x1 from cur_same (by omega)]; exact g1.turn t0 (fun e => by simp at e)
            · rw [HC.out, ← HQ.out, ← HR.out]; exact g2.set 0 (.int .i64 r)
            · exact gp.turn t0 (fun e => by have e' : w3.heap.size = w.heap.size + 2 := e; omega)
            · exact ga.turn t0 (fun b e => ⟨(by have e' : b = w.heap.size + 2 := e; unfold SX3; omega), by have e' : b = w.heap.size + 2 := e; omega⟩)
            · exact gt.trans t0 (fun b e => .inl (by have e' : b = w.heap.size + 2 := e; omega))
          case measure => simp [intOf]
      · skip
        obtain rfl : k = 3 := by omega
        have hlen' : ds.length ≤ 605 + 0 := by omega
        rw [cur_hi (show 0 < 3 by omega)] at g0
        have i0 : IsT ds (red m x0) := ⟨(red_lt m1).1, by have := (red_lt (x := x0) m1).2; rw [HM.out] at this ⊢; exact this⟩
        have y0 := g0.cell 0
        simp only [List.getElem?_cons_zero] at y0
        generalize red m x0 = z0 at i0 y0
        have e0 : I64 z0 := i0.i64 ga.few
        have s0 : SX3 w (w.heap.size) := by unfold SX3; omega
        clear g0
        rw [cur_hi (show 1 < 3 by omega)] at g1
        have i1 : IsT ds (red m x1) := ⟨(red_lt m1).1, by have := (red_lt (x := x1) m1).2; rw [HM.out] at this ⊢; exact this⟩
        have y1 := g1.cell 0
        simp only [List.getElem?_cons_zero] at y1
        generalize red m x1 = z1 at i1 y1
        have e1 : I64 z1 := i1.i64 ga.few
        have s1 : SX3 w (w.heap.size + 1) := by unfold SX3; omega
        clear g1
        rw [cur_hi (show 2 < 3 by omega)] at g2
        have i2 : IsT ds (red m x2) := ⟨(red_lt m1).1, by have := (red_lt (x := x2) m1).2; rw [HM.out] at this ⊢; exact this⟩
        have y2 := g2.cell 0
        simp only [List.getElem?_cons_zero] at y2
        generalize red m x2 = z2 at i2 y2
        have e2 : I64 z2 := i2.i64 ga.few
        have s2 : SX3 w (w.heap.size + 2) := by unfold SX3; omega
        clear g2
        clear gp gt hlt hk
        obtain ⟨r_1, t_jx, u_jx, m_1, q_1, g_jx, jx⟩ := expand_is i0 i1 hxp2 (by have := hlen; omega)
        have c_1 := expandA ga e0 e1 hxp3
        rw [m_1, ← HXP.out] at c_1
        clear m_1
        go_wp2_with fail
        refine c_1.mono ?_
        clear c_1
        rintro e' w_1 ⟨rfl, a_1, k_1⟩
        simp only at a_1
        have i0 := i0.more r_1
        have i1 := i1.more r_1
        have i2 := i2.more r_1
        have l_1 : (ds ++ r_1).length ≤ 605 + 2 := by rw [List.length_append]; have := hlen; omega
        generalize ds ++ r_1 = d_1 at a_1 l_1 i0 i1 i2 jx g_jx
        clear q_1 hlen ga
        have y0 := k_1.cell y0 s0
        have y1 := k_1.cell y1 s1
        have y2 := k_1.cell y2 s2
        obtain ⟨r_2, t_jy, u_jy, m_2, q_2, g_jy, jy⟩ := expand_is i0 i2 hxq2 (by have := l_1; omega)
        have c_2 := expandA a_1 e0 e2 hxq3
        rw [m_2, ← HXQ.out] at c_2
        clear m_2
        go_wp2_with fail
        refine c_2.mono ?_
        clear c_2
        rintro e' w_2 ⟨rfl, a_2, k_2⟩
        simp only at a_2
        have i0 := i0.more r_2
        have i1 := i1.more r_2
        have i2 := i2.more r_2
        have jx := jx.more r_2
        have g_jx := g_jx.more r_2
        have l_2 : (d_1 ++ r_2).length ≤ 605 + 4 := by rw [List.length_append]; have := l_1; omega
        generalize d_1 ++ r_2 = d_2 at a_2 l_2 i0 i1 i2 jx g_jx jy g_jy
        clear q_2 l_1 a_1
        have y0 := k_2.cell y0 s0
        have y1 := k_2.cell y1 s1
        have y2 := k_2.cell y2 s2
        obtain ⟨r_3, t_jz, u_jz, m_3, q_3, g_jz, jz⟩ := expand_is i1 i1 hxp2 (by have := l_2; omega)
        have c_3 := expandA a_2 e1 e1 hxp3
        rw [m_3, ← HXP.out] at c_3
        clear m_3
        go_wp2_with fail
        refine c_3.mono ?_
        clear c_3
        rintro e' w_3 ⟨rfl, a_3, k_3⟩
        simp only at a_3
        have i0 := i0.more r_3
        have i1 := i1.more r_3
        have i2 := i2.more r_3
        have jx := jx.more r_3
        have g_jx := g_jx.more r_3
        have jy := jy.more r_3
        have g_jy := g_jy.more r_3
        have l_3 : (d_2 ++ r_3).length ≤ 605 + 6 := by rw [List.length_append]; have := l_2; omega
        generalize d_2 ++ r_3 = d_3 at a_3 l_3 i0 i1 i2 jx g_jx jy g_jy jz g_jz
        clear q_3 l_2 a_2
        have y0 := k_3.cell y0 s0
        have y1 := k_3.cell y1 s1
        have y2 := k_3.cell y2 s2
        obtain ⟨r_4, t_jm, m_4, q_4, jm⟩ := mk_is (may2 (.inl rfl) i0 i1) (by have := l_3; omega)
        have c_4 := extractA a_3 e0 e1
        rw [show made d_3 5 [z0, z1] = _ from m_4] at c_4
        clear m_4
        go_wp2_with fail
        refine c_4.mono ?_
        clear c_4
        rintro e' w_4 ⟨rfl, a_4, k_4⟩
        simp only at a_4
        have i0 := i0.more r_4
        have i1 := i1.more r_4
        have i2 := i2.more r_4
        have jx := jx.more r_4
        have g_jx := g_jx.more r_4
        have jy := jy.more r_4
        have g_jy := g_jy.more r_4
        have jz := jz.more r_4
        have g_jz := g_jz.more r_4
        have l_4 : (d_3 ++ r_4).length ≤ 605 + 7 := by rw [List.length_append]; have := l_3; omega
        generalize d_3 ++ r_4 = d_4 at a_4 l_4 i0 i1 i2 jx g_jx jy g_jy jz g_jz jm
        clear q_4 l_3 a_3
        have y0 := k_4.cell y0 s0
        have y1 := k_4.cell y1 s1
        have y2 := k_4.cell y2 s2
        obtain ⟨r_5, t_jn, m_5, q_5, jn⟩ := mk_is (may2 (.inl rfl) i1 i0) (by have := l_4; omega)
        have c_5 := extractA a_4 e1 e0
        rw [show made d_4 5 [z1, z0] = _ from m_5] at c_5
        clear m_5
        go_wp2_with fail
        refine c_5.mono ?_
        clear c_5
        rintro e' w_5 ⟨rfl, a_5, k_5⟩
        simp only at a_5
        have i0 := i0.more r_5
        have i1 := i1.more r_5
        have i2 := i2.more r_5
        have jx := jx.more r_5
        have g_jx := g_jx.more r_5
        have jy := jy.more r_5
        have g_jy := g_jy.more r_5
        have jz := jz.more r_5
        have g_jz := g_jz.more r_5
        have jm := jm.more r_5
        have l_5 : (d_4 ++ r_5).length ≤ 605 + 8 := by rw [List.length_append]; have := l_4; omega
        generalize d_4 ++ r_5 = d_5 at a_5 l_5 i0 i1 i2 jx g_jx jy g_jy jz g_jz jm jn
        clear q_5 l_4 a_4
        have y0 := k_5.cell y0 s0
        have y1 := k_5.cell y1 s1
        have y2 := k_5.cell y2 s2
        have G := a_5.good
        have f1 : t_jx = t_jy ↔ (xp = xq ∧ z1 = z2) := by
          rw [jx.iff G jy]
          simp only [Nd.mk.injEq, List.cons.injEq, and_true, true_and]
          rw [g_jx.iff G g_jy]
          simp
        have f2 : t_jx = t_jz ↔ z0 = z1 := by
          rw [jx.iff G jz]
          simp only [Nd.mk.injEq, List.cons.injEq, and_true, true_and]
          rw [g_jx.iff G g_jz]
          simp
        have f3 : t_jm = t_jn ↔ z0 = z1 := by
          rw [jm.iff G jn]
          simp only [Nd.mk.injEq, List.cons.injEq, and_true, true_and]
          exact ⟨fun e => e.1, fun e => ⟨e, e.symm⟩⟩
        have f4 : (t_jx != z0) = true := by have := jx.less G z0 (by simp); simp; omega
        have f5 : (t_jx != z1) = true := by have := jx.less G z1 (by simp); simp; omega
        have f6 : (t_jm != z0) = true := by have := jm.less G z0 (by simp); simp; omega
        have f7 : (t_jm != t_jx) = true := by have := (jm.iff G jx); simp at this; simpa using this
        have F1 := Shut.mk f1
        have F2 := Shut.mk f2
        have F3 := Shut.mk f3
        have AE := Shut.mk a_5.kept
        clear f1 f2 f3 G i0 i1 i2 e0 e1 e2 jx jy jz jm jn g_jx g_jy g_jz a_5 hxp2 hxq2 hxp3 hxq3
        by_cases h1 : xp = xq
        · have H1 := Shut.mk h1
          clear h1
          by_cases h2 : z1 = z2
          · have H2 := Shut.mk h2
            clear h2
            by_cases h3 : z0 = z1
            · have H3 := Shut.mk h3
              clear h3
              have v1 : (t_jx == t_jy) = true := by have := F1.out; simp [this, H1.out, H2.out]
              have v2 : (P.toList == Q.toList) = true := by rw [HP3.out, HP4.out]; have := H1.out; simpa using this
              have v3 : (z1 == z2) = true := by have := H2.out; simpa using this
              have v4 : (t_jx == t_jz) = true := by have := F2.out; simp [this, H3.out]
              have v5 : (t_jm == t_jn) = true := by have := F3.out; simp [this, H3.out]
              have v6 : (z0 == z1) = true := by have := H3.out; simpa using this
              go_wp2
              go_ret
              exact ⟨rfl, AE.out⟩
            · have H3 := Shut.mk h3
              clear h3
              have v1 : (t_jx == t_jy) = true := by have := F1.out; simp [this, H1.out, H2.out]
              have v2 : (P.toList == Q.toList) = true := by rw [HP3.out, HP4.out]; have := H1.out; simpa using this
              have v3 : (z1 == z2) = true := by have := H2.out; simpa using this
              have v4 : (t_jx == t_jz) = false := by have := F2.out; simp [this, H3.out]
              have v5 : (t_jm == t_jn) = false := by have := F3.out; simp [this, H3.out]
              have v6 : (z0 == z1) = false := by have := H3.out; simpa using this
              go_wp2
              go_ret
              exact ⟨rfl, AE.out⟩
          · have H2 := Shut.mk h2
            clear h2
            by_cases h3 : z0 = z1
            · have H3 := Shut.mk h3
              clear h3
              have v1 : (t_jx == t_jy) = false := by have := F1.out; simp [this, H1.out, H2.out]
              have v2 : (P.toList == Q.toList) = true := by rw [HP3.out, HP4.out]; have := H1.out; simpa using this
              have v3 : (z1 == z2) = false := by have := H2.out; simpa using this
              have v4 : (t_jx == t_jz) = true := by have := F2.out; simp [this, H3.out]
              have v5 : (t_jm == t_jn) = true := by have := F3.out; simp [this, H3.out]
              have v6 : (z0 == z1) = true := by have := H3.out; simpa using this
              go_wp2
              go_ret
              exact ⟨rfl, AE.out⟩
            · have H3 := Shut.mk h3
              clear h3
              have v1 : (t_jx == t_jy) = false := by have := F1.out; simp [this, H1.out, H2.out]
              have v2 : (P.toList == Q.toList) = true := by rw [HP3.out, HP4.out]; have := H1.out; simpa using this
              have v3 : (z1 == z2) = false := by have := H2.out; simpa using this
              have v4 : (t_jx == t_jz) = false := by have := F2.out; simp [this, H3.out]
              have v5 : (t_jm == t_jn) = false := by have := F3.out; simp [this, H3.out]
              have v6 : (z0 == z1) = false := by have := H3.out; simpa using this
              go_wp2
              go_ret
              exact ⟨rfl, AE.out⟩
        · have H1 := Shut.mk h1
          clear h1
          by_cases h3 : z0 = z1
          · have H3 := Shut.mk h3
            clear h3
            have v1 : (t_jx == t_jy) = false := by have := F1.out; simp [this, H1.out]
            have v2 : (P.toList == Q.toList) = false := by rw [HP3.out, HP4.out]; have := H1.out; simpa using this
            have v4 : (t_jx == t_jz) = true := by have := F2.out; simp [this, H3.out]
            have v5 : (t_jm == t_jn) = true := by have := F3.out; simp [this, H3.out]
            have v6 : (z0 == z1) = true := by have := H3.out; simpa using this
            go_wp2
            go_ret
            exact ⟨rfl, AE.out⟩
          · have H3 := Shut.mk h3
            clear h3
            have v1 : (t_jx == t_jy) = false := by have := F1.out; simp [this, H1.out]
            have v2 : (P.toList == Q.toList) = false := by rw [HP3.out, HP4.out]; have := H1.out; simpa using this
            have v4 : (t_jx == t_jz) = false := by have := F2.out; simp [this, H3.out]
            have v5 : (t_jm == t_jn) = false := by have := F3.out; simp [this, H3.out]
            have v6 : (z0 == z1) = false := by have := H3.out; simpa using this
            go_wp2
            go_ret
            exact ⟨rfl, AE.out⟩
end Go.Proofs.YtihagkeljhgomaaDoor
