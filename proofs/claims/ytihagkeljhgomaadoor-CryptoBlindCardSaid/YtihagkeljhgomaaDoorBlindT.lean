/- The walk of CryptoBlind. -/
import Derived.Test.YtihagkeljhgomaaDoorCrI
import Derived.Deep.DeepCutAuto
import Derived.Deep.RegionHeld3
import Derived.StillTailTactics
set_option linter.unusedSimpArgs false
set_option linter.unusedVariables false
namespace Go.Proofs.YtihagkeljhgomaaDoor
open Go.RowKit Go.Maps

/-- The blocks that are there, and 3 more. -/
def SX3 (w : World) : Nat → Prop := fun b => b < w.heap.size + 3
theorem kept_cell' {a b : World} {p : Addr} {v : Value} (k : Kept a b) (h : a.cell? p = some v) : b.cell? p = some v := (Below.cell k (World.block_lt_of_cell? _ _ h)).trans h
/-- A number among the terms. -/
def red (m x : Int) : Int := (x.tmod m + m).tmod m
theorem red_lt {m x : Int} (hm : 0 < m) : 0 ≤ red m x ∧ red m x < m := by
  have h1 := Int.tmod_lt_of_pos x hm
  have h2 := Int.lt_tmod_of_pos x hm
  have h3 : 0 ≤ x.tmod m + m := by omega
  unfold red
  exact ⟨Int.tmod_nonneg _ h3, Int.tmod_lt_of_pos _ hm⟩
/-- What a number is behind so many rounds. -/
def cur (m : Int) (k j : Nat) (x : Int) : Int := if j < k then red m x else x
theorem cur_lo {m x : Int} {k j : Nat} (h : ¬ j < k) : cur m k j x = x := if_neg h
theorem cur_hi {m x : Int} {k j : Nat} (h : j < k) : cur m k j x = red m x := if_pos h
theorem cur_same {m x : Int} {k j : Nat} (h : j ≠ k) : cur m (k + 1) j x = cur m k j x := by
  unfold cur
  by_cases c : j < k
  · rw [if_pos c, if_pos (by omega)]
  · rw [if_neg c, if_neg (by omega)]

set_option maxHeartbeats 8000000 in
set_option maxRecDepth 100000 in
theorem blind_walk {w : World} {v : Value} {ls : List Opn} (hv : RdOs w v ls) (hok : ∀ o ∈ ls, OpnOk o) {x0 : Int} (hx0 : I64 x0) {x1 : Int} (hx1 : I64 x1) {x2 : Int} (hx2 : I64 x2) (ht : Tabs w) :
    Calls Tryd.prog 7 #[v, .int .i64 x0, .int .i64 x1, .int .i64 x2] w fun e w' => e = .returned (.bool true) ∧ Kept w w' := by
  obtain ⟨na, ncap, rfl, n1, n2, _⟩ := hv.len
  have kb : Kept w (((w.alloc (.cells #[.int .i64 x0] 3)).alloc (.cells #[.int .i64 x1] 3)).alloc (.cells #[.int .i64 x2] 3)) := ((((Kept.refl w)).alloc _).alloc _).alloc _
  have b0 := Blk.new w [.int .i64 x0] 3
  have b1 := Blk.new (w.alloc (.cells #[.int .i64 x0] 3)) [.int .i64 x1] 3
  simp only [alloc_size] at b1
  have b2 := Blk.new ((w.alloc (.cells #[.int .i64 x0] 3)).alloc (.cells #[.int .i64 x1] 3)) [.int .i64 x2] 3
  simp only [alloc_size] at b2
  have b0 := b0.kept (((Kept.refl _).alloc (.cells #[.int .i64 x1] 3)).alloc (.cells #[.int .i64 x2] 3))
  have b1 := b1.kept ((Kept.refl _).alloc (.cells #[.int .i64 x2] 3))
  generalize hW : ((w.alloc (.cells #[.int .i64 x0] 3)).alloc (.cells #[.int .i64 x1] 3)).alloc (.cells #[.int .i64 x2] 3) = wb at kb b0 b1 b2
  have hsz : wb.heap.size = w.heap.size + 3 := by rw [← hW]; simp only [alloc_size]
  go_enter Tryd.func7, Tryd.ntmps7
  go_upto_region 1 with fail
  try rw [hW]
  clear hW
  go_wp2_with fail
  refine (liveA (ht.kept kb)).mono ?_
  rintro e w1 ⟨rfl, k1⟩
  have k01 := kb.trans k1
  go_wp2_with fail
  refine (fewA (hv.kept k01)).mono ?_
  rintro e w2 ⟨b, rfl, hfew, k2⟩
  have k02 := k01.trans k2
  cases b with
  | false =>
    go_wp2
    go_ret
    exact ⟨rfl, k02⟩
  | true =>
    have hf := hfew rfl
    clear hfew
    have b0 := (b0.kept k1).kept k2
    have b1 := (b1.kept k1).kept k2
    have b2 := (b2.kept k1).kept k2
    have hs2 : w.heap.size + 3 ≤ w2.heap.size := by rw [← hsz]; exact (k1.trans k2).size
    go_wp2_with fail
    refine (grownB hv hok hf k02 ht (S := SX3 w) (fun b hb => Nat.lt_of_lt_of_le hb hs2) (fun b hb => Nat.lt_of_lt_of_le hb (Nat.le_add_right _ _))).mono ?_
    rintro e w3 ⟨p, pv, ds, ts, rfl, a3, o3, hts, his, hdl, k3, ⟨pa, rfl⟩, hbl⟩
    have b0 := k3.blk b0 (by unfold SX3; omega)
    have b1 := k3.blk b1 (by unfold SX3; omega)
    have b2 := k3.blk b2 (by unfold SX3; omega)
    have hpos : 0 < ds.length := by have := (his 0 (by omega)).hi; have := (his 0 (by omega)).lo; omega
    have hlen : ds.length ≤ 605 := by omega
    obtain ⟨rb, ro, rc, hpv, _, _, hrb, hcl⟩ := (OwnI.rd o3).addr (by rw [hts]; omega)
    subst hpv
    have hrb2 := hbl rb rfl
    have q0 : w3.cell? ⟨rb, ro, none⟩ = some (.int .i64 (ts.getD 0 0)) := hcl 0 (by rw [hts]; omega)
    have q1 : w3.cell? ⟨rb, ro + 1, none⟩ = some (.int .i64 (ts.getD 1 0)) := hcl 1 (by rw [hts]; omega)
    have j0 : Is ds (ts.getD 0 0) ⟨1, 100, [], []⟩ := his 0 (by omega)
    have j1 : Is ds (ts.getD 1 0) ⟨1, 101, [], []⟩ := his 1 (by omega)
    have hdd : ts.getD 1 0 ≠ ts.getD 0 0 := a3.good.ne j1 j0 (by simp)
    generalize ts.getD 0 0 = d0 at q0 j0 hdd
    generalize ts.getD 1 0 = d1 at q1 j1 hdd
    rw [hts] at a3 ⊢
    have HDD := Shut.mk hdd
    clear hcl his hts o3 hbl hdd
    clear hf
    go_wp2_with fail
    refine (lenA a3).mono ?_
    rintro e w' ⟨rfl, rfl⟩
    obtain ⟨m, hm⟩ : ∃ m, m = (ds.length : Int) := ⟨_, rfl⟩
    rw [← hm]
    have m1 : 0 < m := by omega
    have m2 : m ≤ 605 := by omega
    have HM := Shut.mk hm
    clear hm
    have bp := Blk.new w3 [.pointer (some ⟨w.heap.size, 0, none⟩), .pointer (some ⟨w.heap.size + 1, 0, none⟩), .pointer (some ⟨w.heap.size + 2, 0, none⟩)] 30
    have kp : Kept w3 (w3.alloc (.cells #[.pointer (some ⟨w.heap.size, 0, none⟩), .pointer (some ⟨w.heap.size + 1, 0, none⟩), .pointer (some ⟨w.heap.size + 2, 0, none⟩)] 30)) := (Kept.refl w3).alloc _
    have ap := a3.step kp
    have b0 := b0.kept kp
    have b1 := b1.kept kp
    have b2 := b2.kept kp
    have q0 := kp.cell (p := ⟨rb, ro, none⟩) hrb |>.trans q0
    have q1 := kp.cell (p := ⟨rb, ro + 1, none⟩) hrb |>.trans q1
    have hrb3 : w.heap.size + 3 ≤ rb := Nat.le_trans hs2 hrb2
    have hrb := Nat.lt_of_lt_of_le hrb kp.size
    have hs3 : w.heap.size + 3 ≤ w3.heap.size := Nat.le_trans hs2 k3.size
    clear a3 k01 k02 k1 k2 kb hsz hs2
    go_wp2_with fail
    generalize hWp : w3.alloc (.cells #[.pointer (some ⟨w.heap.size, 0, none⟩), .pointer (some ⟨w.heap.size + 1, 0, none⟩), .pointer (some ⟨w.heap.size + 2, 0, none⟩)] 30) = wp at *
    clear hWp
    go_loopw [43] (fun i wr => ∃ k : Nat, k ≤ 3 ∧ i = .int .i64 k ∧ Blk wr w.heap.size 3 [.int .i64 (cur m k 0 x0)] ∧ Blk wr (w.heap.size + 1) 3 [.int .i64 (cur m k 1 x1)] ∧ Blk wr (w.heap.size + 2) 3 [.int .i64 (cur m k 2 x2)] ∧ Blk wr w3.heap.size 30 [.pointer (some ⟨w.heap.size, 0, none⟩), .pointer (some ⟨w.heap.size + 1, 0, none⟩), .pointer (some ⟨w.heap.size + 2, 0, none⟩)] ∧ At w (SB (SX3 w) (.slice (some ⟨rb, ro, none⟩) 5 rc)) wr (.pointer (some pa)) ds ∧ Turn (fun b => w.heap.size ≤ b ∧ b < w.heap.size + 3) wp wr) (fun i _ => 3 - (intOf i).toNat)
    case atStart => exact ⟨0, Nat.zero_le _, rfl, b0, b1, b2, bp, ap, Turn.refl _ _⟩
    case round =>
      obtain ⟨k, hk, rfl, g0, g1, g2, gp, ga, gt⟩ := hrel
      by_cases hlt : k < 3
      · have p0 : ∀ i, wr.cell? ⟨w3.heap.size, i, none⟩ = _ := fun i => gp.cell i
        have hcase : k = 0 ∨ k = 1 ∨ k = 2 := by omega
        rcases hcase with rfl | rfl | rfl
        · rw [cur_lo (show ¬ 0 < 0 by omega)] at g0
          have y := p0 0
          simp only [List.getElem?_cons_succ, List.getElem?_cons_zero] at y
          have z := g0.cell 0
          have f := g0.frozen 0
          simp only [List.getElem?_cons_zero] at z
          have hr := red_lt (x := x0) m1
          have hq1 := Int.tmod_lt_of_pos x0 m1
          have hq2 := Int.lt_tmod_of_pos x0 m1
          have hcs : cur m (0 + 1) 0 x0 = red m x0 := cur_hi (by omega)
          unfold red at hr hcs
          have HC := Shut.mk hcs
          clear hcs
          obtain ⟨q, hq⟩ : ∃ q, q = x0.tmod m := ⟨_, rfl⟩
          rw [← hq] at hr hq1 hq2
          have HQ := Shut.mk hq
          have hq' := hq.symm
          clear hq
          obtain ⟨r, hr2⟩ : ∃ r, r = (q + m).tmod m := ⟨_, rfl⟩
          rw [← hr2] at hr
          have HR := Shut.mk hr2
          have hr' := hr2.symm
          clear hr2 p0
          go_wp2
          have t0 := turn_setCell wr ⟨w.heap.size, 0, none⟩ (.int .i64 r)
          go_roundw
          case rel =>
            refine ⟨1, hlt, rfl, ?_, ?_, ?_, ?_, ?_, ?_⟩
            · rw [HC.out, ← HQ.out, ← HR.out]; exact g0.set 0 (.int .i64 r)
            · rw [show cur m 1 1 x1 = cur m 0 1 x1 from cur_same (by omega)]; exact g1.turn t0 (fun e => by simp at e)
            · rw [show cur m 1 2 x2 = cur m 0 2 x2 from cur_same (by omega)]; exact g2.turn t0 (fun e => by simp at e)
            · exact gp.turn t0 (fun e => by have e' : w3.heap.size = w.heap.size := e; omega)
            · exact ga.turn t0 (fun b e => ⟨.inl (by have e' : b = w.heap.size := e; unfold SX3; omega), by have e' : b = w.heap.size := e; omega⟩)
            · exact gt.trans t0 (fun b e => .inl (by have e' : b = w.heap.size := e; omega))
          case measure => simp [intOf]
        · rw [cur_lo (show ¬ 1 < 1 by omega)] at g1
          have y := p0 1
          simp only [List.getElem?_cons_succ, List.getElem?_cons_zero] at y
          have z := g1.cell 0
          have f := g1.frozen 0
          simp only [List.getElem?_cons_zero] at z
          have hr := red_lt (x := x1) m1
          have hq1 := Int.tmod_lt_of_pos x1 m1
          have hq2 := Int.lt_tmod_of_pos x1 m1
          have hcs : cur m (1 + 1) 1 x1 = red m x1 := cur_hi (by omega)
          unfold red at hr hcs
          have HC := Shut.mk hcs
          clear hcs
          obtain ⟨q, hq⟩ : ∃ q, q = x1.tmod m := ⟨_, rfl⟩
          rw [← hq] at hr hq1 hq2
          have HQ := Shut.mk hq
          have hq' := hq.symm
          clear hq
          obtain ⟨r, hr2⟩ : ∃ r, r = (q + m).tmod m := ⟨_, rfl⟩
          rw [← hr2] at hr
          have HR := Shut.mk hr2
          have hr' := hr2.symm
          clear hr2 p0
          go_wp2
          have t0 := turn_setCell wr ⟨w.heap.size + 1, 0, none⟩ (.int .i64 r)
          go_roundw
          case rel =>
            refine ⟨2, hlt, rfl, ?_, ?_, ?_, ?_, ?_, ?_⟩
            · rw [show cur m 2 0 x0 = cur m 1 0 x0 from cur_same (by omega)]; exact g0.turn t0 (fun e => by simp at e)
            · rw [HC.out, ← HQ.out, ← HR.out]; exact g1.set 0 (.int .i64 r)
            · rw [show cur m 2 2 x2 = cur m 1 2 x2 from cur_same (by omega)]; exact g2.turn t0 (fun e => by simp at e)
            · exact gp.turn t0 (fun e => by have e' : w3.heap.size = w.heap.size + 1 := e; omega)
            · exact ga.turn t0 (fun b e => ⟨.inl (by have e' : b = w.heap.size + 1 := e; unfold SX3; omega), by have e' : b = w.heap.size + 1 := e; omega⟩)
            · exact gt.trans t0 (fun b e => .inl (by have e' : b = w.heap.size + 1 := e; omega))
          case measure => simp [intOf]
        · rw [cur_lo (show ¬ 2 < 2 by omega)] at g2
          have y := p0 2
          simp only [List.getElem?_cons_succ, List.getElem?_cons_zero] at y
          have z := g2.cell 0
          have f := g2.frozen 0
          simp only [List.getElem?_cons_zero] at z
          have hr := red_lt (x := x2) m1
          have hq1 := Int.tmod_lt_of_pos x2 m1
          have hq2 := Int.lt_tmod_of_pos x2 m1
          have hcs : cur m (2 + 1) 2 x2 = red m x2 := cur_hi (by omega)
          unfold red at hr hcs
          have HC := Shut.mk hcs
          clear hcs
          obtain ⟨q, hq⟩ : ∃ q, q = x2.tmod m := ⟨_, rfl⟩
          rw [← hq] at hr hq1 hq2
          have HQ := Shut.mk hq
          have hq' := hq.symm
          clear hq
          obtain ⟨r, hr2⟩ : ∃ r, r = (q + m).tmod m := ⟨_, rfl⟩
          rw [← hr2] at hr
          have HR := Shut.mk hr2
          have hr' := hr2.symm
          clear hr2 p0
          go_wp2
          have t0 := turn_setCell wr ⟨w.heap.size + 2, 0, none⟩ (.int .i64 r)
          go_roundw
          case rel =>
            refine ⟨3, hlt, rfl, ?_, ?_, ?_, ?_, ?_, ?_⟩
            · rw [show cur m 3 0 x0 = cur m 2 0 x0 from cur_same (by omega)]; exact g0.turn t0 (fun e => by simp at e)
            · rw [show cur m 3 1 x1 = cur m 2 1 x1 from cur_same (by omega)]; exact g1.turn t0 (fun e => by simp at e)
            · rw [HC.out, ← HQ.out, ← HR.out]; exact g2.set 0 (.int .i64 r)
            · exact gp.turn t0 (fun e => by have e' : w3.heap.size = w.heap.size + 2 := e; omega)
            · exact ga.turn t0 (fun b e => ⟨.inl (by have e' : b = w.heap.size + 2 := e; unfold SX3; omega), by have e' : b = w.heap.size + 2 := e; omega⟩)
            · exact gt.trans t0 (fun b e => .inl (by have e' : b = w.heap.size + 2 := e; omega))
          case measure => simp [intOf]
      · skip
        obtain rfl : k = 3 := by omega
        have hlen' : ds.length ≤ 605 + 0 := by omega
        rw [cur_hi (show 0 < 3 by omega)] at g0
        have i0 : IsT ds (red m x0) := ⟨(red_lt m1).1, by have := (red_lt (x := x0) m1).2; rw [HM.out] at this ⊢; exact this⟩
        have y0 := g0.cell 0
        simp only [List.getElem?_cons_zero] at y0
        generalize red m x0 = z0 at i0 y0
        have e0 : I64 z0 := i0.i64 ga.few
        have s0 : SX3 w (w.heap.size) := by unfold SX3; omega
        clear g0
        rw [cur_hi (show 1 < 3 by omega)] at g1
        have i1 : IsT ds (red m x1) := ⟨(red_lt m1).1, by have := (red_lt (x := x1) m1).2; rw [HM.out] at this ⊢; exact this⟩
        have y1 := g1.cell 0
        simp only [List.getElem?_cons_zero] at y1
        generalize red m x1 = z1 at i1 y1
        have e1 : I64 z1 := i1.i64 ga.few
        have s1 : SX3 w (w.heap.size + 1) := by unfold SX3; omega
        clear g1
        rw [cur_hi (show 2 < 3 by omega)] at g2
        have i2 : IsT ds (red m x2) := ⟨(red_lt m1).1, by have := (red_lt (x := x2) m1).2; rw [HM.out] at this ⊢; exact this⟩
        have y2 := g2.cell 0
        simp only [List.getElem?_cons_zero] at y2
        generalize red m x2 = z2 at i2 y2
        have e2 : I64 z2 := i2.i64 ga.few
        have s2 : SX3 w (w.heap.size + 2) := by unfold SX3; omega
        clear g2
        clear gp hlt hk
        have q0 := (World.cell?_of_block (a := ⟨rb, ro, none⟩) (gt.block rb hrb (fun e => by have := e.2; omega))).trans q0
        have q1 := (World.cell?_of_block (a := ⟨rb, ro + 1, none⟩) (gt.block rb hrb (fun e => by have := e.2; omega))).trans q1
        have sq : (SB (SX3 w) (.slice (some ⟨rb, ro, none⟩) 5 rc)) rb := .inr rfl
        have s0 : (SB (SX3 w) (.slice (some ⟨rb, ro, none⟩) 5 rc)) w.heap.size := .inl s0
        have s1 : (SB (SX3 w) (.slice (some ⟨rb, ro, none⟩) 5 rc)) (w.heap.size + 1) := .inl s1
        have s2 : (SB (SX3 w) (.slice (some ⟨rb, ro, none⟩) 5 rc)) (w.heap.size + 2) := .inl s2
        have ed0 := j0.i64 ga.few
        have ed1 := j1.i64 ga.few
        obtain ⟨r_1, t_jx, m_1, q_1, jx⟩ := mk_is (may2 (.inr (.inr (.inr rfl))) i1 j0.isT) (by have := hlen; omega)
        have c_1 := fun W (k : Kept wr W) => blindA (ga.step k) e1 ed0
        rw [show made ds 12 [z1, d0] = _ from m_1] at c_1
        clear m_1
        go_wp2_with fail
        go_region_held3 (fun w' => w'.cell? ⟨w.heap.size + 1, 0, none⟩ = some (.int .i64 z1) ∧ w'.cell? ⟨rb, ro, none⟩ = some (.int .i64 d0))
          (first
            | exact ⟨y1, q0⟩
            | go_keep
            | (go_split_ands; refine ⟨k_1.cell ?_ s1, k_1.cell ?_ sq⟩ <;> assumption))
          ((go_at_call 20; refine (c_1 _ (by first | exact Kept.refl _ | exact (Kept.refl _).drew | exact (Kept.refl _).drewN _)).mono ?_; rintro e' w_1 ⟨rfl, a_1, k_1⟩))
        try simp only at a_1
        have i0 := i0.more r_1
        have i1 := i1.more r_1
        have i2 := i2.more r_1
        have j0 := j0.more r_1
        have j1 := j1.more r_1
        have l_1 : (ds ++ r_1).length ≤ 605 + 1 := by rw [List.length_append]; have := hlen; omega
        generalize ds ++ r_1 = d_1 at a_1 l_1 i0 i1 i2 j0 j1 jx
        have y0 := k_1.cell y0 s0
        have y1 := k_1.cell y1 s1
        have y2 := k_1.cell y2 s2
        have q0 := k_1.cell q0 sq
        have q1 := k_1.cell q1 sq
        clear q_1 c_1 hlen ga
        obtain ⟨r_2, t_jy, m_2, q_2, jy⟩ := mk_is (may2 (.inr (.inr (.inr rfl))) i1 j1.isT) (by have := l_1; omega)
        have c_2 := fun W (k : Kept w_1 W) => blindA (a_1.step k) e1 ed1
        rw [show made d_1 12 [z1, d1] = _ from m_2] at c_2
        clear m_2
        go_wp2_with fail
        go_region_held3 (fun w' => w'.cell? ⟨w.heap.size + 1, 0, none⟩ = some (.int .i64 z1) ∧ w'.cell? ⟨rb, ro + 1, none⟩ = some (.int .i64 d1))
          (first
            | exact ⟨y1, q1⟩
            | go_keep
            | (go_split_ands; refine ⟨k_2.cell ?_ s1, k_2.cell ?_ sq⟩ <;> assumption))
          ((go_at_call 20; refine (c_2 _ (by first | exact Kept.refl _ | exact (Kept.refl _).drew | exact (Kept.refl _).drewN _)).mono ?_; rintro e' w_2 ⟨rfl, a_2, k_2⟩))
        try simp only at a_2
        have i0 := i0.more r_2
        have i1 := i1.more r_2
        have i2 := i2.more r_2
        have j0 := j0.more r_2
        have j1 := j1.more r_2
        have jx := jx.more r_2
        have l_2 : (d_1 ++ r_2).length ≤ 605 + 2 := by rw [List.length_append]; have := l_1; omega
        generalize d_1 ++ r_2 = d_2 at a_2 l_2 i0 i1 i2 j0 j1 jx jy
        have y0 := k_2.cell y0 s0
        have y1 := k_2.cell y1 s1
        have y2 := k_2.cell y2 s2
        have q0 := k_2.cell q0 sq
        have q1 := k_2.cell q1 sq
        clear q_2 c_2 l_1 a_1
        obtain ⟨r_3, t_jz, m_3, q_3, jz⟩ := mk_is (may2 (.inr (.inr (.inr rfl))) i2 j0.isT) (by have := l_2; omega)
        have c_3 := fun W (k : Kept w_2 W) => blindA (a_2.step k) e2 ed0
        rw [show made d_2 12 [z2, d0] = _ from m_3] at c_3
        clear m_3
        go_wp2_with fail
        go_region_held3 (fun w' => w'.cell? ⟨w.heap.size + 2, 0, none⟩ = some (.int .i64 z2) ∧ w'.cell? ⟨rb, ro, none⟩ = some (.int .i64 d0))
          (first
            | exact ⟨y2, q0⟩
            | go_keep
            | (go_split_ands; refine ⟨k_3.cell ?_ s2, k_3.cell ?_ sq⟩ <;> assumption))
          ((go_at_call 20; refine (c_3 _ (by first | exact Kept.refl _ | exact (Kept.refl _).drew | exact (Kept.refl _).drewN _)).mono ?_; rintro e' w_3 ⟨rfl, a_3, k_3⟩))
        try simp only at a_3
        have i0 := i0.more r_3
        have i1 := i1.more r_3
        have i2 := i2.more r_3
        have j0 := j0.more r_3
        have j1 := j1.more r_3
        have jx := jx.more r_3
        have jy := jy.more r_3
        have l_3 : (d_2 ++ r_3).length ≤ 605 + 3 := by rw [List.length_append]; have := l_2; omega
        generalize d_2 ++ r_3 = d_3 at a_3 l_3 i0 i1 i2 j0 j1 jx jy jz
        have y0 := k_3.cell y0 s0
        have y1 := k_3.cell y1 s1
        have y2 := k_3.cell y2 s2
        have q0 := k_3.cell q0 sq
        have q1 := k_3.cell q1 sq
        clear q_3 c_3 l_2 a_2
        have ex := jx.i64 a_3.few
        obtain ⟨r_4, t_js, m_4, q_4, js⟩ := mk_is (may2 (.inr (.inl rfl)) i0 jx.isT) (by have := l_3; omega)
        have c_4 := signA a_3 e0 ex
        rw [show made d_3 10 [z0, t_jx] = _ from m_4] at c_4
        clear m_4
        go_wp2_with fail
        refine c_4.mono ?_
        clear c_4
        rintro e' w_4 ⟨rfl, a_4, k_4⟩
        simp only at a_4
        have i0 := i0.more r_4
        have i1 := i1.more r_4
        have i2 := i2.more r_4
        have j0 := j0.more r_4
        have j1 := j1.more r_4
        have jx := jx.more r_4
        have jy := jy.more r_4
        have jz := jz.more r_4
        have l_4 : (d_3 ++ r_4).length ≤ 605 + 4 := by rw [List.length_append]; have := l_3; omega
        generalize d_3 ++ r_4 = d_4 at a_4 l_4 i0 i1 i2 j0 j1 jx jy jz js
        clear q_4 l_3 a_3
        have y0 := k_4.cell y0 s0
        have y1 := k_4.cell y1 s1
        have y2 := k_4.cell y2 s2
        have q0 := k_4.cell q0 sq
        have q1 := k_4.cell q1 sq
        obtain ⟨r_5, t_ju, m_5, q_5, ju⟩ := mk_is (may2 (.inr (.inl rfl)) i0 i1) (by have := l_4; omega)
        have c_5 := unblindA a_4 t_js d0
        rw [unblind_is js jx j0.isT, if_pos rfl, show made d_4 10 [z0, z1] = _ from m_5] at c_5
        clear m_5
        go_wp2_with fail
        refine c_5.mono ?_
        clear c_5
        rintro e' w_5 ⟨rfl, a_5, k_5⟩
        simp only at a_5
        have i0 := i0.more r_5
        have i1 := i1.more r_5
        have i2 := i2.more r_5
        have j0 := j0.more r_5
        have j1 := j1.more r_5
        have jx := jx.more r_5
        have jy := jy.more r_5
        have jz := jz.more r_5
        have js := js.more r_5
        have l_5 : (d_4 ++ r_5).length ≤ 605 + 5 := by rw [List.length_append]; have := l_4; omega
        generalize d_4 ++ r_5 = d_5 at a_5 l_5 i0 i1 i2 j0 j1 jx jy jz js ju
        clear q_5 l_4 a_4
        have y0 := k_5.cell y0 s0
        have y1 := k_5.cell y1 s1
        have y2 := k_5.cell y2 s2
        have q0 := k_5.cell q0 sq
        have q1 := k_5.cell q1 sq
        have c_6 := unblindA a_5 t_js d1
        rw [unblind_is js jx j1.isT, if_neg HDD.out] at c_6
        go_wp2_with fail
        refine c_6.mono ?_
        clear c_6
        rintro e' w_6 ⟨rfl, a_6, k_6⟩
        simp only at a_6
        clear a_5
        have y0 := k_6.cell y0 s0
        have y1 := k_6.cell y1 s1
        have y2 := k_6.cell y2 s2
        have q0 := k_6.cell q0 sq
        have q1 := k_6.cell q1 sq
        obtain ⟨r_7, t_jp, m_7, q_7, jp⟩ := mk_is (may1 (.inr rfl) i0) (by have := l_5; omega)
        have c_7 := publicA a_6 e0
        rw [show made d_5 7 [z0] = _ from m_7] at c_7
        clear m_7
        go_wp2_with fail
        refine c_7.mono ?_
        clear c_7
        rintro e' w_7 ⟨rfl, a_7, k_7⟩
        simp only at a_7
        have i0 := i0.more r_7
        have i1 := i1.more r_7
        have i2 := i2.more r_7
        have j0 := j0.more r_7
        have j1 := j1.more r_7
        have jx := jx.more r_7
        have jy := jy.more r_7
        have jz := jz.more r_7
        have js := js.more r_7
        have ju := ju.more r_7
        have l_7 : (d_5 ++ r_7).length ≤ 605 + 6 := by rw [List.length_append]; have := l_5; omega
        generalize d_5 ++ r_7 = d_7 at a_7 l_7 i0 i1 i2 j0 j1 jx jy jz js ju jp
        clear q_7 l_5 a_6
        have y0 := k_7.cell y0 s0
        have y1 := k_7.cell y1 s1
        have y2 := k_7.cell y2 s2
        have q0 := k_7.cell q0 sq
        have q1 := k_7.cell q1 sq
        have G := a_7.good
        have f1 : (t_jx != t_jy) = true := by
          have := jx.iff G jy
          simp only [Nd.mk.injEq, List.cons.injEq, and_true, true_and] at this
          simp only [bne_iff_ne, ne_eq, this]
          exact fun e => HDD.out e.symm
        have f2 : t_jx = t_jz ↔ z1 = z2 := by
          rw [jx.iff G jz]
          simp
        have F2 := Shut.mk f2
        have hv : ∀ W, Kept w_7 W → ∀ n x : Int, Calls Tryd.prog 22 #[.pointer (some pa), .int .i64 t_jp, .int .i64 n, .int .i64 x] W fun e w' => e = .returned (.bool (verifyM d_7 t_jp n x)) ∧ Kept W w' := fun W k n x => verifyA (a_7.step k) t_jp n x
        have V1 : verifyM d_7 t_jp z1 t_ju = true := by rw [verify_is ju jp]; simp
        have V2 : verifyM d_7 t_jp z2 t_ju = decide (z1 = z2) := by rw [verify_is ju jp]; simp
        have V3 : verifyM d_7 t_jp t_jx t_js = true := by rw [verify_is js jp]; simp
        generalize verifyM d_7 t_jp = V at hv V1 V2 V3
        have AE := Shut.mk a_7.kept
        clear f2 G i0 i1 i2 e0 e1 e2 jx jy jz js ju jp j0 j1 ed0 ed1 ex q0 q1 a_7
        obtain ⟨wz, hwz⟩ : ∃ wz, wz = w_7 := ⟨_, rfl⟩
        rw [← hwz] at hv AE
        have kz : Kept wz w_7 := by rw [hwz]; exact Kept.refl _
        have n1' : wz.cell? ⟨w.heap.size + 1, 0, none⟩ = some (.int .i64 z1) := by rw [hwz]; exact y1
        have n2' : wz.cell? ⟨w.heap.size + 2, 0, none⟩ = some (.int .i64 z2) := by rw [hwz]; exact y2
        clear hwz
        obtain ⟨bb, hbb⟩ : ∃ bb : Bool, bb = decide (z1 = z2) := ⟨_, rfl⟩
        have HBB := Shut.mk hbb
        have v1 : (t_jx == t_jz) = bb := by
          rw [HBB.out]
          by_cases c : z1 = z2
          · rw [F2.out.2 c, decide_eq_true c]; simp
          · have := fun e => c (F2.out.1 e); rw [decide_eq_false c]; simpa using this
        have v2 : (z1 == z2) = bb := by rw [HBB.out]; rw [Bool.eq_iff_iff]; simp
        rw [← HBB.out] at V2
        clear hbb
        go_upto_region 21 with fail
        go_region_held3 (fun w' => w'.cell? ⟨w.heap.size + 1, 0, none⟩ = some (.int .i64 z1) ∧ w'.cell? ⟨w.heap.size + 2, 0, none⟩ = some (.int .i64 z2))
          (first
            | exact ⟨kept_cell' kz n1', kept_cell' kz n2'⟩
            | exact ⟨kept_cell' kz.drew n1', kept_cell' kz.drew n2'⟩
            | exact ⟨kept_cell' (kz.drewN _) n1', kept_cell' (kz.drewN _) n2'⟩
            | exact ⟨kept_cell' q61 n1', kept_cell' q61 n2'⟩
            | exact ⟨kept_cell' q61.drew n1', kept_cell' q61.drew n2'⟩
            | exact ⟨kept_cell' (q61.drewN _) n1', kept_cell' (q61.drewN _) n2'⟩
            | exact ⟨kept_cell' q62 n1', kept_cell' q62 n2'⟩
            | exact ⟨kept_cell' q62.drew n1', kept_cell' q62.drew n2'⟩
            | exact ⟨kept_cell' (q62.drewN _) n1', kept_cell' (q62.drewN _) n2'⟩
            | exact ⟨kept_cell' q63 n1', kept_cell' q63 n2'⟩
            | exact ⟨kept_cell' q63.drew n1', kept_cell' q63.drew n2'⟩
            | exact ⟨kept_cell' (q63.drewN _) n1', kept_cell' (q63.drewN _) n2'⟩)
          ((go_at_call 22; first | (refine (hv _ (by first | exact kz | exact kz.drew | exact kz.drewN _) _ _).mono ?_; rintro e w61 ⟨he, k61⟩; simp only [V1, V2, V3] at he; subst he; have q61 : Kept wz w61 := (by first | exact Kept.trans kz k61 | exact Kept.trans kz.drew k61 | exact Kept.trans (kz.drewN _) k61)) | (refine (hv _ (by first | exact q61 | exact q61.drew | exact q61.drewN _) _ _).mono ?_; rintro e w62 ⟨he, k62⟩; simp only [V1, V2, V3] at he; subst he; have q62 : Kept wz w62 := (by first | exact Kept.trans q61 k62 | exact Kept.trans q61.drew k62 | exact Kept.trans (q61.drewN _) k62)) | (refine (hv _ (by first | exact q62 | exact q62.drew | exact q62.drewN _) _ _).mono ?_; rintro e w63 ⟨he, k63⟩; simp only [V1, V2, V3] at he; subst he; have q63 : Kept wz w63 := (by first | exact Kept.trans q62 k63 | exact Kept.trans q62.drew k63 | exact Kept.trans (q62.drewN _) k63))))
        go_wp2
        go_ret
        first | exact ⟨rfl, AE.out.trans q63⟩ | exact ⟨rfl, AE.out.trans q63.drew⟩ | exact ⟨rfl, AE.out.trans (q63.drewN _)⟩
end Go.Proofs.YtihagkeljhgomaaDoor
