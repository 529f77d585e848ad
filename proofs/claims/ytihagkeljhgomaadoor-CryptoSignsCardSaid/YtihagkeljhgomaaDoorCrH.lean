/- Walks of the statements of layer 4: what they begin with. -/
import Derived.Test.YtihagkeljhgomaaDoorCrG0
import Derived.Test.YtihagkeljhgomaaDoorCrG1
import Derived.Test.YtihagkeljhgomaaDoorCrG2
import Derived.Test.YtihagkeljhgomaaDoorCrG3
set_option linter.unusedSimpArgs false
set_option linter.unusedVariables false
namespace Go.Proofs.YtihagkeljhgomaaDoor
open Go.RowKit Go.Maps

theorem bodyA {w0 : World} {S : Nat → Prop} {w : World} {p : Value} {ds : List Nd} (h : At w0 S w p ds) {o : Opn} (ok : OpnOk o) :
    Calls Tryd.prog 28 #[p, .agg #[.int .i64 o.k, .int .i64 o.a, .int .i64 o.b, .int .i64 o.c, .int .i64 o.d, .string (strB o.s)]] w (BodyPost w0 S w p ds) := by
  obtain ⟨k, a, b, c, d, s⟩ := o
  simp only
  by_cases e0 : k = 0
  · subst e0; exact body_0 h ok
  by_cases e1 : k = 1
  · subst e1; exact body_1 h ok
  by_cases e2 : k = 2
  · subst e2; exact body_2 h ok
  by_cases e3 : k = 3
  · subst e3; exact body_3 h ok
  by_cases e4 : k = 4
  · subst e4; exact body_4 h ok
  by_cases e5 : k = 5
  · subst e5; exact body_5 h ok
  by_cases e6 : k = 6
  · subst e6; exact body_6 h ok
  by_cases e7 : k = 7
  · subst e7; exact body_7 h ok
  by_cases e8 : k = 8
  · subst e8; exact body_8 h ok
  by_cases e9 : k = 9
  · subst e9; exact body_9 h ok
  by_cases e10 : k = 10
  · subst e10; exact body_10 h ok
  by_cases e11 : k = 11
  · subst e11; exact body_11 h ok
  by_cases e12 : k = 12
  · subst e12; exact body_12 h ok
  by_cases e13 : k = 13
  · subst e13; exact body_13 h ok
  by_cases e14 : k = 14
  · subst e14; exact body_14 h ok
  exact body_15 h ok ⟨e0, e1, e2, e3, e4, e5, e6, e7, e8, e9, e10, e11, e12, e13, e14⟩

def FewOPost (w : World) (ls : List Opn) (e : Ending) (w' : World) : Prop := ∃ b : Bool, e = .returned (.bool b) ∧ (b = true → ls.length ≤ 200) ∧ Kept w w'

set_option maxHeartbeats 4000000 in
set_option maxRecDepth 100000 in
theorem fewA {w : World} {v : Value} {ls : List Opn} (h : RdOs w v ls) :
    Calls Tryd.prog 9 #[v] w (FewOPost w ls) := by
  obtain ⟨na, ncap, rfl, n1, n2, _⟩ := h.len
  have n63 : ((ls.length : Nat) : Int) ≤ 9223372036854775807 := by unfold maxLen at n2; omega
  by_cases hl : 200 < ls.length
  · go_enter Tryd.func9, Tryd.ntmps9
    go_wp2
    go_ret
    exact ⟨false, rfl, (fun e => by cases e), Kept.refl _⟩
  · have HL := Shut.mk (show ls.length ≤ 200 by omega)
    go_enter Tryd.func9, Tryd.ntmps9
    go_wp2
    go_loopw [10] (fun i wr => ∃ k : Nat, k ≤ ls.length ∧ i = .int .i64 k ∧ Kept w wr) (fun i _ => ls.length - (intOf i).toNat)
    case atStart => exact ⟨0, Nat.zero_le _, rfl, Kept.refl _⟩
    case round =>
      obtain ⟨k, hk0, rfl, hk⟩ := hrel
      by_cases hlt : k < ls.length
      · obtain ⟨nb, noff, ncap', hv, hnb, hcl⟩ := h.at hlt
        simp only [Value.slice.injEq] at hv
        obtain ⟨rfl, _, rfl⟩ := hv
        obtain ⟨y0, y1, y2, y3, y4, y5⟩ := hcl wr hk
        clear hcl
        generalize hd : ls.getD k op0 = d at y0 y1 y2 y3 y4 y5
        have HD := Shut.mk hd
        clear hd
        obtain ⟨o0, o1, o2, o3, o4, s⟩ := d
        simp only at y0 y1 y2 y3 y4 y5
        have e1 := strB_size s
        generalize strB s = X at y5 e1
        have ka : Kept wr (wr.alloc (.cells #[.int .i64 o0, .int .i64 o1, .int .i64 o2, .int .i64 o3, .int .i64 o4, .string X] 46)) := (Kept.refl wr).alloc _
        by_cases c1 : 300 < s.length
        · go_wp2
          go_ret
          exact ⟨false, rfl, (fun e => by cases e), hk.trans ka⟩
        · go_wp2
          go_roundw
          case rel => exact ⟨k + 1, hlt, rfl, hk.trans ka⟩
          case measure => simp [intOf]; omega
      · obtain rfl : k = ls.length := by omega
        go_wp2
        go_ret
        exact ⟨true, rfl, fun _ => HL.out, hk⟩

theorem Is.i64 {ds : List Nd} {t : Int} {d : Nd} (h : Is ds t d) (hf : ds.length ≤ 100000) : I64 t := ⟨by have := h.lo; omega, by have := h.hi; omega⟩
theorem IsT.i64 {ds : List Nd} {t : Int} (h : IsT ds t) (hf : ds.length ≤ 100000) : I64 t := ⟨by have := h.1; omega, by have := h.2; omega⟩
theorem Good.ne {ds : List Nd} (hg : Good ds) {t u : Int} {c d : Nd} (h : Is ds t c) (k : Is ds u d) (hne : c ≠ d) : t ≠ u := fun e => hne ((h.iff hg k).1 e)

/-- The blocks that are there. -/
def Olds0 (w : World) : Nat → Prop := fun b => b < w.heap.size

set_option maxHeartbeats 4000000 in
set_option maxRecDepth 100000 in
theorem liveA {w : World} (ht : Tabs w) : Calls Tryd.prog 8 #[] w fun e w' => e = .returned (.bool true) ∧ Kept w w' := by
  go_enter Tryd.func8, Tryd.ntmps8
  go_wp2_with fail
  refine (newA (Kept.refl w) ht (S := Olds0 w) (fun b hb => hb) (fun b hb => hb)).mono ?_
  rintro e w1 ⟨rfl, a1, k1⟩
  have l0 : ([] : List Nd).length ≤ 0 := Nat.le_refl _
  generalize ([] : List Nd) = d0 at a1 l0
  obtain ⟨r_1, t_s1, m_1, q_1, s1⟩ := mk_is (may_atom d0 (n := 1) (by decide)) (by have := l0; omega)
  have c_1 := freshA a1 (n := 1) (i64_lit (by simp))
  rw [show mk d0 ⟨1, 1, [], []⟩ = _ from m_1] at c_1
  clear m_1
  go_wp2_with fail
  refine c_1.mono ?_
  clear c_1
  rintro e' w_1 ⟨rfl, a_1, k_1⟩
  simp only at a_1
  have l_1 : (d0 ++ r_1).length ≤ 0 + 1 := by rw [List.length_append]; have := l0; omega
  generalize d0 ++ r_1 = d_1 at a_1 l_1 s1
  clear q_1 l0 a1
  obtain ⟨r_2, t_s2, m_2, q_2, s2⟩ := mk_is (may_atom d_1 (n := 2) (by decide)) (by have := l_1; omega)
  have c_2 := freshA a_1 (n := 2) (i64_lit (by simp))
  rw [show mk d_1 ⟨1, 2, [], []⟩ = _ from m_2] at c_2
  clear m_2
  go_wp2_with fail
  refine c_2.mono ?_
  clear c_2
  rintro e' w_2 ⟨rfl, a_2, k_2⟩
  simp only at a_2
  have s1 := s1.more r_2
  have l_2 : (d_1 ++ r_2).length ≤ 0 + 2 := by rw [List.length_append]; have := l_1; omega
  generalize d_1 ++ r_2 = d_2 at a_2 l_2 s1 s2
  clear q_2 l_1 a_1
  have hne : t_s2 ≠ t_s1 := a_2.good.ne s2 s1 (by simp)
  have b1 : I64 t_s1 := s1.i64 a_2.few
  have b2 : I64 t_s2 := s2.i64 a_2.few
  obtain ⟨r_3, t_s3, m_3, q_3, s3⟩ := mk_is (may1 (.inr rfl) s1.isT) (by have := l_2; omega)
  have c_3 := publicA a_2 b1
  rw [show made d_2 7 [t_s1] = _ from m_3] at c_3
  clear m_3
  go_wp2_with fail
  refine c_3.mono ?_
  clear c_3
  rintro e' w_3 ⟨rfl, a_3, k_3⟩
  simp only at a_3
  have s1 := s1.more r_3
  have s2 := s2.more r_3
  have l_3 : (d_2 ++ r_3).length ≤ 0 + 3 := by rw [List.length_append]; have := l_2; omega
  generalize d_2 ++ r_3 = d_3 at a_3 l_3 s1 s2 s3
  clear q_3 l_2 a_2
  have b3 : I64 t_s3 := s3.i64 a_3.few
  obtain ⟨r_4, t_s4, m_4, q_4, s4⟩ := mk_is (may_list d_3 (l := []) (by simp) (fun x hx => by cases hx)) (by have := l_3; omega)
  have c_4 := allA a_3 (RdI.nil _) (fun x hx => by cases hx)
  rw [show mk d_3 ⟨3, 0, [], []⟩ = _ from m_4] at c_4
  clear m_4
  go_wp2_with fail
  refine c_4.mono ?_
  clear c_4
  rintro e' w_4 ⟨rfl, a_4, k_4⟩
  simp only at a_4
  have s1 := s1.more r_4
  have s2 := s2.more r_4
  have s3 := s3.more r_4
  have l_4 : (d_3 ++ r_4).length ≤ 0 + 4 := by rw [List.length_append]; have := l_3; omega
  generalize d_3 ++ r_4 = d_4 at a_4 l_4 s1 s2 s3 s4
  clear q_4 l_3 a_3
  have b4 : I64 t_s4 := s4.i64 a_4.few
  obtain ⟨r_5, t_s5, m_5, q_5, s5⟩ := mk_is (may4 (.inl rfl) s3.isT s4.isT s2.isT s2.isT) (by have := l_4; omega)
  have c_5 := sealA a_4 b3 b4 b2 b2
  rw [seal_is s3, show made d_4 8 [t_s3, t_s4, t_s2, t_s2] = _ from m_5] at c_5
  clear m_5
  go_wp2_with fail
  refine c_5.mono ?_
  clear c_5
  rintro e' w_5 ⟨rfl, a_5, k_5⟩
  simp only at a_5
  have s1 := s1.more r_5
  have s2 := s2.more r_5
  have s3 := s3.more r_5
  have s4 := s4.more r_5
  have l_5 : (d_4 ++ r_5).length ≤ 0 + 5 := by rw [List.length_append]; have := l_4; omega
  generalize d_4 ++ r_5 = d_5 at a_5 l_5 s1 s2 s3 s4 s5
  clear q_5 l_4 a_4
  have c_6 := openA a_5 t_s1 t_s4 t_s5
  rw [open_is s5 s3 s1.isT s4.isT, if_pos ⟨rfl, rfl⟩] at c_6
  go_wp2_with fail
  refine c_6.mono ?_
  clear c_6
  rintro e' w_6 ⟨rfl, k_6⟩
  have a_6 := a_5.step k_6
  clear a_5
  have c_7 := openA a_6 t_s2 t_s4 t_s5
  rw [open_is s5 s3 s2.isT s4.isT, if_neg (fun e => hne e.1)] at c_7
  go_wp2_with fail
  refine c_7.mono ?_
  clear c_7
  rintro e' w_7 ⟨rfl, k_7⟩
  have a_7 := a_6.step k_7
  clear a_6
  clear hne s1 s2 s3 s4 s5 b1 b2 b3 b4
  go_wp2
  go_ret
  exact ⟨rfl, a_7.kept⟩
end Go.Proofs.YtihagkeljhgomaaDoor
