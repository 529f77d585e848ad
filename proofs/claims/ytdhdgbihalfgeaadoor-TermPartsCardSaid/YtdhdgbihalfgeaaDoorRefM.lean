/- The document's terms: which nodes may be. -/
import Derived.Test.YtdhdgbihalfgeaaDoorRefX
import Derived.Test.YtdhdgbihalfgeaaDoorTermC
set_option linter.unusedSimpArgs false
set_option linter.unusedVariables false
namespace Go.Proofs.YtdhdgbihalfgeaaDoor
open Go.RowKit Go.Maps

/-- How many parts a node has by its op; below 0: any, or there is no such op. -/
def arR (op : Int) : Int := if op = 3 ∨ op < 1 ∨ 12 < op then -1 else kMost op
theorem arR_no {op : Int} (h : op = 3 ∨ op < 1 ∨ 12 < op) : arR op = -1 := by unfold arR; rw [if_pos h]
theorem ne_beq {a b : Int} (h : a ≠ b) : (a == b) = false := by simpa using h

set_option maxRecDepth 100000 in
set_option maxHeartbeats 4000000 in
theorem arity_any (op : Int) (w : World) : Calls Tryd.prog 46 #[.int .i64 op] w fun e w' => e = .returned (.int .i64 (arR op)) ∧ w = w' := by
  by_cases h : op = 3 ∨ op < 1 ∨ 12 < op
  · rw [arR_no h]
    have c1 := ne_beq (show op ≠ 1 by omega)
    have c2 := ne_beq (show op ≠ 2 by omega)
    have c4 := ne_beq (show op ≠ 4 by omega)
    have c5 := ne_beq (show op ≠ 5 by omega)
    have c6 := ne_beq (show op ≠ 6 by omega)
    have c7 := ne_beq (show op ≠ 7 by omega)
    have c8 := ne_beq (show op ≠ 8 by omega)
    have c9 := ne_beq (show op ≠ 9 by omega)
    have c10 := ne_beq (show op ≠ 10 by omega)
    have c11 := ne_beq (show op ≠ 11 by omega)
    have c12 := ne_beq (show op ≠ 12 by omega)
    clear h
    go_enter Tryd.func46, Tryd.ntmps46
    go_wp2
    go_ret
    exact ⟨rfl, rfl⟩
  · have hc : op = 1 ∨ op = 2 ∨ op = 4 ∨ op = 5 ∨ op = 6 ∨ op = 7 ∨ op = 8 ∨ op = 9 ∨ op = 10 ∨ op = 11 ∨ op = 12 := by omega
    clear h
    rcases hc with rfl | rfl | rfl | rfl | rfl | rfl | rfl | rfl | rfl | rfl | rfl
    all_goals
      go_enter Tryd.func46, Tryd.ntmps46
      go_wp2
      go_ret
      exact ⟨rfl, rfl⟩

set_option maxRecDepth 100000 in
set_option maxHeartbeats 4000000 in
/-- The first tests of May: whether it comes to the parts. -/
theorem mayR_bad {w : World} {p v : Value} {d : Nd} (hd : RdN w v d) (hb : ¬ (1 ≤ d.op ∧ d.op ≤ 12 ∧ 0 ≤ d.n ∧ (d.n = 0 ∨ d.op = 1) ∧ d.s.length ≤ 200 ∧ (d.s = [] ∨ d.op = 2) ∧ kLeast d.op ≤ d.l.length ∧ (d.l.length : Int) ≤ kMost d.op)) :
    Calls Tryd.prog 33 #[p, v] w fun e w' => e = .returned (.bool false) ∧ Kept w w' := by
  obtain ⟨lv, rfl, hr⟩ := hd
  obtain ⟨op, n, s, l⟩ := d
  simp only at hr hb ⊢
  obtain ⟨la, lc, rfl, l1, l2, l3⟩ := hr.len
  have l63 : ((l.length : Nat) : Int) ≤ 9223372036854775807 := by unfold maxLen at l2; omega
  have e1 := strB_size s
  have e2 := strB_list s
  generalize strB s = S at e1 e2
  by_cases ho : op < 1 ∨ 12 < op
  · have HK := Shut.mk (arR_no (op := op) (by omega))
    have c3 := bne_int (show op ≠ 3 by omega)
    clear hb ho
    go_enter Tryd.func33, Tryd.ntmps33
    go_wp2_with (go_at_call 46; refine (arity_any _ _).mono ?_; rintro e w' ⟨rfl, rfl⟩; rw [HK.out])
    go_ret
    exact ⟨rfl, (Kept.refl w).alloc _⟩
  -- which op, and how many parts
  have hop : (op = 3 ∧ arR op = -1 ∧ kLeast op = 0 ∧ kMost op = 64) ∨ (op ≠ 3 ∧ 0 ≤ arR op ∧ arR op ≤ 4 ∧ kLeast op = arR op ∧ kMost op = arR op) := by
    have hc : op = 1 ∨ op = 2 ∨ op = 3 ∨ op = 4 ∨ op = 5 ∨ op = 6 ∨ op = 7 ∨ op = 8 ∨ op = 9 ∨ op = 10 ∨ op = 11 ∨ op = 12 := by omega
    rcases hc with rfl | rfl | rfl | rfl | rfl | rfl | rfl | rfl | rfl | rfl | rfl | rfl <;> decide
  have hlen : (op = 3 ∧ arR op = -1 ∧ ((l.length : Nat) : Int) ≤ 64 ∧ kLeast op ≤ l.length ∧ (l.length : Int) ≤ kMost op) ∨ (op = 3 ∧ arR op = -1 ∧ 64 < ((l.length : Nat) : Int)) ∨ (op ≠ 3 ∧ 0 ≤ arR op ∧ (l.length : Int) = arR op ∧ ((l.length : Nat) : Int) ≤ 64 ∧ kLeast op ≤ l.length ∧ (l.length : Int) ≤ kMost op) ∨ (op ≠ 3 ∧ 0 ≤ arR op ∧ (l.length : Int) ≠ arR op) := by omega
  generalize hK : arR op = k at hop hlen
  have HK := Shut.mk hK
  clear hK hop
  have hpre : ∀ (Q : Prop), (op = 3 → k = -1 → ((l.length : Nat) : Int) ≤ 64 → Q) → (((op != 3) = true) → 0 ≤ k → ((l.length : Int) != k) = false → ((l.length : Nat) : Int) ≤ 64 → Q) → (kLeast op ≤ l.length ∧ (l.length : Int) ≤ kMost op → Q) → True := fun _ _ _ _ => trivial
  clear hpre
  rcases hlen with ⟨rfl, rfl, q1, q2, q3⟩ | ⟨rfl, rfl, q1⟩ | ⟨q0, q1, q2, q3, q4, q5⟩ | ⟨q0, q1, q2⟩
  · have hb2 : ¬ (n = 0 ∧ s = []) := fun h => hb ⟨by omega, by omega, by omega, .inl h.1, by rw [h.2]; simp, .inl h.2, q2, q3⟩
    clear q2 q3
    by_cases hn : n = 0
    · subst hn
      have hs : s.isEmpty = false := by simpa using fun e => hb2 ⟨rfl, e⟩
      clear hb hb2
      go_enter Tryd.func33, Tryd.ntmps33
      go_wp2_with (go_at_call 46; refine (arity_any _ _).mono ?_; rintro e w' ⟨rfl, rfl⟩; rw [HK.out])
      go_ret
      exact ⟨rfl, (Kept.refl w).alloc _⟩
    · have c1 := bne_int hn
      clear hb hb2 hn
      go_enter Tryd.func33, Tryd.ntmps33
      go_wp2_with (go_at_call 46; refine (arity_any _ _).mono ?_; rintro e w' ⟨rfl, rfl⟩; rw [HK.out])
      go_ret
      exact ⟨rfl, (Kept.refl w).alloc _⟩
  · clear hb
    go_enter Tryd.func33, Tryd.ntmps33
    go_wp2_with (go_at_call 46; refine (arity_any _ _).mono ?_; rintro e w' ⟨rfl, rfl⟩; rw [HK.out])
    go_ret
    exact ⟨rfl, (Kept.refl w).alloc _⟩
  · have c3 := bne_int q0
    have c4 := beq_int q2
    clear q2
    by_cases o1 : op = 1
    · subst o1
      have hb2 : ¬ (0 ≤ n ∧ s = []) := fun h => hb ⟨by omega, by omega, h.1, .inr rfl, by rw [h.2]; simp, .inl h.2, q4, q5⟩
      clear hb q4 q5 q0
      by_cases hs : s = []
      · subst hs
        have hn : n < 0 := by
          apply Classical.byContradiction
          intro c
          exact hb2 ⟨by omega, rfl⟩
        clear hb2
        go_enter Tryd.func33, Tryd.ntmps33
        go_wp2_with (go_at_call 46; refine (arity_any _ _).mono ?_; rintro e w' ⟨rfl, rfl⟩; rw [HK.out])
        go_ret
        exact ⟨rfl, (Kept.refl w).alloc _⟩
      · have hs2 : s.isEmpty = false := by simpa using hs
        clear hb2 hs
        go_enter Tryd.func33, Tryd.ntmps33
        go_wp2_with (go_at_call 46; refine (arity_any _ _).mono ?_; rintro e w' ⟨rfl, rfl⟩; rw [HK.out])
        go_ret
        exact ⟨rfl, (Kept.refl w).alloc _⟩
    · have d1 := bne_int o1
      by_cases hn : n = 0
      · subst hn
        by_cases o2 : op = 2
        · subst o2
          have hs : 200 < s.length := by
            apply Classical.byContradiction
            intro c
            exact hb ⟨by omega, by omega, by omega, .inl rfl, by omega, .inr rfl, q4, q5⟩
          clear hb q4 q5 q0
          go_enter Tryd.func33, Tryd.ntmps33
          go_wp2_with (go_at_call 46; refine (arity_any _ _).mono ?_; rintro e w' ⟨rfl, rfl⟩; rw [HK.out])
          go_ret
          exact ⟨rfl, (Kept.refl w).alloc _⟩
        · have d2 := bne_int o2
          have hs : s.isEmpty = false := by simpa using fun e => hb ⟨by omega, by omega, by omega, .inl rfl, by rw [e]; simp, .inl e, q4, q5⟩
          clear hb q4 q5 q0 o2 o1
          go_enter Tryd.func33, Tryd.ntmps33
          go_wp2_with (go_at_call 46; refine (arity_any _ _).mono ?_; rintro e w' ⟨rfl, rfl⟩; rw [HK.out])
          go_ret
          exact ⟨rfl, (Kept.refl w).alloc _⟩
      · have d3 := bne_int hn
        clear hb q4 q5 q0 o1 hn
        go_enter Tryd.func33, Tryd.ntmps33
        go_wp2_with (go_at_call 46; refine (arity_any _ _).mono ?_; rintro e w' ⟨rfl, rfl⟩; rw [HK.out])
        go_ret
        exact ⟨rfl, (Kept.refl w).alloc _⟩
  · have c3 := bne_int q0
    have c4 := bne_int q2
    clear hb q2 q0
    go_enter Tryd.func33, Tryd.ntmps33
    go_wp2_with (go_at_call 46; refine (arity_any _ _).mono ?_; rintro e w' ⟨rfl, rfl⟩; rw [HK.out])
    go_ret
    exact ⟨rfl, (Kept.refl w).alloc _⟩
end Go.Proofs.YtdhdgbihalfgeaaDoor
