/- Walks of package term: allows. -/
import Derived.Test.YtihagkeljhgomaaDoorTermB
import Derived.Test.YtihagkeljhgomaaDoorShelf
set_option linter.unusedSimpArgs false
set_option linter.unusedVariables false
namespace Go.Proofs.YtihagkeljhgomaaDoor
open Go.RowKit Go.Maps

theorem bad1 {ds : List Nd} {d : Nd} (h : ¬ (1 ≤ d.op ∧ d.op ≤ 12)) : ¬ May ds d := fun m => h ⟨m.op1, m.op12⟩

set_option maxRecDepth 100000 in
set_option maxHeartbeats 2000000 in
theorem allows_bad1 {F : Nat → Prop} {w : World} {p : Value} {ds : List Nd} (h : Ar F w p ds) {v : Value} {d : Nd} (hd : RdN w v d) (hb : ¬ (1 ≤ d.op ∧ d.op ≤ 12)) :
    Calls Tryd.prog 37 #[p, v] w fun e w' => e = .returned (.bool false) ∧ Kept w w' := by
  obtain ⟨lv, rfl, hr⟩ := hd
  obtain ⟨op, n, s, l⟩ := d
  simp only at hr hb ⊢
  by_cases h1 : op < 1
  · go_enter Tryd.func37, Tryd.ntmps37
    go_wp2
    go_ret
    exact ⟨rfl, (Kept.refl w).alloc _⟩
  · go_enter Tryd.func37, Tryd.ntmps37
    go_wp2
    go_ret
    exact ⟨rfl, (Kept.refl w).alloc _⟩
set_option maxRecDepth 100000 in
set_option maxHeartbeats 2000000 in
theorem allows_bad2 {F : Nat → Prop} {w : World} {p : Value} {ds : List Nd} (h : Ar F w p ds) {v : Value} {d : Nd} (hd : RdN w v d) (hop : 1 ≤ d.op ∧ d.op ≤ 12) (hb : ¬ (0 ≤ d.n ∧ (d.n = 0 ∨ d.op = 1))) :
    Calls Tryd.prog 37 #[p, v] w fun e w' => e = .returned (.bool false) ∧ Kept w w' := by
  obtain ⟨lv, rfl, hr⟩ := hd
  obtain ⟨op, n, s, l⟩ := d
  simp only at hr hb hop ⊢
  obtain ⟨h1, h2⟩ := hop
  by_cases h3 : n < 0
  · go_enter Tryd.func37, Tryd.ntmps37
    go_wp2
    go_ret
    exact ⟨rfl, (Kept.refl w).alloc _⟩
  · have h4 : 0 < n := by omega
    have h5 : op ≠ 1 := by omega
    go_enter Tryd.func37, Tryd.ntmps37
    go_wp2
    go_ret
    exact ⟨rfl, (Kept.refl w).alloc _⟩
set_option maxRecDepth 100000 in
set_option maxHeartbeats 2000000 in
theorem allows_bad3 {F : Nat → Prop} {w : World} {p : Value} {ds : List Nd} (h : Ar F w p ds) {v : Value} {d : Nd} (hd : RdN w v d) (hop : 1 ≤ d.op ∧ d.op ≤ 12) (hn : 0 ≤ d.n ∧ (d.n = 0 ∨ d.op = 1)) (hb : ¬ (d.s.length ≤ 200 ∧ (d.s = [] ∨ d.op = 2))) :
    Calls Tryd.prog 37 #[p, v] w fun e w' => e = .returned (.bool false) ∧ Kept w w' := by
  obtain ⟨lv, rfl, hr⟩ := hd
  obtain ⟨op, n, s, l⟩ := d
  simp only at hr hb hop hn ⊢
  obtain ⟨h1, h2⟩ := hop
  obtain ⟨h3, h4⟩ := hn
  have e1 := strB_size s
  have e2 := strB_list s
  generalize strB s = S at e1 e2
  by_cases h5 : 200 < s.length
  · go_enter Tryd.func37, Tryd.ntmps37
    go_wp2
    all_goals (go_ret; exact ⟨rfl, (Kept.refl w).alloc _⟩)
  · have h6 : s.isEmpty = false := by
      cases s with
      | nil => exact absurd ⟨by omega, .inl rfl⟩ hb
      | cons => rfl
    have h7 : (op != 2) = true := by simpa using fun e => hb ⟨by omega, .inr e⟩
    go_enter Tryd.func37, Tryd.ntmps37
    go_wp2
    all_goals (go_ret; exact ⟨rfl, (Kept.refl w).alloc _⟩)


theorem bne_int {a b : Int} (h : a ≠ b) : (a != b) = true := by simpa using h
theorem beq_int {a b : Int} (h : a = b) : (a != b) = false := by simpa using h

set_option maxRecDepth 100000 in
set_option maxHeartbeats 4000000 in
theorem allows_bad4 {F : Nat → Prop} {w : World} {p : Value} {ds : List Nd} (h : Ar F w p ds) (ht : Tabs w) {v : Value} {d : Nd} (hd : RdN w v d) (hop : 1 ≤ d.op ∧ d.op ≤ 12) (hn : 0 ≤ d.n ∧ (d.n = 0 ∨ d.op = 1)) (hb : (d.s.length ≤ 200 ∧ (d.s = [] ∨ d.op = 2))) (hk : ¬ (kLeast d.op ≤ d.l.length ∧ (d.l.length : Int) ≤ kMost d.op)) :
    Calls Tryd.prog 37 #[p, v] w fun e w' => ∃ b : Bool, e = .returned (.bool b) ∧ (b = true ↔ May ds d) ∧ Kept w w' := by
  obtain ⟨lv, rfl, hr⟩ := hd
  obtain ⟨op, n, s, l⟩ := d
  simp only at hr hb hop hn hk ⊢
  have HP : Shut ((1 ≤ op ∧ op ≤ 12) ∧ (0 ≤ n ∧ (n = 0 ∨ op = 1)) ∧ s.length ≤ 200 ∧ (s = [] ∨ op = 2)) := ⟨⟨hop, hn, hb⟩⟩
  obtain ⟨h1, h2⟩ := hop
  obtain ⟨o, rfl⟩ := Int.eq_ofNat_of_zero_le (show 0 ≤ op by omega)
  have hcase : (n = 0 ∧ s = []) ∨ (0 < n ∧ ((o : Int) != 1) = false ∧ s = []) ∨ (n = 0 ∧ s.isEmpty = false ∧ ((o : Int) != 2) = false) := by
    obtain ⟨a1, a2⟩ := hn
    obtain ⟨b1, b2⟩ := hb
    by_cases c : n = 0
    · by_cases c' : s = []
      · exact .inl ⟨c, c'⟩
      · exact .inr (.inr ⟨c, by simpa using c', beq_int (b2.resolve_left c')⟩)
    · have c' := a2.resolve_left c
      exact .inr (.inl ⟨by omega, beq_int c', b2.resolve_right (by omega)⟩)
  have h5 : s.length ≤ 200 := hb.1
  clear hn hb
  obtain ⟨k0, k1, k2⟩ := ht.kinds o (by omega)
  have k1a : ∀ ob, (w.alloc ob).cell? ⟨0, o * 3 + 1, none⟩ = some (.int .i64 (kLeast o)) := fun ob => by rw [World.cell?_alloc_past _ _ _ (World.block_lt_of_cell? _ _ k1)]; exact k1
  have k2a : ∀ ob, (w.alloc ob).cell? ⟨0, o * 3 + 2, none⟩ = some (.int .i64 (kMost o)) := fun ob => by rw [World.cell?_alloc_past _ _ _ (World.block_lt_of_cell? _ _ k2)]; exact k2
  obtain ⟨la, lc, rfl, l1, l2, l3⟩ := hr.len
  have e1 := strB_size s
  have e2 := strB_list s
  generalize hS : strB s = S at e1 e2
  have HS := Shut.mk hS
  clear hS
  generalize hM : kLeast o = lea at k1 k1a
  generalize hN : kMost o = mos at k2 k2a
  have HM := Shut.mk hM
  have HN := Shut.mk hN
  clear hM hN
  have h13 : (o : Int) < 13 := by omega
  have h00 : (0 : Int) ≤ (o : Int) := by omega
  have hL : ((l.length : Nat) : Int) ≤ 9223372036854775807 := by unfold maxLen at l2; omega
  by_cases h7 : (l.length : Int) < lea
  · have hd : decide ((l.length : Int) < lea) = true := by simpa using h7
    have hng : ¬ May ds ⟨o, n, s, l⟩ := fun m => by have := m.least; simp only [HM.out] at this; omega
    rcases hcase with ⟨rfl, rfl⟩ | ⟨c1, c2, rfl⟩ | ⟨rfl, c1, c2⟩
    all_goals
      go_enter Tryd.func37, Tryd.ntmps37
      go_wp2
      go_quiet (fail)
      go_wp2
      go_ret
      exact ⟨false, rfl, ⟨(fun h => by cases h), fun m => absurd m hng⟩, ((Kept.refl w).alloc _).drewN _⟩
  · have hd : decide ((l.length : Int) < lea) = false := by simpa using h7
    by_cases h8 : mos < (l.length : Int)
    · have hd : decide (mos < (l.length : Int)) = true := by simpa using h8
      have hng : ¬ May ds ⟨o, n, s, l⟩ := fun m => by have := m.most; simp only [HN.out] at this; omega
      rcases hcase with ⟨rfl, rfl⟩ | ⟨c1, c2, rfl⟩ | ⟨rfl, c1, c2⟩
      all_goals
        go_enter Tryd.func37, Tryd.ntmps37
        go_wp2
        go_quiet (fail)
        go_wp2
        go_ret
        exact ⟨false, rfl, ⟨(fun h => by cases h), fun m => absurd m hng⟩, ((Kept.refl w).alloc _).drewN _⟩
    · exact absurd ⟨by rw [HM.out]; omega, by rw [HN.out]; omega⟩ hk
end Go.Proofs.YtihagkeljhgomaaDoor
