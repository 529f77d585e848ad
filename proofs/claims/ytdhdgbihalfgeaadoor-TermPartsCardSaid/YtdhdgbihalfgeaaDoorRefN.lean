/- The document's terms: which nodes may be, whole. -/
import Derived.Test.YtdhdgbihalfgeaaDoorRefM
set_option linter.unusedSimpArgs false
set_option linter.unusedVariables false
namespace Go.Proofs.YtdhdgbihalfgeaaDoor
open Go.RowKit Go.Maps

def MayPost (w : World) (ds : List Nd) (d : Nd) (e : Ending) (w' : World) : Prop := ∃ b : Bool, e = .returned (.bool b) ∧ (b = true ↔ May ds d) ∧ Kept w w'

set_option maxRecDepth 100000 in
set_option maxHeartbeats 4000000 in
theorem mayR_good {F : Nat → Prop} {w : World} {p : Value} {ds : List Nd} (h : ArR F w p ds) {v : Value} {d : Nd} (hd : RdN w v d) (hb : 1 ≤ d.op ∧ d.op ≤ 12 ∧ 0 ≤ d.n ∧ (d.n = 0 ∨ d.op = 1) ∧ d.s.length ≤ 200 ∧ (d.s = [] ∨ d.op = 2) ∧ kLeast d.op ≤ d.l.length ∧ (d.l.length : Int) ≤ kMost d.op) :
    Calls Tryd.prog 33 #[p, v] w (MayPost w ds d) := by
  have h64 : d.l.length ≤ 64 := by
    have hb := hb
    have := hb.2.2.2.2.2.2.2
    rcases op_cases hb.1 hb.2.1 with e | e | e | e | e | e | e | e | e | e | e | e <;> rw [e] at this <;> simp [kMost, kTab] at this <;> (try rw [this]) <;> simp <;> omega
  obtain ⟨lv, rfl, hr⟩ := hd
  obtain ⟨op, n, s, l⟩ := d
  simp only at hr hb h64 ⊢
  obtain ⟨la, lc, rfl, l1, l2, l3⟩ := hr.len
  have HB := Shut.mk hb
  obtain ⟨o1, o2, o3, o4, o5, o6, o7, o8⟩ := hb
  have hop : (op = 3 ∧ arR op = -1) ∨ (op ≠ 3 ∧ 0 ≤ arR op ∧ kLeast op = arR op ∧ kMost op = arR op) := by
    rcases op_cases o1 o2 with rfl | rfl | rfl | rfl | rfl | rfl | rfl | rfl | rfl | rfl | rfl | rfl <;> decide
  have hL : ((l.length : Nat) : Int) ≤ 9223372036854775807 := by unfold maxLen at l2; omega
  have hL64 : ((l.length : Nat) : Int) ≤ 64 := by omega
  have e1 := strB_size s
  have e2 := strB_list s
  have MM : Shut ((∀ x ∈ l, 0 ≤ x ∧ x < ds.length) → (op = 6 → (ds.getD (l.getD 1 0).toNat nd0).op = 2) → May ds ⟨op, n, s, l⟩) :=
    ⟨fun a b => ⟨o1, o2, o3, o4, o5, o6, o7, o8, a, b⟩⟩
  have hl3 : Shut (op = 6 → l.length = 3) := ⟨fun e => by
    rw [e] at o7 o8
    simp [kLeast, kMost, kTab] at o7 o8
    omega⟩
  have hcase : (arR op = -1 ∧ (op != 3) = false ∧ (op != 1) = true ∧ (op != 2) = true ∧ n = 0 ∧ s = []) ∨ (arR op = 0 ∧ (op != 1) = false ∧ (op != 2) = true ∧ ((l.length : Int) != 0) = false ∧ s = []) ∨ (arR op = 0 ∧ (op != 1) = true ∧ (op != 2) = false ∧ ((l.length : Int) != 0) = false ∧ n = 0) ∨ ((op != 1) = true ∧ (op != 2) = true ∧ 0 ≤ arR op ∧ ((l.length : Int) != arR op) = false ∧ n = 0 ∧ s = []) := by
    rcases hop with ⟨a, b⟩ | ⟨a, b, c, d⟩
    · exact .inl ⟨b, beq_int a, bne_int (by omega), bne_int (by omega), o4.resolve_right (by omega), o6.resolve_right (by omega)⟩
    · by_cases c1 : op = 1
      · subst c1
        exact .inr (.inl ⟨rfl, rfl, rfl, beq_int (by have : arR 1 = 0 := rfl; omega), o6.resolve_right (by omega)⟩)
      · by_cases c2 : op = 2
        · subst c2
          exact .inr (.inr (.inl ⟨rfl, rfl, rfl, beq_int (by have : arR 2 = 0 := rfl; omega), o4.resolve_right (by omega)⟩))
        · exact .inr (.inr (.inr ⟨bne_int c1, bne_int c2, b, beq_int (by omega), o4.resolve_right c1, o6.resolve_right c2⟩))
  generalize hK : arR op = kk at hcase
  have HK := Shut.mk hK
  clear hK hop o4 o6 o7 o8
  generalize hS : strB s = S at e1 e2
  have HS := Shut.mk hS
  clear hS
  obtain ⟨pb, mb, nv, rfl, q0, q1, qn⟩ := ArG.nodes h
  obtain ⟨na, ncap, rfl, n1, n2, n3⟩ := qn.len
  have dl : ((ds.length : Nat) : Int) ≤ 9223372036854775807 := by unfold maxLen at n2; omega
  have q0a : ∀ ob, (w.alloc ob).cell? ⟨pb, 0, none⟩ = some (.slice na ds.length ncap) := fun ob => by rw [World.cell?_alloc_past _ _ _ (World.block_lt_of_cell? _ _ q0)]; exact q0
  rcases hcase with ⟨rfl, c1, c2, c3, rfl, rfl⟩ | ⟨rfl, c1, c2, c3, rfl⟩ | ⟨rfl, c1, c2, c3, rfl⟩ | ⟨c1, c2, c3, c4, rfl, rfl⟩
  all_goals
    go_enter Tryd.func33, Tryd.ntmps33
    go_wp2_with (go_at_call 46; refine (arity_any _ _).mono ?_; rintro e w' ⟨rfl, rfl⟩; rw [HK.out])
    go_loop [69] (fun s => ∃ k : Nat, (k ≤ l.length ∧ ∀ i, i < k → 0 ≤ l.getD i 0 ∧ l.getD i 0 < ds.length) ∧ s = .int .i64 k) (fun s => l.length - (intOf s).toNat)
    case atStart => exact ⟨0, ⟨Nat.zero_le _, fun i hi => absurd hi (Nat.not_lt_zero _)⟩, rfl⟩
    case round =>
      obtain ⟨k, ⟨hk0, hk1⟩, rfl⟩ := hrel
      have HK1 := Shut.mk hk1
      clear hk1
      by_cases hlt : k < l.length
      · obtain ⟨rb, ro, rc, hrv, _, _, hrb, hcell⟩ := hr.addr (by omega)
        simp only [Value.slice.injEq] at hrv
        obtain ⟨rfl, hdrop, rfl⟩ := hrv
        clear hdrop
        have hcw : ∀ (ob : Obj), (w.alloc ob).cell? ⟨rb, ro + k, none⟩ = some (.int .i64 (l.getD k 0)) := fun ob => ((Kept.refl w).alloc ob).cell (p := ⟨rb, ro + k, none⟩) hrb |>.trans (hcell k hlt)
        clear hcell
        generalize hx : l.getD k 0 = x at hcw
        have HX := Shut.mk hx
        clear hx
        by_cases hx0 : x < 0
        · go_wp2
          go_ret
          refine ⟨false, rfl, ⟨(fun h => by cases h), fun m => ?_⟩, ((Kept.refl w).alloc _)⟩
          have := m.all x (by rw [← HX.out, List.getD_eq_getElem?_getD, List.getElem?_eq_getElem hlt]; exact List.getElem_mem _)
          omega
        · by_cases hx1 : x < ds.length
          · go_wp2
            go_round
            case rel => exact ⟨k + 1, ⟨hlt, fun i hi => by
              by_cases c : i < k
              · exact HK1.out i c
              · obtain rfl : i = k := by omega
                rw [HX.out]; omega⟩, rfl⟩
            case measure => simp [intOf]; omega
          · go_wp2
            go_ret
            refine ⟨false, rfl, ⟨(fun h => by cases h), fun m => ?_⟩, ((Kept.refl w).alloc _)⟩
            have := m.all x (by rw [← HX.out, List.getD_eq_getElem?_getD, List.getElem?_eq_getElem hlt]; exact List.getElem_mem _)
            omega
      · obtain rfl : k = l.length := by omega
        have hall : Shut (∀ x ∈ l, 0 ≤ x ∧ x < ds.length) := ⟨fun x hx => by
          obtain ⟨i, hi, e⟩ := List.mem_iff_getElem.1 hx
          have := HK1.out i hi
          rwa [List.getD_eq_getElem?_getD, List.getElem?_eq_getElem hi, Option.getD_some, e] at this⟩
        by_cases h6 : op = 6
        · have hb6 := beq_int h6
          have hl3' : l.length = 3 := hl3.out h6
          have hx1 := HK1.out 1 (by omega)
          obtain ⟨j, hj⟩ := Int.eq_ofNat_of_zero_le hx1.1
          have hjl : j < ds.length := by omega
          obtain ⟨nb, noff, ncap', lvs, hnv, _, _, hnb, hnc, _⟩ := qn.addr (by omega)
          simp only [Value.slice.injEq] at hnv
          obtain ⟨rfl, hdrop, rfl⟩ := hnv
          clear hdrop
          obtain ⟨nc, _, _, _⟩ := hnc j hjl
          obtain ⟨rb, ro, rc, hrv, _, _, hrb, hcell⟩ := hr.addr (by omega)
          simp only [Value.slice.injEq] at hrv
          obtain ⟨rfl, hdrop, rfl⟩ := hrv
          clear hdrop
          have hc1 := hcell 1 (by omega)
          rw [hj] at hc1
          clear hcell hnc
          have nca : ∀ ob, (w.alloc ob).cell? ⟨nb, noff + j * 4, none⟩ = some (.int .i64 (ds.getD j nd0).op) := fun ob => by rw [World.cell?_alloc_past _ _ _ (World.block_lt_of_cell? _ _ nc)]; exact nc
          have hca : ∀ ob, (w.alloc ob).cell? ⟨rb, ro + 1, none⟩ = some (.int .i64 (j : Int)) := fun ob => by rw [World.cell?_alloc_past _ _ _ (World.block_lt_of_cell? _ _ hc1)]; exact hc1
          have j0 : (0 : Int) ≤ (j : Int) := by omega
          have j1 : (j : Int) < (ds.length : Int) := by omega
          have l31 : (1 : Int) < (l.length : Int) := by omega
          have HL3 := Shut.mk hl3'
          have H6 := Shut.mk h6
          have HJ := Shut.mk hj
          clear hl3' h6 hj hx1
          generalize hop' : (ds.getD j nd0).op = oj at nc nca
          have HO := Shut.mk hop'
          clear hop'
          go_wp2
          go_quiet (fail)
          go_wp2
          go_ret
          refine ⟨_, rfl, ⟨fun hh => ?_, fun m => ?_⟩, ?_⟩
          · exact MM.out hall.out (fun e => by
              simp only [HJ.out, Int.toNat_natCast, HO.out]
              simpa using hh)
          · have := m.key H6.out
            simp only [HJ.out, Int.toNat_natCast, HO.out] at this
            simp [this]
          · exact ((Kept.refl w).alloc _).drewN _
        · have hb6 := bne_int h6
          go_wp2
          go_quiet (fail)
          go_wp2
          go_ret
          refine ⟨true, rfl, ⟨fun _ => MM.out hall.out (fun e => absurd e h6), fun _ => rfl⟩, ((Kept.refl w).alloc _).drewN _⟩
theorem mayR_any {F : Nat → Prop} {w : World} {p : Value} {ds : List Nd} (h : ArR F w p ds) {v : Value} {d : Nd} (hd : RdN w v d) :
    Calls Tryd.prog 33 #[p, v] w (MayPost w ds d) := by
  by_cases hb : 1 ≤ d.op ∧ d.op ≤ 12 ∧ 0 ≤ d.n ∧ (d.n = 0 ∨ d.op = 1) ∧ d.s.length ≤ 200 ∧ (d.s = [] ∨ d.op = 2) ∧ kLeast d.op ≤ d.l.length ∧ (d.l.length : Int) ≤ kMost d.op
  · exact mayR_good h hd hb
  · exact (mayR_bad hd hb).mono fun e w' ⟨a, b⟩ => ⟨false, a, ⟨(fun x => by cases x), fun m => absurd ⟨m.op1, m.op12, m.n0, m.n1, m.s0, m.s1, m.least, m.most⟩ hb⟩, b⟩
end Go.Proofs.YtdhdgbihalfgeaaDoor
