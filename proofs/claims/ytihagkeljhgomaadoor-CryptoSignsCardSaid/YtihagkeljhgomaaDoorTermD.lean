/- Walks of package term: allows, whole. -/
import Derived.Test.YtihagkeljhgomaaDoorTermC
set_option linter.unusedSimpArgs false
set_option linter.unusedVariables false
namespace Go.Proofs.YtihagkeljhgomaaDoor
open Go.RowKit Go.Maps

set_option maxRecDepth 100000 in
set_option maxHeartbeats 4000000 in
theorem allows_good {F : Nat → Prop} {w : World} {p : Value} {ds : List Nd} (h : Ar F w p ds) (ht : Tabs w) {v : Value} {d : Nd} (hd : RdN w v d) (hop : 1 ≤ d.op ∧ d.op ≤ 12) (hn : 0 ≤ d.n ∧ (d.n = 0 ∨ d.op = 1)) (hb : (d.s.length ≤ 200 ∧ (d.s = [] ∨ d.op = 2))) (hk : kLeast d.op ≤ d.l.length ∧ (d.l.length : Int) ≤ kMost d.op) :
    Calls Tryd.prog 37 #[p, v] w fun e w' => ∃ b : Bool, e = .returned (.bool b) ∧ (b = true ↔ May ds d) ∧ Kept w w' := by
  obtain ⟨lv, rfl, hr⟩ := hd
  obtain ⟨op, n, s, l⟩ := d
  simp only at hr hb hop hn hk ⊢
  have HP : Shut ((1 ≤ op ∧ op ≤ 12) ∧ (0 ≤ n ∧ (n = 0 ∨ op = 1)) ∧ s.length ≤ 200 ∧ (s = [] ∨ op = 2)) := ⟨⟨hop, hn, hb⟩⟩
  obtain ⟨h1, h2⟩ := hop
  obtain ⟨o, rfl⟩ := Int.eq_ofNat_of_zero_le (show 0 ≤ op by omega)
  have hcase : (n = 0 ∧ s = []) ∨ (0 < n ∧ ((o : Int) != 1) = false ∧ s = []) ∨ (n = 0 ∧ s.isEmpty = false ∧ ((o : Int) != 2) = false) := by
    obtain ⟨a1, a2⟩ := hn
    obtain ⟨b1, b2⟩ := hb
    by_cases c : n = 0
    · by_cases c' : s = []
      · exact .inl ⟨c, c'⟩
      · exact .inr (.inr ⟨c, by simpa using c', beq_int (b2.resolve_left c')⟩)
    · have c' := a2.resolve_left c
      exact .inr (.inl ⟨by omega, beq_int c', b2.resolve_right (by omega)⟩)
  have h5 : s.length ≤ 200 := hb.1
  clear hn hb
  obtain ⟨k0, k1, k2⟩ := ht.kinds o (by omega)
  have k1a : ∀ ob, (w.alloc ob).cell? ⟨0, o * 3 + 1, none⟩ = some (.int .i64 (kLeast o)) := fun ob => by rw [World.cell?_alloc_past _ _ _ (World.block_lt_of_cell? _ _ k1)]; exact k1
  have k2a : ∀ ob, (w.alloc ob).cell? ⟨0, o * 3 + 2, none⟩ = some (.int .i64 (kMost o)) := fun ob => by rw [World.cell?_alloc_past _ _ _ (World.block_lt_of_cell? _ _ k2)]; exact k2
  obtain ⟨la, lc, rfl, l1, l2, l3⟩ := hr.len
  have e1 := strB_size s
  have e2 := strB_list s
  generalize hS : strB s = S at e1 e2
  have HS := Shut.mk hS
  clear hS
  generalize hM : kLeast o = lea at k1 k1a
  generalize hN : kMost o = mos at k2 k2a
  have HM := Shut.mk hM
  have HN := Shut.mk hN
  clear hM hN
  have h13 : (o : Int) < 13 := by omega
  have h00 : (0 : Int) ≤ (o : Int) := by omega
  have hL : ((l.length : Nat) : Int) ≤ 9223372036854775807 := by unfold maxLen at l2; omega
  have HK := Shut.mk hk
  obtain ⟨hk1, hk2⟩ := hk
  have hd : decide ((l.length : Int) < lea) = false := by rw [HM.out] at hk1; simpa using hk1
  have hd2 : decide (mos < (l.length : Int)) = false := by rw [HN.out] at hk2; simpa using hk2
  clear hk1 hk2
  have hb0 : ∀ ob n, Ar F ((w.alloc ob).drewN n) p ds := fun ob n => ArG.kept h (((Kept.refl w).alloc ob).drewN n)
  have MM : Shut ((∀ x ∈ l, 0 ≤ x ∧ x < ds.length) → ((o : Int) = 6 → (ds.getD (l.getD 1 0).toNat nd0).op = 2) → May ds ⟨o, n, s, l⟩) :=
    ⟨fun a b => ⟨HP.out.1.1, HP.out.1.2, HP.out.2.1.1, HP.out.2.1.2, HP.out.2.2.1, HP.out.2.2.2, HK.out.1, HK.out.2, a, b⟩⟩
  rcases hcase with ⟨rfl, rfl⟩ | ⟨c1, c2, rfl⟩ | ⟨rfl, c1, c2⟩
  all_goals
    go_enter Tryd.func37, Tryd.ntmps37
    go_wp2
    go_quiet (fail)
    go_wp2
    go_loop [65] (fun s => ∃ k : Nat, (k ≤ l.length ∧ ∀ i, i < k → 0 ≤ l.getD i 0 ∧ l.getD i 0 < ds.length) ∧ s = .int .i64 k) (fun s => l.length - (intOf s).toNat)
    case atStart => exact ⟨0, ⟨Nat.zero_le _, fun i hi => absurd hi (Nat.not_lt_zero _)⟩, rfl⟩
    case round =>
      obtain ⟨k, ⟨hk0, hk1⟩, rfl⟩ := hrel
      by_cases hlt : k < l.length
      · obtain ⟨rb, ro, rc, hrv, _, _, hrb, hcell⟩ := hr.addr (by omega)
        simp only [Value.slice.injEq] at hrv
        obtain ⟨rfl, _, rfl⟩ := hrv
        have hcw : ∀ (ob : Obj) (n : Nat), ((w.alloc ob).drewN n).cell? ⟨rb, ro + k, none⟩ = some (.int .i64 (l.getD k 0)) := fun ob n => (((Kept.refl w).alloc ob).drewN n).cell (p := ⟨rb, ro + k, none⟩) hrb |>.trans (hcell k hlt)
        clear hcell
        generalize hx : l.getD k 0 = x at hcw
        have HX := Shut.mk hx
        clear hx
        have HK1 := Shut.mk hk1
        clear hk1
        by_cases hin : 0 ≤ x ∧ x < ds.length
        · obtain ⟨x0, x1⟩ := hin
          go_wp2_with (go_at_call 41; refine (arg_has_t (hb0 _ _) x0 x1).mono ?_; rintro e w' ⟨rfl, rfl⟩)
          go_round
          case rel => exact ⟨k + 1, ⟨hlt, fun i hi => by
            by_cases c : i < k
            · exact HK1.out i c
            · obtain rfl : i = k := by omega
              rw [HX.out]; exact ⟨x0, x1⟩⟩, rfl⟩
          case measure => simp [intOf]; omega
        · have HI := Shut.mk hin
          clear hin
          go_wp2_with (go_at_call 41; refine (arg_has_f (hb0 _ _) HI.out).mono ?_; rintro e w' ⟨rfl, rfl⟩)
          go_ret
          refine ⟨false, rfl, ⟨(fun h => by cases h), fun m => ?_⟩, ((Kept.refl w).alloc _).drewN _⟩
          exact absurd (m.all x (by rw [← HX.out, List.getD_eq_getElem?_getD, List.getElem?_eq_getElem hlt]; exact List.getElem_mem _)) HI.out
      · obtain rfl : k = l.length := by omega
        have HK1 := Shut.mk hk1
        clear hk1
        by_cases h6 : (o : Int) = 6
        · have hb6 := beq_int h6
          have hl3 : l.length = 3 := by
            have a := HK.out
            rw [h6] at a
            simp [kLeast, kMost, kTab] at a
            omega
          have hx1 := HK1.out 1 (by omega)
          obtain ⟨j, hj⟩ := Int.eq_ofNat_of_zero_le hx1.1
          have hjl : j < ds.length := by omega
          obtain ⟨pb, mb, nv, rfl, q0, q1, qn⟩ := ArG.nodes h
          obtain ⟨nb, noff, ncap, lvs, rfl, _, _, hnb, hnc, _⟩ := qn.addr (by omega)
          obtain ⟨nc, _, _, _⟩ := hnc j hjl
          obtain ⟨rb, ro, rc, hrv, _, _, hrb, hcell⟩ := hr.addr (by omega)
          simp only [Value.slice.injEq] at hrv
          obtain ⟨rfl, _, rfl⟩ := hrv
          have hc1 := hcell 1 (by omega)
          rw [hj] at hc1
          clear hcell hnc
          have q0a : ∀ ob, (w.alloc ob).cell? ⟨pb, 0, none⟩ = some (.slice (some ⟨nb, noff, none⟩) ds.length ncap) := fun ob => by rw [World.cell?_alloc_past _ _ _ (World.block_lt_of_cell? _ _ q0)]; exact q0
          have nca : ∀ ob, (w.alloc ob).cell? ⟨nb, noff + j * 4, none⟩ = some (.int .i64 (ds.getD j nd0).op) := fun ob => by rw [World.cell?_alloc_past _ _ _ (World.block_lt_of_cell? _ _ nc)]; exact nc
          have hca : ∀ ob, (w.alloc ob).cell? ⟨rb, ro + 1, none⟩ = some (.int .i64 (j : Int)) := fun ob => by rw [World.cell?_alloc_past _ _ _ (World.block_lt_of_cell? _ _ hc1)]; exact hc1
          have j0 : (0 : Int) ≤ (j : Int) := by omega
          have j1 : (j : Int) < (ds.length : Int) := by omega
          have l31 : (1 : Int) < (l.length : Int) := by omega
          have HL3 := Shut.mk hl3
          have H6 := Shut.mk h6
          have HJ := Shut.mk hj
          clear hl3 h6 hj hx1
          generalize hop' : (ds.getD j nd0).op = oj at nc nca
          have HO := Shut.mk hop'
          clear hop'
          go_wp2
          go_quiet (fail)
          go_wp2
          go_ret
          refine ⟨_, rfl, ⟨fun hh => ?_, fun m => ?_⟩, ?_⟩
          · exact MM.out (fun x hx => by
              obtain ⟨i, hi, e⟩ := List.mem_iff_getElem.1 hx
              have := HK1.out i hi
              rwa [List.getD_eq_getElem?_getD, List.getElem?_eq_getElem hi, Option.getD_some, e] at this) (fun e => by
              simp only [HJ.out, Int.toNat_natCast, HO.out]
              simpa using hh)
          · have := m.key H6.out
            simp only [HJ.out, Int.toNat_natCast, HO.out] at this
            simp [this]
          · exact (((Kept.refl w).alloc _).drewN _).drewN _
        · have hb6 := bne_int h6
          go_wp2
          go_quiet (fail)
          go_wp2
          go_ret
          refine ⟨true, rfl, ⟨fun _ => ?_, fun _ => rfl⟩, ?_⟩
          · exact MM.out (fun x hx => by
              obtain ⟨i, hi, e⟩ := List.mem_iff_getElem.1 hx
              have := HK1.out i hi
              rwa [List.getD_eq_getElem?_getD, List.getElem?_eq_getElem hi, Option.getD_some, e] at this) (fun e => absurd e h6)
          · exact (((Kept.refl w).alloc _).drewN _).drewN _

/-- allows tells whether a node may be. -/
theorem allows_any {F : Nat → Prop} {w : World} {p : Value} {ds : List Nd} (h : Ar F w p ds) (ht : Tabs w) {v : Value} {d : Nd} (hd : RdN w v d) :
    Calls Tryd.prog 37 #[p, v] w fun e w' => ∃ b : Bool, e = .returned (.bool b) ∧ (b = true ↔ May ds d) ∧ Kept w w' := by
  by_cases h1 : 1 ≤ d.op ∧ d.op ≤ 12
  · by_cases h2 : 0 ≤ d.n ∧ (d.n = 0 ∨ d.op = 1)
    · by_cases h3 : d.s.length ≤ 200 ∧ (d.s = [] ∨ d.op = 2)
      · by_cases h4 : kLeast d.op ≤ d.l.length ∧ (d.l.length : Int) ≤ kMost d.op
        · exact allows_good h ht hd h1 h2 h3 h4
        · exact allows_bad4 h ht hd h1 h2 h3 h4
      · exact (allows_bad3 h hd h1 h2 h3).mono fun e w' ⟨a, b⟩ => ⟨false, a, ⟨(fun x => by cases x), fun m => absurd ⟨m.s0, m.s1⟩ h3⟩, b⟩
    · exact (allows_bad2 h hd h1 h2).mono fun e w' ⟨a, b⟩ => ⟨false, a, ⟨(fun x => by cases x), fun m => absurd ⟨m.n0, m.n1⟩ h2⟩, b⟩
  · exact (allows_bad1 h hd h1).mono fun e w' ⟨a, b⟩ => ⟨false, a, ⟨(fun x => by cases x), fun m => absurd ⟨m.op1, m.op12⟩ h1⟩, b⟩
end Go.Proofs.YtihagkeljhgomaaDoor
