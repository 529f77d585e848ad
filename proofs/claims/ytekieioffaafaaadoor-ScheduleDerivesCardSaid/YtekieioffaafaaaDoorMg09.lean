/- Texts of one proof, put together: ScQ, ScN. -/
import Derived.Test.YtekieioffaafaaaDoorMg05
import Derived.Laws.StructEq
import Derived.ChangeKeysEq
import Derived.Test.YtekieioffaafaaaDoorMg06
import Derived.Deep.Cut
section
/- Epochs compared. -/
set_option linter.unusedSimpArgs false
set_option linter.unusedVariables false
namespace Go.Proofs.YtekieioffaafaaaDoor
open Go.RowKit Go.Maps

/-- Whether two epochs are the same. -/
def epB (x y : Ep) : Bool := x.joiner == y.joiner && (x.welcome == y.welcome && (x.epoch == y.epoch && (x.sender == y.sender && (x.encryption == y.encryption && (x.exporter == y.exporter && (x.confirm == y.confirm && (x.membership == y.membership && (x.resumption == y.resumption && (x.external == y.external && x.init == y.init)))))))))
theorem epB_self (x : Ep) : epB x x = true := by simp [epB]
theorem eqF_cons {w : World} {f : Field} {fs : List Field} {xs ys : Array Value} {a b : Int} {r : Bool} (hn : f.name ≠ "_") (ht : f.type = 3) (hp : (part f.type xs f.offset).run Tryd.prog w = .ok (.int .i64 a) w) (hq : (part f.type ys f.offset).run Tryd.prog w = .ok (.int .i64 b) w)
    (hr : (Op.eqFields 9999 xs ys fs).run Tryd.prog w = .ok r w) : (Op.eqFields 9999 xs ys (f :: fs)).run Tryd.prog w = .ok ((a == b) && r) w := by
  have he : ∀ (a b : Int) (w : World), (Op.equalIn 9999 3 (.int .i64 a) (.int .i64 b)).run Tryd.prog w = .ok (a == b) w := fun a b w => run_equalIn_int (P := Tryd.prog) (w := w) 9998 3 .i64 .i64 a b Tryd.underlying3
  rw [ht] at hp hq
  simp only [Op.eqFields, if_pos hn, Sem.run_bind, Result.andThen_ok, ht, hp, hq, he]
  cases h : (a == b)
  · simp
  · simp [hr]
theorem cmpE (w : World) (x y : Ep) : (Op.equalIn 10000 30 (epV x) (epV y)).run Tryd.prog w = .ok (epB x y) w := by
  obtain ⟨x0, x1, x2, x3, x4, x5, x6, x7, x8, x9, x10⟩ := x
  obtain ⟨y0, y1, y2, y3, y4, y5, y6, y7, y8, y9, y10⟩ := y
  unfold epV epB
  simp only
  rw [run_equalIn_struct (P := Tryd.prog) w 9999 30 _ _ (by kernel_rfl) (by kernel_rfl)]
  have hp : Tryd.prog.plainKey 3 = true := by kernel_rfl
  have hL : (Tryd.prog.fieldsOf 30).toList.map (fun f => (f.type, f.offset)) = [(3, 0), (3, 1), (3, 2), (3, 3), (3, 4), (3, 5), (3, 6), (3, 7), (3, 8), (3, 9), (3, 10)] := by kernel_rfl
  have hN : (Tryd.prog.fieldsOf 30).toList.all (fun f => f.name != "_") = true := by kernel_rfl
  generalize (Tryd.prog.fieldsOf 30).toList = L at hL hN ⊢
  obtain ⟨f0, L0, rfl, g0, hL⟩ := List.map_eq_cons_iff.1 hL
  obtain ⟨f1, L1, rfl, g1, hL⟩ := List.map_eq_cons_iff.1 hL
  obtain ⟨f2, L2, rfl, g2, hL⟩ := List.map_eq_cons_iff.1 hL
  obtain ⟨f3, L3, rfl, g3, hL⟩ := List.map_eq_cons_iff.1 hL
  obtain ⟨f4, L4, rfl, g4, hL⟩ := List.map_eq_cons_iff.1 hL
  obtain ⟨f5, L5, rfl, g5, hL⟩ := List.map_eq_cons_iff.1 hL
  obtain ⟨f6, L6, rfl, g6, hL⟩ := List.map_eq_cons_iff.1 hL
  obtain ⟨f7, L7, rfl, g7, hL⟩ := List.map_eq_cons_iff.1 hL
  obtain ⟨f8, L8, rfl, g8, hL⟩ := List.map_eq_cons_iff.1 hL
  obtain ⟨f9, L9, rfl, g9, hL⟩ := List.map_eq_cons_iff.1 hL
  obtain ⟨f10, L10, rfl, g10, hL⟩ := List.map_eq_cons_iff.1 hL
  obtain rfl := List.map_eq_nil_iff.1 hL
  have hn : ∀ f ∈ [f0, f1, f2, f3, f4, f5, f6, f7, f8, f9, f10], f.name ≠ "_" := fun f hf => by simpa using List.all_eq_true.1 hN f hf
  have o0 : f0.offset = 0 := congrArg Prod.snd g0
  have o1 : f1.offset = 1 := congrArg Prod.snd g1
  have o2 : f2.offset = 2 := congrArg Prod.snd g2
  have o3 : f3.offset = 3 := congrArg Prod.snd g3
  have o4 : f4.offset = 4 := congrArg Prod.snd g4
  have o5 : f5.offset = 5 := congrArg Prod.snd g5
  have o6 : f6.offset = 6 := congrArg Prod.snd g6
  have o7 : f7.offset = 7 := congrArg Prod.snd g7
  have o8 : f8.offset = 8 := congrArg Prod.snd g8
  have o9 : f9.offset = 9 := congrArg Prod.snd g9
  have o10 : f10.offset = 10 := congrArg Prod.snd g10
  have t0 : f0.type = 3 := congrArg Prod.fst g0
  have p0 : (part f0.type #[.int .i64 x0, .int .i64 x1, .int .i64 x2, .int .i64 x3, .int .i64 x4, .int .i64 x5, .int .i64 x6, .int .i64 x7, .int .i64 x8, .int .i64 x9, .int .i64 x10] f0.offset).run Tryd.prog w = .ok (.int .i64 x0) w := by rw [t0, o0]; exact run_part_plain (P := Tryd.prog) w hp rfl
  have q0 : (part f0.type #[.int .i64 y0, .int .i64 y1, .int .i64 y2, .int .i64 y3, .int .i64 y4, .int .i64 y5, .int .i64 y6, .int .i64 y7, .int .i64 y8, .int .i64 y9, .int .i64 y10] f0.offset).run Tryd.prog w = .ok (.int .i64 y0) w := by rw [t0, o0]; exact run_part_plain (P := Tryd.prog) w hp rfl
  have t1 : f1.type = 3 := congrArg Prod.fst g1
  have p1 : (part f1.type #[.int .i64 x0, .int .i64 x1, .int .i64 x2, .int .i64 x3, .int .i64 x4, .int .i64 x5, .int .i64 x6, .int .i64 x7, .int .i64 x8, .int .i64 x9, .int .i64 x10] f1.offset).run Tryd.prog w = .ok (.int .i64 x1) w := by rw [t1, o1]; exact run_part_plain (P := Tryd.prog) w hp rfl
  have q1 : (part f1.type #[.int .i64 y0, .int .i64 y1, .int .i64 y2, .int .i64 y3, .int .i64 y4, .int .i64 y5, .int .i64 y6, .int .i64 y7, .int .i64 y8, .int .i64 y9, .int .i64 y10] f1.offset).run Tryd.prog w = .ok (.int .i64 y1) w := by rw [t1, o1]; exact run_part_plain (P := Tryd.prog) w hp rfl
  have t2 : f2.type = 3 := congrArg Prod.fst g2
  have p2 : (part f2.type #[.int .i64 x0, .int .i64 x1, .int .i64 x2, .int .i64 x3, .int .i64 x4, .int .i64 x5, .int .i64 x6, .int .i64 x7, .int .i64 x8, .int .i64 x9, .int .i64 x10] f2.offset).run Tryd.prog w = .ok (.int .i64 x2) w := by rw [t2, o2]; exact run_part_plain (P := Tryd.prog) w hp rfl
  have q2 : (part f2.type #[.int .i64 y0, .int .i64 y1, .int .i64 y2, .int .i64 y3, .int .i64 y4, .int .i64 y5, .int .i64 y6, .int .i64 y7, .int .i64 y8, .int .i64 y9, .int .i64 y10] f2.offset).run Tryd.prog w = .ok (.int .i64 y2) w := by rw [t2, o2]; exact run_part_plain (P := Tryd.prog) w hp rfl
  have t3 : f3.type = 3 := congrArg Prod.fst g3
  have p3 : (part f3.type #[.int .i64 x0, .int .i64 x1, .int .i64 x2, .int .i64 x3, .int .i64 x4, .int .i64 x5, .int .i64 x6, .int .i64 x7, .int .i64 x8, .int .i64 x9, .int .i64 x10] f3.offset).run Tryd.prog w = .ok (.int .i64 x3) w := by rw [t3, o3]; exact run_part_plain (P := Tryd.prog) w hp rfl
  have q3 : (part f3.type #[.int .i64 y0, .int .i64 y1, .int .i64 y2, .int .i64 y3, .int .i64 y4, .int .i64 y5, .int .i64 y6, .int .i64 y7, .int .i64 y8, .int .i64 y9, .int .i64 y10] f3.offset).run Tryd.prog w = .ok (.int .i64 y3) w := by rw [t3, o3]; exact run_part_plain (P := Tryd.prog) w hp rfl
  have t4 : f4.type = 3 := congrArg Prod.fst g4
  have p4 : (part f4.type #[.int .i64 x0, .int .i64 x1, .int .i64 x2, .int .i64 x3, .int .i64 x4, .int .i64 x5, .int .i64 x6, .int .i64 x7, .int .i64 x8, .int .i64 x9, .int .i64 x10] f4.offset).run Tryd.prog w = .ok (.int .i64 x4) w := by rw [t4, o4]; exact run_part_plain (P := Tryd.prog) w hp rfl
  have q4 : (part f4.type #[.int .i64 y0, .int .i64 y1, .int .i64 y2, .int .i64 y3, .int .i64 y4, .int .i64 y5, .int .i64 y6, .int .i64 y7, .int .i64 y8, .int .i64 y9, .int .i64 y10] f4.offset).run Tryd.prog w = .ok (.int .i64 y4) w := by rw [t4, o4]; exact run_part_plain (P := Tryd.prog) w hp rfl
  have t5 : f5.type = 3 := congrArg Prod.fst g5
  have p5 : (part f5.type #[.int .i64 x0, .int .i64 x1, .int .i64 x2, .int .i64 x3, .int .i64 x4, .int .i64 x5, .int .i64 x6, .int .i64 x7, .int .i64 x8, .int .i64 x9, .int .i64 x10] f5.offset).run Tryd.prog w = .ok (.int .i64 x5) w := by rw [t5, o5]; exact run_part_plain (P := Tryd.prog) w hp rfl
  have q5 : (part f5.type #[.int .i64 y0, .int .i64 y1, .int .i64 y2, .int .i64 y3, .int .i64 y4, .int .i64 y5, .int .i64 y6, .int .i64 y7, .int .i64 y8, .int .i64 y9, .int .i64 y10] f5.offset).run Tryd.prog w = .ok (.int .i64 y5) w := by rw [t5, o5]; exact run_part_plain (P := Tryd.prog) w hp rfl
  have t6 : f6.type = 3 := congrArg Prod.fst g6
  have p6 : (part f6.type #[.int .i64 x0, .int .i64 x1, .int .i64 x2, .int .i64 x3, .int .i64 x4, .int .i64 x5, .int .i64 x6, .int .i64 x7, .int .i64 x8, .int .i64 x9, .int .i64 x10] f6.offset).run Tryd.prog w = .ok (.int .i64 x6) w := by rw [t6, o6]; exact run_part_plain (P := Tryd.prog) w hp rfl
  have q6 : (part f6.type #[.int .i64 y0, .int .i64 y1, .int .i64 y2, .int .i64 y3, .int .i64 y4, .int .i64 y5, .int .i64 y6, .int .i64 y7, .int .i64 y8, .int .i64 y9, .int .i64 y10] f6.offset).run Tryd.prog w = .ok (.int .i64 y6) w := by rw [t6, o6]; exact run_part_plain (P := Tryd.prog) w hp rfl
  have t7 : f7.type = 3 := congrArg Prod.fst g7
  have p7 : (part f7.type #[.int .i64 x0, .int .i64 x1, .int .i64 x2, .int .i64 x3, .int .i64 x4, .int .i64 x5, .int .i64 x6, .int .i64 x7, .int .i64 x8, .int .i64 x9, .int .i64 x10] f7.offset).run Tryd.prog w = .ok (.int .i64 x7) w := by rw [t7, o7]; exact run_part_plain (P := Tryd.prog) w hp rfl
  have q7 : (part f7.type #[.int .i64 y0, .int .i64 y1, .int .i64 y2, .int .i64 y3, .int .i64 y4, .int .i64 y5, .int .i64 y6, .int .i64 y7, .int .i64 y8, .int .i64 y9, .int .i64 y10] f7.offset).run Tryd.prog w = .ok (.int .i64 y7) w := by rw [t7, o7]; exact run_part_plain (P := Tryd.prog) w hp rfl
  have t8 : f8.type = 3 := congrArg Prod.fst g8
  have p8 : (part f8.type #[.int .i64 x0, .int .i64 x1, .int .i64 x2, .int .i64 x3, .int .i64 x4, .int .i64 x5, .int .i64 x6, .int .i64 x7, .int .i64 x8, .int .i64 x9, .int .i64 x10] f8.offset).run Tryd.prog w = .ok (.int .i64 x8) w := by rw [t8, o8]; exact run_part_plain (P := Tryd.prog) w hp rfl
  have q8 : (part f8.type #[.int .i64 y0, .int .i64 y1, .int .i64 y2, .int .i64 y3, .int .i64 y4, .int .i64 y5, .int .i64 y6, .int .i64 y7, .int .i64 y8, .int .i64 y9, .int .i64 y10] f8.offset).run Tryd.prog w = .ok (.int .i64 y8) w := by rw [t8, o8]; exact run_part_plain (P := Tryd.prog) w hp rfl
  have t9 : f9.type = 3 := congrArg Prod.fst g9
  have p9 : (part f9.type #[.int .i64 x0, .int .i64 x1, .int .i64 x2, .int .i64 x3, .int .i64 x4, .int .i64 x5, .int .i64 x6, .int .i64 x7, .int .i64 x8, .int .i64 x9, .int .i64 x10] f9.offset).run Tryd.prog w = .ok (.int .i64 x9) w := by rw [t9, o9]; exact run_part_plain (P := Tryd.prog) w hp rfl
  have q9 : (part f9.type #[.int .i64 y0, .int .i64 y1, .int .i64 y2, .int .i64 y3, .int .i64 y4, .int .i64 y5, .int .i64 y6, .int .i64 y7, .int .i64 y8, .int .i64 y9, .int .i64 y10] f9.offset).run Tryd.prog w = .ok (.int .i64 y9) w := by rw [t9, o9]; exact run_part_plain (P := Tryd.prog) w hp rfl
  have t10 : f10.type = 3 := congrArg Prod.fst g10
  have p10 : (part f10.type #[.int .i64 x0, .int .i64 x1, .int .i64 x2, .int .i64 x3, .int .i64 x4, .int .i64 x5, .int .i64 x6, .int .i64 x7, .int .i64 x8, .int .i64 x9, .int .i64 x10] f10.offset).run Tryd.prog w = .ok (.int .i64 x10) w := by rw [t10, o10]; exact run_part_plain (P := Tryd.prog) w hp rfl
  have q10 : (part f10.type #[.int .i64 y0, .int .i64 y1, .int .i64 y2, .int .i64 y3, .int .i64 y4, .int .i64 y5, .int .i64 y6, .int .i64 y7, .int .i64 y8, .int .i64 y9, .int .i64 y10] f10.offset).run Tryd.prog w = .ok (.int .i64 y10) w := by rw [t10, o10]; exact run_part_plain (P := Tryd.prog) w hp rfl
  have e10 := eqF_cons (hn f10 (by simp)) t10 p10 q10 (show (Op.eqFields 9999 #[.int .i64 x0, .int .i64 x1, .int .i64 x2, .int .i64 x3, .int .i64 x4, .int .i64 x5, .int .i64 x6, .int .i64 x7, .int .i64 x8, .int .i64 x9, .int .i64 x10] #[.int .i64 y0, .int .i64 y1, .int .i64 y2, .int .i64 y3, .int .i64 y4, .int .i64 y5, .int .i64 y6, .int .i64 y7, .int .i64 y8, .int .i64 y9, .int .i64 y10] []).run Tryd.prog w = .ok true w by simp [Op.eqFields])
  have e9 := eqF_cons (hn f9 (by simp)) t9 p9 q9 e10
  have e8 := eqF_cons (hn f8 (by simp)) t8 p8 q8 e9
  have e7 := eqF_cons (hn f7 (by simp)) t7 p7 q7 e8
  have e6 := eqF_cons (hn f6 (by simp)) t6 p6 q6 e7
  have e5 := eqF_cons (hn f5 (by simp)) t5 p5 q5 e6
  have e4 := eqF_cons (hn f4 (by simp)) t4 p4 q4 e5
  have e3 := eqF_cons (hn f3 (by simp)) t3 p3 q3 e4
  have e2 := eqF_cons (hn f2 (by simp)) t2 p2 q2 e3
  have e1 := eqF_cons (hn f1 (by simp)) t1 p1 q1 e2
  have e0 := eqF_cons (hn f0 (by simp)) t0 p0 q0 e1
  rw [e0, Bool.and_true]
theorem grdE (w : World) (op : BinOp) (x y : Operand) (xs ys : Array Value) : (eqGuard op 30 x y (.agg xs) (.agg ys)).run Tryd.prog w = .ok () w := run_eqGuard_agg (P := Tryd.prog) (w := w) op 30 x y xs ys (by kernel_rfl)
end Go.Proofs.YtekieioffaafaaaDoor
end

section
/- The walk of ScheduleJoins (written by gen_scn.py). -/
set_option linter.unusedSimpArgs false
set_option linter.unusedVariables false
namespace Go.Proofs.YtekieioffaafaaaDoor
open Go.RowKit Go.Maps

theorem tB_append (l m : List Int) : tB (l ++ m) = (tB l && tB m) := by unfold tB termsB; rw [List.all_append]
theorem tB_isT {l : List Int} (h : tB l = true) {x : Int} (hx : x ∈ l) : IsT (atomsL 10) x := of_decide_eq_true (List.all_eq_true.1 h x hx)
theorem isT_atom {x : Int} (hg : Good (atomsL 10)) (h : IsT (atomsL 10) x) : Den (atomT x) (atomsL 10) x := by
  obtain ⟨n, rfl⟩ := Int.eq_ofNat_of_zero_le h.1
  exact atoms_den hg (by have := h.2; rw [atomsL_len] at this; omega)
set_option maxHeartbeats 16000000 in
set_option maxRecDepth 100000 in
theorem joins_walk {w : World} {i c x : Int} (hi : I64 i) (hc : I64 c) (hx : I64 x) {u : Value} {l : List Int} (hu : RdI w u l) (okl : ∀ x ∈ l, I64 x) (ht : Tabs w) :
    Calls Tryd.prog 4 #[.int .i64 i, .int .i64 c, .int .i64 x, u] w fun e w' => e = .returned (.bool true) ∧ Kept w w' := by
  have HT := Lib.hid ht
  have HU := Lib.hid hu
  obtain ⟨ua, uc, rfl, u1, u2, _⟩ := hu.len
  have l63 : ((l.length : Nat) : Int) ≤ 9223372036854775807 := by unfold maxLen at u2; omega
  clear ht hu okl u1 u2 hi hc hx
  by_cases h1 : l.length ≤ 50
  · have d1 : ¬ (50 : Int) < (l.length : Int) := by omega
    have H1 := Shut.mk h1
    clear h1
    go_enter Tryd.func4, Tryd.ntmps4
    go_wp2_with fail
    (with_reducible refine (live11_any HT.out).mono ?_); rintro e w1 ⟨rfl, k1⟩
    have ks : Kept w1 (w1.alloc (.cells #[.int .i64 i, .int .i64 c, .int .i64 x] 3)) := (Kept.refl w1).alloc _
    have HB := Lib.hid (beyond_any (RdI.sl3 w1 i c x) 10)
    go_wp2_with fail
    generalize w1.alloc (.cells #[.int .i64 i, .int .i64 c, .int .i64 x] 3) = w1' at *
    (with_reducible refine HB.out.mono ?_); rintro e w2 ⟨b1, rfl, hb1, k2⟩
    clear HB
    have k12 := (k1.trans ks).trans k2
    clear k1 ks k2
    cases b1 with
    | true =>
      clear hb1
      go_wp2
      go_ret
      exact ⟨rfl, k12⟩
    | false =>
      have N1 := Shut.mk (hb1 rfl)
      clear hb1
      go_wp2_with fail
      (with_reducible refine (beyond_any (HU.out.kept k12) 10).mono ?_); rintro e w3 ⟨b2, rfl, hb2, k3⟩
      have k13 := k12.trans k3
      cases b2 with
      | true =>
        clear hb2
        go_wp2
        go_ret
        exact ⟨rfl, k13⟩
      | false =>
        have N2 := Shut.mk (hb2 rfl)
        clear hb2
        have K13 := Lib.hid k13
        clear k12 k3 k13
        go_wp2_with fail
        (with_reducible refine (two11_any (HT.out.kept K13.out)).mono ?_); rintro e w4 ⟨p, q, pa, rfl, rfl, F, G, hA, hR, hFG, hF, hG, k4⟩
        have a4 := At.mkA hA hF k4 (HT.out.kept K13.out)
        have hg := a4.good
        have RU : RdK (fun b => b < w3.heap.size) w4 (.slice ua l.length uc) l := (HU.out.kept K13.out).rdK k4 (fun b hb => hb)
        have HA := Lib.hid a4
        have HRU := Lib.hid RU
        clear hA hR hFG hF hG k4 RU a4
        cases cl : (tB [i, c, x] && tB l) with
        | false =>
          have HC1 := Lib.hid (PNext_no HA.out HRU.out.rd cl)
          have hz : ∀ w, (Op.equalIn 10000 30 (.agg #[.int .i64 0, .int .i64 0, .int .i64 0, .int .i64 0, .int .i64 0, .int .i64 0, .int .i64 0, .int .i64 0, .int .i64 0, .int .i64 0, .int .i64 0]) (.agg #[.int .i64 0, .int .i64 0, .int .i64 0, .int .i64 0, .int .i64 0, .int .i64 0, .int .i64 0, .int .i64 0, .int .i64 0, .int .i64 0, .int .i64 0])).run Tryd.prog w = .ok true w := fun w => (cmpE w ep0 ep0).trans (by rw [epB_self])
          have hgd := grdE
          unfold epV ep0 at HC1
          simp only at HC1
          clear cl
          go_wp2_with fail
          (with_reducible refine HC1.out.mono ?_); rintro e w5 ⟨rfl, k5⟩
          have KK := Lib.hid (K13.out.trans (HA.out.kept.trans k5))
          clear k5 HC1
          go_wp2
          go_ret
          exact ⟨rfl, KK.out.alloc _⟩
        | true =>
          rw [Bool.and_eq_true] at cl
          have ii := isT_atom hg (tB_isT cl.1 (x := i) (by simp))
          have ic := isT_atom hg (tB_isT cl.1 (x := c) (by simp))
          have ix := isT_atom hg (tB_isT cl.1 (x := x) (by simp))
          have il := tB_den hg cl.2
          have HD := Shut.mk (And.intro ii (And.intro ic (And.intro ix il)))
          have HC1 := Lib.hid (PNext_ok HA.out HRU.out ii ic ix il (by have := H1.out; rw [atomsL_len]; omega))
          clear cl ii ic ix il hg
          go_wp2_with fail
          (with_reducible refine HC1.out.mono ?_); rintro e w5 ⟨r5, X, rfl, a5, hr5, d5, k5⟩
          have DX := Shut.mk d5
          obtain ⟨x0, x1, x2, x3, x4, x5, x6, x7, x8, x9, x10⟩ := X
          have kX : Kept w5 (w5.alloc (.cells #[.int .i64 x0, .int .i64 x1, .int .i64 x2, .int .i64 x3, .int .i64 x4, .int .i64 x5, .int .i64 x6, .int .i64 x7, .int .i64 x8, .int .i64 x9, .int .i64 x10] 30)) := (Kept.refl w5).alloc _
          have bX := Blk.new w5 [.int .i64 x0, .int .i64 x1, .int .i64 x2, .int .i64 x3, .int .i64 x4, .int .i64 x5, .int .i64 x6, .int .i64 x7, .int .i64 x8, .int .i64 x9, .int .i64 x10] 30
          have aX := a5.plusE kX
          have RX := HRU.out.keep k5
          have RX2 := RX.up kX (T := PlusE (fun b => b < w3.heap.size) w5 (w5.alloc (.cells #[.int .i64 x0, .int .i64 x1, .int .i64 x2, .int .i64 x3, .int .i64 x4, .int .i64 x5, .int .i64 x6, .int .i64 x7, .int .i64 x8, .int .i64 x9, .int .i64 x10] 30))) (fun b q => .inl q)
          have tX : PlusE (fun b => b < w3.heap.size) w5 (w5.alloc (.cells #[.int .i64 x0, .int .i64 x1, .int .i64 x2, .int .i64 x3, .int .i64 x4, .int .i64 x5, .int .i64 x6, .int .i64 x7, .int .i64 x8, .int .i64 x9, .int .i64 x10] 30)) w5.heap.size := .inr ⟨Nat.le_refl _, bX.lt⟩
          have HC2 := Lib.hid (PPsk_ok aX RX2 (HD.out.2.2.2.more r5) (by have := H1.out; rw [List.length_append, atomsL_len]; omega))
          have HRX := Lib.hid RX2
          have HBX := Lib.hid bX
          have TX := Shut.mk tX
          unfold epV
          simp only
          clear a5 d5 k5 kX bX aX RX RX2 tX HC1 HA HRU
          go_wp2_with fail
          generalize PlusE (fun b => b < w3.heap.size) w5 (w5.alloc (.cells #[.int .i64 x0, .int .i64 x1, .int .i64 x2, .int .i64 x3, .int .i64 x4, .int .i64 x5, .int .i64 x6, .int .i64 x7, .int .i64 x8, .int .i64 x9, .int .i64 x10] 30)) = T at *
          generalize w5.alloc (.cells #[.int .i64 x0, .int .i64 x1, .int .i64 x2, .int .i64 x3, .int .i64 x4, .int .i64 x5, .int .i64 x6, .int .i64 x7, .int .i64 x8, .int .i64 x9, .int .i64 x10] 30) = w6 at *
          generalize w5.heap.size = xb at *
          (with_reducible refine HC2.out.mono ?_); rintro e w7 ⟨r7, t7, rfl, a7, hr7, d7, k7⟩
          have HBX7 := Lib.hid (k7.blk HBX.out TX.out)
          have HRX7 := Lib.hid (HRX.out.keep k7)
          have yc0 := HBX7.out.cell 0
          simp only [List.getElem?_cons_zero] at yc0
          have HC3 := Lib.hid (PBegin_ok a7 (DX.out.at (i := 0) (by decide) |>.more r7) d7 ((HD.out.2.2.1.more r5).more r7) (by have := H1.out; simp only [List.length_append]; rw [atomsL_len]; omega))
          have HC3 : Hid (Calls Tryd.prog 20 #[.pointer (some pa), .int .i64 x0, .int .i64 t7, .int .i64 x] w7 (EMk w3 T w7 (.pointer (some pa)) (atomsL 10 ++ r5 ++ r7) 31 (EpD (joinT (atomT i) (atomT c) (atomT x)) (pskT (l.map atomT)) (atomT x)))) := HC3
          clear a7 d7 k7 HC2 HBX HRX
          go_wp2_with fail
          (with_reducible refine HC3.out.mono ?_); rintro e w8 ⟨r8, Y, rfl, a8, hr8, d8, k8⟩
          have DY := Shut.mk d8
          obtain ⟨y0, y1, y2, y3, y4, y5, y6, y7, y8, y9, y10⟩ := Y
          have kY : Kept w8 (w8.alloc (.cells #[.int .i64 y0, .int .i64 y1, .int .i64 y2, .int .i64 y3, .int .i64 y4, .int .i64 y5, .int .i64 y6, .int .i64 y7, .int .i64 y8, .int .i64 y9, .int .i64 y10] 30)) := (Kept.refl w8).alloc _
          have bY := Blk.new w8 [.int .i64 y0, .int .i64 y1, .int .i64 y2, .int .i64 y3, .int .i64 y4, .int .i64 y5, .int .i64 y6, .int .i64 y7, .int .i64 y8, .int .i64 y9, .int .i64 y10] 30
          have bX8 := (k8.blk HBX7.out TX.out).kept kY
          have aY := a8.plusE kY
          have RY2 := (HRX7.out.keep k8).up kY (T := PlusE T w8 (w8.alloc (.cells #[.int .i64 y0, .int .i64 y1, .int .i64 y2, .int .i64 y3, .int .i64 y4, .int .i64 y5, .int .i64 y6, .int .i64 y7, .int .i64 y8, .int .i64 y9, .int .i64 y10] 30))) (fun b q => .inl q)
          have tY : PlusE T w8 (w8.alloc (.cells #[.int .i64 y0, .int .i64 y1, .int .i64 y2, .int .i64 y3, .int .i64 y4, .int .i64 y5, .int .i64 y6, .int .i64 y7, .int .i64 y8, .int .i64 y9, .int .i64 y10] 30)) w8.heap.size := .inr ⟨Nat.le_refl _, bY.lt⟩
          have tX8 : PlusE T w8 (w8.alloc (.cells #[.int .i64 y0, .int .i64 y1, .int .i64 y2, .int .i64 y3, .int .i64 y4, .int .i64 y5, .int .i64 y6, .int .i64 y7, .int .i64 y8, .int .i64 y9, .int .i64 y10] 30)) xb := .inl TX.out
          have HC4 := Lib.hid (PNext_ok aY RY2 (((HD.out.1.more r5).more r7).more r8) (((HD.out.2.1.more r5).more r7).more r8) (((HD.out.2.2.1.more r5).more r7).more r8) (((HD.out.2.2.2.more r5).more r7).more r8) (by have := H1.out; simp only [List.length_append]; rw [atomsL_len]; omega))
          have HBX8 := Lib.hid bX8
          have HBY8 := Lib.hid bY
          have TXY := Shut.mk (And.intro tX8 tY)
          unfold epV
          simp only
          clear a8 d8 k8 kY bY bX8 aY RY2 tY tX8 HC3 HBX7 HRX7 yc0 TX
          go_wp2_with fail
          generalize PlusE T w8 (w8.alloc (.cells #[.int .i64 y0, .int .i64 y1, .int .i64 y2, .int .i64 y3, .int .i64 y4, .int .i64 y5, .int .i64 y6, .int .i64 y7, .int .i64 y8, .int .i64 y9, .int .i64 y10] 30)) = T2 at *
          generalize w8.alloc (.cells #[.int .i64 y0, .int .i64 y1, .int .i64 y2, .int .i64 y3, .int .i64 y4, .int .i64 y5, .int .i64 y6, .int .i64 y7, .int .i64 y8, .int .i64 y9, .int .i64 y10] 30) = w9 at *
          generalize w8.heap.size = yb at *
          (with_reducible refine HC4.out.mono ?_); rintro e w10 ⟨r10, V, rfl, a10, hr10, d10, k10⟩
          have hg := a10.good
          have e1 : epB ⟨x0, x1, x2, x3, x4, x5, x6, x7, x8, x9, x10⟩ ⟨y0, y1, y2, y3, y4, y5, y6, y7, y8, y9, y10⟩ = true := by
            have h1 := ((DX.out.more r7).more r8).more r10
            have h2 := DY.out.more r10
            rw [h1.same hg h2]
            exact epB_self _
          have e2 : epB ⟨x0, x1, x2, x3, x4, x5, x6, x7, x8, x9, x10⟩ V = true := by
            have h1 := ((DX.out.more r7).more r8).more r10
            rw [h1.same hg d10]
            exact epB_self _
          obtain ⟨v0, v1, v2, v3, v4, v5, v6, v7, v8, v9, v10⟩ := V
          have kV : Kept w10 (w10.alloc (.cells #[.int .i64 v0, .int .i64 v1, .int .i64 v2, .int .i64 v3, .int .i64 v4, .int .i64 v5, .int .i64 v6, .int .i64 v7, .int .i64 v8, .int .i64 v9, .int .i64 v10] 30)) := (Kept.refl w10).alloc _
          have bV := Blk.new w10 [.int .i64 v0, .int .i64 v1, .int .i64 v2, .int .i64 v3, .int .i64 v4, .int .i64 v5, .int .i64 v6, .int .i64 v7, .int .i64 v8, .int .i64 v9, .int .i64 v10] 30
          have HBX10 := Lib.hid ((k10.blk HBX8.out TXY.out.1).kept kV)
          have HBY10 := Lib.hid ((k10.blk HBY8.out TXY.out.2).kept kV)
          have HBV := Lib.hid bV
          have KK := Lib.hid ((K13.out.trans a10.kept).trans kV)
          have hz1 : ∀ w, (Op.equalIn 10000 30 (.agg #[.int .i64 x0, .int .i64 x1, .int .i64 x2, .int .i64 x3, .int .i64 x4, .int .i64 x5, .int .i64 x6, .int .i64 x7, .int .i64 x8, .int .i64 x9, .int .i64 x10]) (.agg #[.int .i64 y0, .int .i64 y1, .int .i64 y2, .int .i64 y3, .int .i64 y4, .int .i64 y5, .int .i64 y6, .int .i64 y7, .int .i64 y8, .int .i64 y9, .int .i64 y10])).run Tryd.prog w = .ok true w := fun w => (cmpE w ⟨x0, x1, x2, x3, x4, x5, x6, x7, x8, x9, x10⟩ ⟨y0, y1, y2, y3, y4, y5, y6, y7, y8, y9, y10⟩).trans (by rw [e1])
          have hz2 : ∀ w, (Op.equalIn 10000 30 (.agg #[.int .i64 x0, .int .i64 x1, .int .i64 x2, .int .i64 x3, .int .i64 x4, .int .i64 x5, .int .i64 x6, .int .i64 x7, .int .i64 x8, .int .i64 x9, .int .i64 x10]) (.agg #[.int .i64 v0, .int .i64 v1, .int .i64 v2, .int .i64 v3, .int .i64 v4, .int .i64 v5, .int .i64 v6, .int .i64 v7, .int .i64 v8, .int .i64 v9, .int .i64 v10])).run Tryd.prog w = .ok true w := fun w => (cmpE w ⟨x0, x1, x2, x3, x4, x5, x6, x7, x8, x9, x10⟩ ⟨v0, v1, v2, v3, v4, v5, v6, v7, v8, v9, v10⟩).trans (by rw [e2])
          have hgd := grdE
          unfold epV
          simp only
          clear a10 d10 k10 kV bV HC4 HBX8 HBY8 e1 e2 hg TXY DX DY
          go_upto_region 11 with fail
          generalize w10.alloc (.cells #[.int .i64 v0, .int .i64 v1, .int .i64 v2, .int .i64 v3, .int .i64 v4, .int .i64 v5, .int .i64 v6, .int .i64 v7, .int .i64 v8, .int .i64 v9, .int .i64 v10] 30) = w11 at *
          generalize w10.heap.size = vb at *
          have p0 := HBX10.out.cell 0
          have p1 := HBX10.out.cell 1
          have p2 := HBX10.out.cell 2
          have p3 := HBX10.out.cell 3
          have p4 := HBX10.out.cell 4
          have p5 := HBX10.out.cell 5
          have p6 := HBX10.out.cell 6
          have p7 := HBX10.out.cell 7
          have p8 := HBX10.out.cell 8
          have p9 := HBX10.out.cell 9
          have p10 := HBX10.out.cell 10
          have q0 := HBY10.out.cell 0
          have q1 := HBY10.out.cell 1
          have q2 := HBY10.out.cell 2
          have q3 := HBY10.out.cell 3
          have q4 := HBY10.out.cell 4
          have q5 := HBY10.out.cell 5
          have q6 := HBY10.out.cell 6
          have q7 := HBY10.out.cell 7
          have q8 := HBY10.out.cell 8
          have q9 := HBY10.out.cell 9
          have q10 := HBY10.out.cell 10
          have s0 := HBV.out.cell 0
          have s1 := HBV.out.cell 1
          have s2 := HBV.out.cell 2
          have s3 := HBV.out.cell 3
          have s4 := HBV.out.cell 4
          have s5 := HBV.out.cell 5
          have s6 := HBV.out.cell 6
          have s7 := HBV.out.cell 7
          have s8 := HBV.out.cell 8
          have s9 := HBV.out.cell 9
          have s10 := HBV.out.cell 10
          simp only [List.getElem?_cons_zero, List.getElem?_cons_succ] at p0 p1 p2 p3 p4 p5 p6 p7 p8 p9 p10 q0 q1 q2 q3 q4 q5 q6 q7 q8 q9 q10 s0 s1 s2 s3 s4 s5 s6 s7 s8 s9 s10
          clear HBX10 HBY10 HBV
          go_wp2
          go_ret
          exact ⟨by simp, KK.out⟩
  · have d1 : (50 : Int) < (l.length : Int) := by omega
    clear h1
    go_enter Tryd.func4, Tryd.ntmps4
    go_wp2_with fail
    (with_reducible refine (live11_any HT.out).mono ?_); rintro e w1 ⟨rfl, k1⟩
    go_wp2
    go_ret
    exact ⟨rfl, k1⟩
end Go.Proofs.YtekieioffaafaaaDoor
end
