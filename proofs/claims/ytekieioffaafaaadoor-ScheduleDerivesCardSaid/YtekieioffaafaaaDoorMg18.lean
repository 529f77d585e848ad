/- Texts of one proof, put together: ScJ, ScU, ScW. -/
import Derived.Test.YtekieioffaafaaaDoorMg17
import Derived.Deep.Cut
import Derived.Test.YtekieioffaafaaaDoorMg16
import Derived.Test.YtekieioffaafaaaDoorMg09
import Derived.Test.YtekieioffaafaaaDoorMg10
import Derived.Deep.RegionHeld3
section
/- The document's schedule: Begin of what is no term, Next, Inner, Export (written by gen_scj.py). -/
set_option linter.unusedSimpArgs false
set_option linter.unusedVariables false
namespace Go.Proofs.YtekieioffaafaaaDoor
open Go.RowKit Go.Maps

theorem AtR.fin {w0 : World} {S T : Nat → Prop} {w W : World} {p : Value} {es : List Nd} (hs : ∀ b, S b → T b) (h0 : ∀ b, b < w0.heap.size → S b) (hn : ¬ S w.heap.size) (hw : w0.heap.size ≤ w.heap.size) (hT : T w.heap.size) (a : AtR w0 T W p es) (k : Keep S w W) : ∀ V, Turn (fun b => b = w.heap.size) W V → AtR w0 S V p es ∧ Keep S w V := fun V t =>
  ⟨(a.turn t (fun b e => by cases e; exact ⟨hT, hw⟩)).back hs h0, Turn.trans k t (fun b e => .inl (fun d => by cases e; exact hn d))⟩
set_option maxHeartbeats 16000000 in
set_option maxRecDepth 100000 in
theorem RBegin_no {w0 : World} {S : Nat → Prop} {w : World} {p : Value} {ds : List Nd} {j q c : Int} (h : AtR w0 S w p ds) (ij : I64 j) (iq : I64 q) (hst : Stays ds c) (hb : termsB ds [j, q, c] = false) (hl : ds.length + 40 < 100000) :
    Calls Tryd.prog 21 #[p, .int .i64 j, .int .i64 q, .int .i64 c] w (ERn w0 S w p ds 40) := by
  have k1 : Kept w ((w.alloc (.cells #[.int .i64 0, .int .i64 0, .int .i64 0, .int .i64 0, .int .i64 0, .int .i64 0, .int .i64 0, .int .i64 0, .int .i64 0, .int .i64 0, .int .i64 0] 30)).alloc (.cells #[.int .i64 j, .int .i64 q] 3)) := ((Kept.refl w).alloc _).alloc _
  have b0 := (Blk.new w [.int .i64 0, .int .i64 0, .int .i64 0, .int .i64 0, .int .i64 0, .int .i64 0, .int .i64 0, .int .i64 0, .int .i64 0, .int .i64 0, .int .i64 0] 30).kept ((Kept.refl _).alloc (.cells #[.int .i64 j, .int .i64 q] 3))
  have hs := RdI.sl2 (w.alloc (.cells #[.int .i64 0, .int .i64 0, .int .i64 0, .int .i64 0, .int .i64 0, .int .i64 0, .int .i64 0, .int .i64 0, .int .i64 0, .int .i64 0, .int .i64 0] 30)) j q
  simp only [World.size_alloc] at hs
  have HF := Shut.mk (show (∀ b, S b → PlusE S w ((w.alloc (.cells #[.int .i64 0, .int .i64 0, .int .i64 0, .int .i64 0, .int .i64 0, .int .i64 0, .int .i64 0, .int .i64 0, .int .i64 0, .int .i64 0, .int .i64 0] 30)).alloc (.cells #[.int .i64 j, .int .i64 q] 3)) b) ∧ PlusE S w ((w.alloc (.cells #[.int .i64 0, .int .i64 0, .int .i64 0, .int .i64 0, .int .i64 0, .int .i64 0, .int .i64 0, .int .i64 0, .int .i64 0, .int .i64 0, .int .i64 0] 30)).alloc (.cells #[.int .i64 j, .int .i64 q] 3)) w.heap.size ∧ ¬ S w.heap.size ∧ (∀ b, b < w0.heap.size → S b) ∧ w0.heap.size ≤ w.heap.size from ⟨fun b q => .inl q, .inr ⟨Nat.le_refl _, b0.lt⟩, fun q => Nat.lt_irrefl _ (h.old _ q), h.base, h.kept.size⟩)
  have HB0 := Lib.hid b0
  have HK1 := Lib.hid k1
  cases hc : termsB ds [j, q] with
  | false =>
    have HM := Lib.hid (mixR_no (h.plusE k1) hs ij iq hc)
    obtain ⟨pb, rfl⟩ := h.ptr
    clear h hs b0 k1 hb hc hst
    go_enter Tryd.func21, Tryd.ntmps21
    go_wp2_with fail
    generalize PlusE S w ((w.alloc (.cells #[.int .i64 0, .int .i64 0, .int .i64 0, .int .i64 0, .int .i64 0, .int .i64 0, .int .i64 0, .int .i64 0, .int .i64 0, .int .i64 0, .int .i64 0] 30)).alloc (.cells #[.int .i64 j, .int .i64 q] 3)) = T at *
    generalize ((w.alloc (.cells #[.int .i64 0, .int .i64 0, .int .i64 0, .int .i64 0, .int .i64 0, .int .i64 0, .int .i64 0, .int .i64 0, .int .i64 0, .int .i64 0, .int .i64 0] 30)).alloc (.cells #[.int .i64 j, .int .i64 q] 3)) = w1 at *
    (with_reducible refine HM.out.mono ?_); rintro e w2 ⟨r2, rfl, a2, hr2, k2⟩
    have HR := Shut.mk (k2.blk HB0.out HF.out.2.1)
    have HK := Shut.mk (a2.fin HF.out.1 HF.out.2.2.2.1 HF.out.2.2.1 HF.out.2.2.2.2 HF.out.2.1 (w := w) ((HK1.out.keep S).trans (k2.down HF.out.1)))
    have q0 := HR.out.cell 0
    have n0 := HR.out.frozen 0
    have q1 := HR.out.cell 1
    have n1 := HR.out.frozen 1
    have q2 := HR.out.cell 2
    have n2 := HR.out.frozen 2
    have q3 := HR.out.cell 3
    have n3 := HR.out.frozen 3
    have q4 := HR.out.cell 4
    have n4 := HR.out.frozen 4
    have q5 := HR.out.cell 5
    have n5 := HR.out.frozen 5
    have q6 := HR.out.cell 6
    have n6 := HR.out.frozen 6
    have q7 := HR.out.cell 7
    have n7 := HR.out.frozen 7
    have q8 := HR.out.cell 8
    have n8 := HR.out.frozen 8
    have q9 := HR.out.cell 9
    have n9 := HR.out.frozen 9
    have q10 := HR.out.cell 10
    have n10 := HR.out.frozen 10
    simp only [List.getElem?_cons_succ, List.getElem?_cons_zero] at q0 q1 q2 q3 q4 q5 q6 q7 q8 q9 q10
    clear a2 k2 HM HB0 HK1 HF
    go_wp2
    have hb2 := (((((((((((HR.out).set 0 (.int .i64 0)).set 1 (.int .i64 0)).set 2 (.int .i64 0)).set 3 (.int .i64 0)).set 4 (.int .i64 0)).set 5 (.int .i64 0)).set 6 (.int .i64 0)).set 7 (.int .i64 0)).set 8 (.int .i64 0)).set 9 (.int .i64 0)).set 10 (.int .i64 0)
    simp only [List.set_cons_zero, List.set_cons_succ] at hb2
    have d0 := hb2.cell 0
    have d1 := hb2.cell 1
    have d2 := hb2.cell 2
    have d3 := hb2.cell 3
    have d4 := hb2.cell 4
    have d5 := hb2.cell 5
    have d6 := hb2.cell 6
    have d7 := hb2.cell 7
    have d8 := hb2.cell 8
    have d9 := hb2.cell 9
    have d10 := hb2.cell 10
    simp only [List.getElem?_cons_zero, List.getElem?_cons_succ] at d0 d1 d2 d3 d4 d5 d6 d7 d8 d9 d10
    have hfin := HK.out _ (Turn.trans (Turn.trans (Turn.trans (Turn.trans (Turn.trans (Turn.trans (Turn.trans (Turn.trans (Turn.trans (Turn.trans (Turn.trans (Turn.refl _ _) (turn_setCell _ ⟨w.heap.size, 0, none⟩ (.int .i64 0)) (fun b e => .inl e)) (turn_setCell _ ⟨w.heap.size, 1, none⟩ (.int .i64 0)) (fun b e => .inl e)) (turn_setCell _ ⟨w.heap.size, 2, none⟩ (.int .i64 0)) (fun b e => .inl e)) (turn_setCell _ ⟨w.heap.size, 3, none⟩ (.int .i64 0)) (fun b e => .inl e)) (turn_setCell _ ⟨w.heap.size, 4, none⟩ (.int .i64 0)) (fun b e => .inl e)) (turn_setCell _ ⟨w.heap.size, 5, none⟩ (.int .i64 0)) (fun b e => .inl e)) (turn_setCell _ ⟨w.heap.size, 6, none⟩ (.int .i64 0)) (fun b e => .inl e)) (turn_setCell _ ⟨w.heap.size, 7, none⟩ (.int .i64 0)) (fun b e => .inl e)) (turn_setCell _ ⟨w.heap.size, 8, none⟩ (.int .i64 0)) (fun b e => .inl e)) (turn_setCell _ ⟨w.heap.size, 9, none⟩ (.int .i64 0)) (fun b e => .inl e)) (turn_setCell _ ⟨w.heap.size, 10, none⟩ (.int .i64 0)) (fun b e => .inl e))
    exact bodyPost_ret (v := .tuple #[epV ep0, .int .i64 1]) (by simp [results, Tryd.results21, go_sem, epV, ep0, d0, d1, d2, d3, d4, d5, d6, d7, d8, d9, d10]) rfl ⟨r2, rfl, hfin.1, by omega, hfin.2⟩
  | true =>
    have hj : IsT ds j := of_decide_eq_true (List.all_eq_true.1 hc j (by simp))
    have hq : IsT ds q := of_decide_eq_true (List.all_eq_true.1 hc q (by simp))
    have hx : ¬ IsT ds c := fun k => by rw [terms3 hj hq k] at hb; cases hb
    have HM := Lib.hid (mixR_ok (h.plusE k1) hs (den_self hj) (den_self hq) (by omega))
    have HXN := Shut.mk (show ∀ (r : List Nd), (ds ++ r).length ≤ 100000 → ¬ IsT (ds ++ r) c from fun r hr k => hx (hst r hr k))
    obtain ⟨pb, rfl⟩ := h.ptr
    clear h hs b0 k1 hb hc hst hj hq hx
    generalize mixT (den ds j) (den ds q) = M at *
    go_enter Tryd.func21, Tryd.ntmps21
    go_wp2_with fail
    generalize PlusE S w ((w.alloc (.cells #[.int .i64 0, .int .i64 0, .int .i64 0, .int .i64 0, .int .i64 0, .int .i64 0, .int .i64 0, .int .i64 0, .int .i64 0, .int .i64 0, .int .i64 0] 30)).alloc (.cells #[.int .i64 j, .int .i64 q] 3)) = T at *
    generalize ((w.alloc (.cells #[.int .i64 0, .int .i64 0, .int .i64 0, .int .i64 0, .int .i64 0, .int .i64 0, .int .i64 0, .int .i64 0, .int .i64 0, .int .i64 0, .int .i64 0] 30)).alloc (.cells #[.int .i64 j, .int .i64 q] 3)) = w1 at *
    (with_reducible refine HM.out.mono ?_); rintro e w2 ⟨r2, t2, rfl, a2, hr2, d2, k2⟩
    have k3 : Kept w2 (w2.alloc (.cells #[.int .i64 j, .int .i64 0, .int .i64 0, .int .i64 0, .int .i64 0, .int .i64 0, .int .i64 0, .int .i64 0, .int .i64 0, .int .i64 0, .int .i64 0] 30)) := (Kept.refl w2).alloc _
    have b3 := Blk.new w2 [.int .i64 j, .int .i64 0, .int .i64 0, .int .i64 0, .int .i64 0, .int .i64 0, .int .i64 0, .int .i64 0, .int .i64 0, .int .i64 0, .int .i64 0] 30
    have HX := Lib.hid (deriveR_ok (a2.plusE k3) d2 welcomeS (by decide) (by rw [List.length_append]; omega))
    rw [show strB welcomeS = ⟨#[119, 101, 108, 99, 111, 109, 101]⟩ from rfl] at HX
    have HB3 := Lib.hid b3
    have HR3 := Lib.hid ((k2.blk HB0.out HF.out.2.1).kept k3)
    have HK3 := Lib.hid ((HK1.out.keep S).trans ((k2.down HF.out.1).trans (k3.keep S)))
    have HF3 := Shut.mk (show PlusE T w2 (w2.alloc (.cells #[.int .i64 j, .int .i64 0, .int .i64 0, .int .i64 0, .int .i64 0, .int .i64 0, .int .i64 0, .int .i64 0, .int .i64 0, .int .i64 0, .int .i64 0] 30)) w2.heap.size ∧ PlusE T w2 (w2.alloc (.cells #[.int .i64 j, .int .i64 0, .int .i64 0, .int .i64 0, .int .i64 0, .int .i64 0, .int .i64 0, .int .i64 0, .int .i64 0, .int .i64 0, .int .i64 0] 30)) w.heap.size ∧ (∀ b, S b → PlusE T w2 (w2.alloc (.cells #[.int .i64 j, .int .i64 0, .int .i64 0, .int .i64 0, .int .i64 0, .int .i64 0, .int .i64 0, .int .i64 0, .int .i64 0, .int .i64 0, .int .i64 0] 30)) b) ∧ w.heap.size < w2.heap.size ∧ ¬ S w2.heap.size from ⟨.inr ⟨Nat.le_refl _, b3.lt⟩, .inl HF.out.2.1, fun b q => .inl (HF.out.1 b q), a2.old _ HF.out.2.1, fun q => Nat.lt_irrefl _ (a2.old _ (HF.out.1 _ q))⟩)
    clear a2 d2 k2 k3 b3 HM HB0 HK1
    go_wp2_with fail
    generalize PlusE T w2 (w2.alloc (.cells #[.int .i64 j, .int .i64 0, .int .i64 0, .int .i64 0, .int .i64 0, .int .i64 0, .int .i64 0, .int .i64 0, .int .i64 0, .int .i64 0, .int .i64 0] 30)) = T3 at *
    generalize (w2.alloc (.cells #[.int .i64 j, .int .i64 0, .int .i64 0, .int .i64 0, .int .i64 0, .int .i64 0, .int .i64 0, .int .i64 0, .int .i64 0, .int .i64 0, .int .i64 0] 30)) = w3 at *
    generalize w2.heap.size = sb at *
    (with_reducible refine HX.out.mono ?_); rintro e w4 ⟨r4, t4, rfl, a4, hr4, d4, k4⟩
    have b4 := k4.blk HB3.out HF3.out.1
    have g4 := b4.cell 1
    have z4 := b4.frozen 1
    simp only [List.getElem?_cons_succ, List.getElem?_cons_zero] at g4
    go_upto_region 6 with fail
    have HSB := Shut.mk (show w0.heap.size ≤ sb by have := HF.out.2.2.2.2; have := HF3.out.2.2.2.1; omega)
    have u4 := turn_setCell w4 ⟨sb, 1, none⟩ (.int .i64 t4)
    have HA5 := Lib.hid (a4.turn u4 (fun b e => by cases e; exact ⟨HF3.out.1, HSB.out⟩))
    have HB5 := Lib.hid (b4.set 1 (.int .i64 t4))
    have HR5 := Lib.hid ((k4.blk HR3.out HF3.out.2.1).turn u4 (fun e => by have e' : w.heap.size = sb := e; have := HF3.out.2.2.2.1; omega))
    have HK5 := Lib.hid (show Keep S w _ from Turn.trans (HK3.out.trans (k4.down HF3.out.2.2.1)) u4 (fun b e => .inl (fun d => by cases e; exact HF3.out.2.2.2.2 d)))
    generalize w4.setCell ⟨sb, 1, none⟩ (.int .i64 t4) = w5 at *
    clear a4 b4 g4 z4 u4 d4 k4 HX HB3 HR3 HK3
    simp only [List.set_cons_succ, List.set_cons_zero] at HB5
    have HX := Lib.hid (expandR_no HA5.out (s := t2) (c := c) epochS (terms_not (j := 1) (by simp) (fun k => HXN.out (r2 ++ r4) (by have := HA5.out.few; rwa [List.append_assoc] at this) (by rw [← List.append_assoc]; exact k))))
    rw [show strB epochS = ⟨#[101, 112, 111, 99, 104]⟩ from rfl] at HX
    go_wp2_with fail
    (with_reducible refine HX.out.mono ?_); rintro e w6 ⟨rfl, k6⟩
    have b6 := HB5.out.kept k6
    have g6 := b6.cell 2
    have z6 := b6.frozen 2
    simp only [List.getElem?_cons_succ, List.getElem?_cons_zero] at g6
    go_upto_region 9 with fail
    have u6 := turn_setCell w6 ⟨sb, 2, none⟩ (.int .i64 0)
    have HA7 := Lib.hid ((HA5.out.step k6).turn u6 (fun b e => by cases e; exact ⟨HF3.out.1, HSB.out⟩))
    have HR := Shut.mk ((HR5.out.kept k6).turn u6 (fun e => by have e' : w.heap.size = sb := e; have := HF3.out.2.2.2.1; omega))
    have HK7 := Lib.hid (show Keep S w _ from Turn.trans (HK5.out.trans (k6.keep S)) u6 (fun b e => .inl (fun d => by cases e; exact HF3.out.2.2.2.2 d)))
    generalize w6.setCell ⟨sb, 2, none⟩ (.int .i64 0) = w7 at *
    have HK := Shut.mk (HA7.out.fin HF3.out.2.2.1 HF.out.2.2.2.1 HF.out.2.2.1 HF.out.2.2.2.2 HF3.out.2.1 (w := w) HK7.out)
    clear b6 g6 z6 u6 k6 HX HB5 HR5 HK5 HA5 HA7 HK7 HF HF3
    have q0 := HR.out.cell 0
    have n0 := HR.out.frozen 0
    have q1 := HR.out.cell 1
    have n1 := HR.out.frozen 1
    have q2 := HR.out.cell 2
    have n2 := HR.out.frozen 2
    have q3 := HR.out.cell 3
    have n3 := HR.out.frozen 3
    have q4 := HR.out.cell 4
    have n4 := HR.out.frozen 4
    have q5 := HR.out.cell 5
    have n5 := HR.out.frozen 5
    have q6 := HR.out.cell 6
    have n6 := HR.out.frozen 6
    have q7 := HR.out.cell 7
    have n7 := HR.out.frozen 7
    have q8 := HR.out.cell 8
    have n8 := HR.out.frozen 8
    have q9 := HR.out.cell 9
    have n9 := HR.out.frozen 9
    have q10 := HR.out.cell 10
    have n10 := HR.out.frozen 10
    simp only [List.getElem?_cons_succ, List.getElem?_cons_zero] at q0 q1 q2 q3 q4 q5 q6 q7 q8 q9 q10
    go_wp2
    have hb2 := (((((((((((HR.out).set 0 (.int .i64 0)).set 1 (.int .i64 0)).set 2 (.int .i64 0)).set 3 (.int .i64 0)).set 4 (.int .i64 0)).set 5 (.int .i64 0)).set 6 (.int .i64 0)).set 7 (.int .i64 0)).set 8 (.int .i64 0)).set 9 (.int .i64 0)).set 10 (.int .i64 0)
    simp only [List.set_cons_zero, List.set_cons_succ] at hb2
    have d0 := hb2.cell 0
    have d1 := hb2.cell 1
    have d2 := hb2.cell 2
    have d3 := hb2.cell 3
    have d4 := hb2.cell 4
    have d5 := hb2.cell 5
    have d6 := hb2.cell 6
    have d7 := hb2.cell 7
    have d8 := hb2.cell 8
    have d9 := hb2.cell 9
    have d10 := hb2.cell 10
    simp only [List.getElem?_cons_zero, List.getElem?_cons_succ] at d0 d1 d2 d3 d4 d5 d6 d7 d8 d9 d10
    have hfin := HK.out _ (Turn.trans (Turn.trans (Turn.trans (Turn.trans (Turn.trans (Turn.trans (Turn.trans (Turn.trans (Turn.trans (Turn.trans (Turn.trans (Turn.refl _ _) (turn_setCell _ ⟨w.heap.size, 0, none⟩ (.int .i64 0)) (fun b e => .inl e)) (turn_setCell _ ⟨w.heap.size, 1, none⟩ (.int .i64 0)) (fun b e => .inl e)) (turn_setCell _ ⟨w.heap.size, 2, none⟩ (.int .i64 0)) (fun b e => .inl e)) (turn_setCell _ ⟨w.heap.size, 3, none⟩ (.int .i64 0)) (fun b e => .inl e)) (turn_setCell _ ⟨w.heap.size, 4, none⟩ (.int .i64 0)) (fun b e => .inl e)) (turn_setCell _ ⟨w.heap.size, 5, none⟩ (.int .i64 0)) (fun b e => .inl e)) (turn_setCell _ ⟨w.heap.size, 6, none⟩ (.int .i64 0)) (fun b e => .inl e)) (turn_setCell _ ⟨w.heap.size, 7, none⟩ (.int .i64 0)) (fun b e => .inl e)) (turn_setCell _ ⟨w.heap.size, 8, none⟩ (.int .i64 0)) (fun b e => .inl e)) (turn_setCell _ ⟨w.heap.size, 9, none⟩ (.int .i64 0)) (fun b e => .inl e)) (turn_setCell _ ⟨w.heap.size, 10, none⟩ (.int .i64 0)) (fun b e => .inl e))
    exact bodyPost_ret (v := .tuple #[epV ep0, .int .i64 1]) (by simp [results, Tryd.results21, go_sem, epV, ep0, d0, d1, d2, d3, d4, d5, d6, d7, d8, d9, d10]) rfl ⟨r2 ++ r4, rfl, by rw [← List.append_assoc]; exact hfin.1, by rw [List.length_append]; omega, hfin.2⟩

set_option maxHeartbeats 16000000 in
set_option maxRecDepth 100000 in
theorem RNext_ok {w0 : World} {S : Nat → Prop} {w : World} {p v : Value} {ds : List Nd} {i c x : Int} {l : List Int} {I C X : Tr} {L : List Tr} (h : AtR w0 S w p ds) (hk : RdK S w v l) (hi : Den I ds i) (hc : Den C ds c) (hx : Den X ds x) (hL : DenL L ds l) (hl : ds.length + l.length + 50 < 100000) :
    Calls Tryd.prog 12 #[p, .int .i64 i, .int .i64 c, .int .i64 x, v] w (ERk w0 S w p ds (l.length + 50) (EpD (joinT I C X) (pskT L) X)) := by
  have k1 : Kept w (w.alloc (.cells #[.int .i64 0, .int .i64 0, .int .i64 0, .int .i64 0, .int .i64 0, .int .i64 0, .int .i64 0, .int .i64 0, .int .i64 0, .int .i64 0, .int .i64 0] 30)) := (Kept.refl w).alloc _
  have b0 := Blk.new w [.int .i64 0, .int .i64 0, .int .i64 0, .int .i64 0, .int .i64 0, .int .i64 0, .int .i64 0, .int .i64 0, .int .i64 0, .int .i64 0, .int .i64 0] 30
  have HF := Shut.mk (show (∀ b, S b → PlusE S w (w.alloc (.cells #[.int .i64 0, .int .i64 0, .int .i64 0, .int .i64 0, .int .i64 0, .int .i64 0, .int .i64 0, .int .i64 0, .int .i64 0, .int .i64 0, .int .i64 0] 30)) b) ∧ PlusE S w (w.alloc (.cells #[.int .i64 0, .int .i64 0, .int .i64 0, .int .i64 0, .int .i64 0, .int .i64 0, .int .i64 0, .int .i64 0, .int .i64 0, .int .i64 0, .int .i64 0] 30)) w.heap.size ∧ ¬ S w.heap.size ∧ (∀ b, b < w0.heap.size → S b) ∧ w0.heap.size ≤ w.heap.size from ⟨fun b q => .inl q, .inr ⟨Nat.le_refl _, b0.lt⟩, fun q => Nat.lt_irrefl _ (h.old _ q), h.base, h.kept.size⟩)
  have HB0 := Lib.hid b0
  have HK1 := Lib.hid k1
  have HJ := Lib.hid (RJoiner_ok (h.plusE k1) hi hc hx (by omega))
  have HP := Lib.hid (fun W (r : List Nd) (a : AtR w0 (PlusE S w (w.alloc (.cells #[.int .i64 0, .int .i64 0, .int .i64 0, .int .i64 0, .int .i64 0, .int .i64 0, .int .i64 0, .int .i64 0, .int .i64 0, .int .i64 0, .int .i64 0] 30))) W p (ds ++ r)) (hr : r.length ≤ 3) (k : Keep (PlusE S w (w.alloc (.cells #[.int .i64 0, .int .i64 0, .int .i64 0, .int .i64 0, .int .i64 0, .int .i64 0, .int .i64 0, .int .i64 0, .int .i64 0, .int .i64 0, .int .i64 0] 30))) (w.alloc (.cells #[.int .i64 0, .int .i64 0, .int .i64 0, .int .i64 0, .int .i64 0, .int .i64 0, .int .i64 0, .int .i64 0, .int .i64 0, .int .i64 0, .int .i64 0] 30)) W) => RPsk_ok l.length a ((hk.up k1 HF.out.1).keep k) (hL.more r) rfl (by rw [List.length_append]; omega))
  have HB := Lib.hid (fun W (r s : List Nd) (j q : Int) (a : AtR w0 (PlusE S w (w.alloc (.cells #[.int .i64 0, .int .i64 0, .int .i64 0, .int .i64 0, .int .i64 0, .int .i64 0, .int .i64 0, .int .i64 0, .int .i64 0, .int .i64 0, .int .i64 0] 30))) W p (ds ++ r ++ s)) (hr : r.length ≤ 3) (hs : s.length ≤ l.length + 1) (dj : Den (joinT I C X) (ds ++ r ++ s) j) (dq : Den (pskT L) (ds ++ r ++ s) q) => RBegin_ok a dj dq ((hx.more r).more s) (by simp only [List.length_append]; omega))
  obtain ⟨pb, rfl⟩ := h.ptr
  obtain ⟨va, vc, rfl, _, _, _⟩ := hk.rd.len
  clear h hk b0 k1 hi hc hx hL
  go_enter Tryd.func12, Tryd.ntmps12
  go_wp2_with fail
  generalize PlusE S w (w.alloc (.cells #[.int .i64 0, .int .i64 0, .int .i64 0, .int .i64 0, .int .i64 0, .int .i64 0, .int .i64 0, .int .i64 0, .int .i64 0, .int .i64 0, .int .i64 0] 30)) = T at *
  generalize (w.alloc (.cells #[.int .i64 0, .int .i64 0, .int .i64 0, .int .i64 0, .int .i64 0, .int .i64 0, .int .i64 0, .int .i64 0, .int .i64 0, .int .i64 0, .int .i64 0] 30)) = w1 at *
  (with_reducible refine HJ.out.mono ?_); rintro e w2 ⟨r2, t2, rfl, a2, hr2, d2, u2⟩
  have HPx := Lib.hid (HP.out w2 r2 a2 hr2 u2)
  have D2 := Shut.mk d2
  have U2 := Lib.hid u2
  clear HJ HP a2 d2 u2
  go_wp2_with fail
  (with_reducible refine HPx.out.mono ?_); rintro e w3 ⟨r3, t3, rfl, a3, hr3, d3, u3⟩
  have HBx := Lib.hid (HB.out w3 r2 r3 t2 t3 a3 hr2 hr3 (D2.out.more r3) d3)
  have U3 := Lib.hid (U2.out.trans u3)
  clear HPx HB a3 d3 u3 U2 D2
  go_wp2_with fail
  (with_reducible refine HBx.out.mono ?_); rintro e w4 ⟨r4, y, rfl, a4, hr4, d4, u4⟩
  obtain ⟨x0, x1, x2, x3, x4, x5, x6, x7, x8, x9, x10⟩ := y
  have U4 := U3.out.trans u4
  have HR := Shut.mk (U4.blk HB0.out HF.out.2.1)
  have HAS := Shut.mk (show ds ++ r2 ++ r3 ++ r4 = ds ++ (r2 ++ r3 ++ r4) by simp only [List.append_assoc])
  rw [HAS.out] at a4 d4
  have HK := Shut.mk (a4.fin HF.out.1 HF.out.2.2.2.1 HF.out.2.2.1 HF.out.2.2.2.2 HF.out.2.1 (w := w) ((HK1.out.keep S).trans (U4.down HF.out.1)))
  have HD := Shut.mk d4
  have HL := Shut.mk (show (r2 ++ r3 ++ r4).length ≤ l.length + 50 by simp only [List.length_append]; omega)
  unfold epV
  simp only
  have q0 := HR.out.cell 0
  have n0 := HR.out.frozen 0
  have q1 := HR.out.cell 1
  have n1 := HR.out.frozen 1
  have q2 := HR.out.cell 2
  have n2 := HR.out.frozen 2
  have q3 := HR.out.cell 3
  have n3 := HR.out.frozen 3
  have q4 := HR.out.cell 4
  have n4 := HR.out.frozen 4
  have q5 := HR.out.cell 5
  have n5 := HR.out.frozen 5
  have q6 := HR.out.cell 6
  have n6 := HR.out.frozen 6
  have q7 := HR.out.cell 7
  have n7 := HR.out.frozen 7
  have q8 := HR.out.cell 8
  have n8 := HR.out.frozen 8
  have q9 := HR.out.cell 9
  have n9 := HR.out.frozen 9
  have q10 := HR.out.cell 10
  have n10 := HR.out.frozen 10
  simp only [List.getElem?_cons_succ, List.getElem?_cons_zero] at q0 q1 q2 q3 q4 q5 q6 q7 q8 q9 q10
  clear U3 U4 u4 a4 d4 HBx HB0 HF HK1 hr2 hr3 hr4
  go_wp2
  have hb2 := (((((((((((HR.out).set 0 (.int .i64 x0)).set 1 (.int .i64 x1)).set 2 (.int .i64 x2)).set 3 (.int .i64 x3)).set 4 (.int .i64 x4)).set 5 (.int .i64 x5)).set 6 (.int .i64 x6)).set 7 (.int .i64 x7)).set 8 (.int .i64 x8)).set 9 (.int .i64 x9)).set 10 (.int .i64 x10)
  simp only [List.set_cons_zero, List.set_cons_succ] at hb2
  have d0 := hb2.cell 0
  have d1 := hb2.cell 1
  have d2 := hb2.cell 2
  have d3 := hb2.cell 3
  have d4 := hb2.cell 4
  have d5 := hb2.cell 5
  have d6 := hb2.cell 6
  have d7 := hb2.cell 7
  have d8 := hb2.cell 8
  have d9 := hb2.cell 9
  have d10 := hb2.cell 10
  simp only [List.getElem?_cons_zero, List.getElem?_cons_succ] at d0 d1 d2 d3 d4 d5 d6 d7 d8 d9 d10
  have hfin := HK.out _ (Turn.trans (Turn.trans (Turn.trans (Turn.trans (Turn.trans (Turn.trans (Turn.trans (Turn.trans (Turn.trans (Turn.trans (Turn.trans (Turn.refl _ _) (turn_setCell _ ⟨w.heap.size, 0, none⟩ (.int .i64 x0)) (fun b e => .inl e)) (turn_setCell _ ⟨w.heap.size, 1, none⟩ (.int .i64 x1)) (fun b e => .inl e)) (turn_setCell _ ⟨w.heap.size, 2, none⟩ (.int .i64 x2)) (fun b e => .inl e)) (turn_setCell _ ⟨w.heap.size, 3, none⟩ (.int .i64 x3)) (fun b e => .inl e)) (turn_setCell _ ⟨w.heap.size, 4, none⟩ (.int .i64 x4)) (fun b e => .inl e)) (turn_setCell _ ⟨w.heap.size, 5, none⟩ (.int .i64 x5)) (fun b e => .inl e)) (turn_setCell _ ⟨w.heap.size, 6, none⟩ (.int .i64 x6)) (fun b e => .inl e)) (turn_setCell _ ⟨w.heap.size, 7, none⟩ (.int .i64 x7)) (fun b e => .inl e)) (turn_setCell _ ⟨w.heap.size, 8, none⟩ (.int .i64 x8)) (fun b e => .inl e)) (turn_setCell _ ⟨w.heap.size, 9, none⟩ (.int .i64 x9)) (fun b e => .inl e)) (turn_setCell _ ⟨w.heap.size, 10, none⟩ (.int .i64 x10)) (fun b e => .inl e))
  exact bodyPost_ret (v := .tuple #[epV ⟨x0, x1, x2, x3, x4, x5, x6, x7, x8, x9, x10⟩, .int .i64 0]) (by simp [results, Tryd.results12, go_sem, epV, ep0, d0, d1, d2, d3, d4, d5, d6, d7, d8, d9, d10]) rfl ⟨_, _, rfl, hfin.1, HL.out, HD.out, hfin.2⟩

set_option maxHeartbeats 16000000 in
set_option maxRecDepth 100000 in
theorem RNext_no {w0 : World} {S : Nat → Prop} {w : World} {p v : Value} {ds : List Nd} {i c x : Int} {l : List Int} (h : AtR w0 S w p ds) (hk : RdK S w v l) (ii : I64 i) (ic : I64 c) (hst : Stays ds x) (hsl : ∀ x ∈ l, Stays ds x) (hok : ∀ x ∈ l, I64 x) (hb : (termsB ds [i, c, x] && termsB ds l) = false) (hl : ds.length + l.length + 50 < 100000) :
    Calls Tryd.prog 12 #[p, .int .i64 i, .int .i64 c, .int .i64 x, v] w (ERn w0 S w p ds (l.length + 50)) := by
  have k1 : Kept w (w.alloc (.cells #[.int .i64 0, .int .i64 0, .int .i64 0, .int .i64 0, .int .i64 0, .int .i64 0, .int .i64 0, .int .i64 0, .int .i64 0, .int .i64 0, .int .i64 0] 30)) := (Kept.refl w).alloc _
  have b0 := Blk.new w [.int .i64 0, .int .i64 0, .int .i64 0, .int .i64 0, .int .i64 0, .int .i64 0, .int .i64 0, .int .i64 0, .int .i64 0, .int .i64 0, .int .i64 0] 30
  have HF := Shut.mk (show (∀ b, S b → PlusE S w (w.alloc (.cells #[.int .i64 0, .int .i64 0, .int .i64 0, .int .i64 0, .int .i64 0, .int .i64 0, .int .i64 0, .int .i64 0, .int .i64 0, .int .i64 0, .int .i64 0] 30)) b) ∧ PlusE S w (w.alloc (.cells #[.int .i64 0, .int .i64 0, .int .i64 0, .int .i64 0, .int .i64 0, .int .i64 0, .int .i64 0, .int .i64 0, .int .i64 0, .int .i64 0, .int .i64 0] 30)) w.heap.size ∧ ¬ S w.heap.size ∧ (∀ b, b < w0.heap.size → S b) ∧ w0.heap.size ≤ w.heap.size from ⟨fun b q => .inl q, .inr ⟨Nat.le_refl _, b0.lt⟩, fun q => Nat.lt_irrefl _ (h.old _ q), h.base, h.kept.size⟩)
  have HB0 := Lib.hid b0
  have HK1 := Lib.hid k1
  obtain ⟨va, vc, rfl, _, _, _⟩ := hk.rd.len
  cases hc : termsB ds [i, c, x] with
  | false =>
    have HM := Lib.hid (RJoiner_no (h.plusE k1) ii ic hst hc (by omega))
    obtain ⟨pb, rfl⟩ := h.ptr
    clear h hk b0 k1 hb hc hst hsl hok
    go_enter Tryd.func12, Tryd.ntmps12
    go_wp2_with fail
    generalize PlusE S w (w.alloc (.cells #[.int .i64 0, .int .i64 0, .int .i64 0, .int .i64 0, .int .i64 0, .int .i64 0, .int .i64 0, .int .i64 0, .int .i64 0, .int .i64 0, .int .i64 0] 30)) = T at *
    generalize (w.alloc (.cells #[.int .i64 0, .int .i64 0, .int .i64 0, .int .i64 0, .int .i64 0, .int .i64 0, .int .i64 0, .int .i64 0, .int .i64 0, .int .i64 0, .int .i64 0] 30)) = w1 at *
    (with_reducible refine HM.out.mono ?_); rintro e w2 ⟨r2, rfl, a2, hr2, k2⟩
    have HR := Shut.mk (k2.blk HB0.out HF.out.2.1)
    have HK := Shut.mk (a2.fin HF.out.1 HF.out.2.2.2.1 HF.out.2.2.1 HF.out.2.2.2.2 HF.out.2.1 (w := w) ((HK1.out.keep S).trans (k2.down HF.out.1)))
    have q0 := HR.out.cell 0
    have n0 := HR.out.frozen 0
    have q1 := HR.out.cell 1
    have n1 := HR.out.frozen 1
    have q2 := HR.out.cell 2
    have n2 := HR.out.frozen 2
    have q3 := HR.out.cell 3
    have n3 := HR.out.frozen 3
    have q4 := HR.out.cell 4
    have n4 := HR.out.frozen 4
    have q5 := HR.out.cell 5
    have n5 := HR.out.frozen 5
    have q6 := HR.out.cell 6
    have n6 := HR.out.frozen 6
    have q7 := HR.out.cell 7
    have n7 := HR.out.frozen 7
    have q8 := HR.out.cell 8
    have n8 := HR.out.frozen 8
    have q9 := HR.out.cell 9
    have n9 := HR.out.frozen 9
    have q10 := HR.out.cell 10
    have n10 := HR.out.frozen 10
    simp only [List.getElem?_cons_succ, List.getElem?_cons_zero] at q0 q1 q2 q3 q4 q5 q6 q7 q8 q9 q10
    clear a2 k2 HM HB0 HK1 HF
    go_wp2
    have hb2 := (((((((((((HR.out).set 0 (.int .i64 0)).set 1 (.int .i64 0)).set 2 (.int .i64 0)).set 3 (.int .i64 0)).set 4 (.int .i64 0)).set 5 (.int .i64 0)).set 6 (.int .i64 0)).set 7 (.int .i64 0)).set 8 (.int .i64 0)).set 9 (.int .i64 0)).set 10 (.int .i64 0)
    simp only [List.set_cons_zero, List.set_cons_succ] at hb2
    have d0 := hb2.cell 0
    have d1 := hb2.cell 1
    have d2 := hb2.cell 2
    have d3 := hb2.cell 3
    have d4 := hb2.cell 4
    have d5 := hb2.cell 5
    have d6 := hb2.cell 6
    have d7 := hb2.cell 7
    have d8 := hb2.cell 8
    have d9 := hb2.cell 9
    have d10 := hb2.cell 10
    simp only [List.getElem?_cons_zero, List.getElem?_cons_succ] at d0 d1 d2 d3 d4 d5 d6 d7 d8 d9 d10
    have hfin := HK.out _ (Turn.trans (Turn.trans (Turn.trans (Turn.trans (Turn.trans (Turn.trans (Turn.trans (Turn.trans (Turn.trans (Turn.trans (Turn.trans (Turn.refl _ _) (turn_setCell _ ⟨w.heap.size, 0, none⟩ (.int .i64 0)) (fun b e => .inl e)) (turn_setCell _ ⟨w.heap.size, 1, none⟩ (.int .i64 0)) (fun b e => .inl e)) (turn_setCell _ ⟨w.heap.size, 2, none⟩ (.int .i64 0)) (fun b e => .inl e)) (turn_setCell _ ⟨w.heap.size, 3, none⟩ (.int .i64 0)) (fun b e => .inl e)) (turn_setCell _ ⟨w.heap.size, 4, none⟩ (.int .i64 0)) (fun b e => .inl e)) (turn_setCell _ ⟨w.heap.size, 5, none⟩ (.int .i64 0)) (fun b e => .inl e)) (turn_setCell _ ⟨w.heap.size, 6, none⟩ (.int .i64 0)) (fun b e => .inl e)) (turn_setCell _ ⟨w.heap.size, 7, none⟩ (.int .i64 0)) (fun b e => .inl e)) (turn_setCell _ ⟨w.heap.size, 8, none⟩ (.int .i64 0)) (fun b e => .inl e)) (turn_setCell _ ⟨w.heap.size, 9, none⟩ (.int .i64 0)) (fun b e => .inl e)) (turn_setCell _ ⟨w.heap.size, 10, none⟩ (.int .i64 0)) (fun b e => .inl e))
    exact bodyPost_ret (v := .tuple #[epV ep0, .int .i64 1]) (by simp [results, Tryd.results12, go_sem, epV, ep0, d0, d1, d2, d3, d4, d5, d6, d7, d8, d9, d10]) rfl ⟨r2, rfl, hfin.1, by omega, hfin.2⟩
  | true =>
    have hi : IsT ds i := of_decide_eq_true (List.all_eq_true.1 hc i (by simp))
    have hcc : IsT ds c := of_decide_eq_true (List.all_eq_true.1 hc c (by simp))
    have hx : IsT ds x := of_decide_eq_true (List.all_eq_true.1 hc x (by simp))
    have hn : termsB ds l = false := by rw [hc, Bool.true_and] at hb; exact hb
    have HM := Lib.hid (RJoiner_ok (h.plusE k1) (den_self hi) (den_self hcc) (den_self hx) (by omega))
    have HP := Lib.hid (fun W (r : List Nd) (a : AtR w0 (PlusE S w (w.alloc (.cells #[.int .i64 0, .int .i64 0, .int .i64 0, .int .i64 0, .int .i64 0, .int .i64 0, .int .i64 0, .int .i64 0, .int .i64 0, .int .i64 0, .int .i64 0] 30))) W p (ds ++ r)) (hr : r.length ≤ 3) (k : Keep (PlusE S w (w.alloc (.cells #[.int .i64 0, .int .i64 0, .int .i64 0, .int .i64 0, .int .i64 0, .int .i64 0, .int .i64 0, .int .i64 0, .int .i64 0, .int .i64 0, .int .i64 0] 30))) (w.alloc (.cells #[.int .i64 0, .int .i64 0, .int .i64 0, .int .i64 0, .int .i64 0, .int .i64 0, .int .i64 0, .int .i64 0, .int .i64 0, .int .i64 0, .int .i64 0] 30)) W) => RPsk_no l.length a ((hk.up k1 HF.out.1).keep k) (by
      cases hq : termsB (ds ++ r) l
      · rfl
      · exfalso
        exact not_terms hn (fun y hy => hsl y hy r a.few (of_decide_eq_true (List.all_eq_true.1 hq y hy)))) (fun y hy => (hsl y hy).more r) hok rfl (by rw [List.length_append]; omega))
    obtain ⟨pb, rfl⟩ := h.ptr
    clear h hk b0 k1 hb hc hst hi hcc hx hn hsl hok
    generalize joinT (den ds i) (den ds c) (den ds x) = J at *
    go_enter Tryd.func12, Tryd.ntmps12
    go_wp2_with fail
    generalize PlusE S w (w.alloc (.cells #[.int .i64 0, .int .i64 0, .int .i64 0, .int .i64 0, .int .i64 0, .int .i64 0, .int .i64 0, .int .i64 0, .int .i64 0, .int .i64 0, .int .i64 0] 30)) = T at *
    generalize (w.alloc (.cells #[.int .i64 0, .int .i64 0, .int .i64 0, .int .i64 0, .int .i64 0, .int .i64 0, .int .i64 0, .int .i64 0, .int .i64 0, .int .i64 0, .int .i64 0] 30)) = w1 at *
    (with_reducible refine HM.out.mono ?_); rintro e w2 ⟨r2, t2, rfl, a2, hr2, d2, k2⟩
    have HPx := Lib.hid (HP.out w2 r2 a2 hr2 k2)
    have K2 := Lib.hid k2
    clear HM HP a2 d2 k2
    go_wp2_with fail
    (with_reducible refine HPx.out.mono ?_); rintro e w3 ⟨r3, rfl, a3, hr3, k3⟩
    have K3 := K2.out.trans k3
    have HR := Shut.mk (K3.blk HB0.out HF.out.2.1)
    have HK := Shut.mk (a3.fin HF.out.1 HF.out.2.2.2.1 HF.out.2.2.1 HF.out.2.2.2.2 HF.out.2.1 (w := w) ((HK1.out.keep S).trans (K3.down HF.out.1)))
    have q0 := HR.out.cell 0
    have n0 := HR.out.frozen 0
    have q1 := HR.out.cell 1
    have n1 := HR.out.frozen 1
    have q2 := HR.out.cell 2
    have n2 := HR.out.frozen 2
    have q3 := HR.out.cell 3
    have n3 := HR.out.frozen 3
    have q4 := HR.out.cell 4
    have n4 := HR.out.frozen 4
    have q5 := HR.out.cell 5
    have n5 := HR.out.frozen 5
    have q6 := HR.out.cell 6
    have n6 := HR.out.frozen 6
    have q7 := HR.out.cell 7
    have n7 := HR.out.frozen 7
    have q8 := HR.out.cell 8
    have n8 := HR.out.frozen 8
    have q9 := HR.out.cell 9
    have n9 := HR.out.frozen 9
    have q10 := HR.out.cell 10
    have n10 := HR.out.frozen 10
    simp only [List.getElem?_cons_succ, List.getElem?_cons_zero] at q0 q1 q2 q3 q4 q5 q6 q7 q8 q9 q10
    clear a3 k3 K3 K2 HPx HB0 HK1 HF
    go_wp2
    have hb2 := (((((((((((HR.out).set 0 (.int .i64 0)).set 1 (.int .i64 0)).set 2 (.int .i64 0)).set 3 (.int .i64 0)).set 4 (.int .i64 0)).set 5 (.int .i64 0)).set 6 (.int .i64 0)).set 7 (.int .i64 0)).set 8 (.int .i64 0)).set 9 (.int .i64 0)).set 10 (.int .i64 0)
    simp only [List.set_cons_zero, List.set_cons_succ] at hb2
    have d0 := hb2.cell 0
    have d1 := hb2.cell 1
    have d2 := hb2.cell 2
    have d3 := hb2.cell 3
    have d4 := hb2.cell 4
    have d5 := hb2.cell 5
    have d6 := hb2.cell 6
    have d7 := hb2.cell 7
    have d8 := hb2.cell 8
    have d9 := hb2.cell 9
    have d10 := hb2.cell 10
    simp only [List.getElem?_cons_zero, List.getElem?_cons_succ] at d0 d1 d2 d3 d4 d5 d6 d7 d8 d9 d10
    have hfin := HK.out _ (Turn.trans (Turn.trans (Turn.trans (Turn.trans (Turn.trans (Turn.trans (Turn.trans (Turn.trans (Turn.trans (Turn.trans (Turn.trans (Turn.refl _ _) (turn_setCell _ ⟨w.heap.size, 0, none⟩ (.int .i64 0)) (fun b e => .inl e)) (turn_setCell _ ⟨w.heap.size, 1, none⟩ (.int .i64 0)) (fun b e => .inl e)) (turn_setCell _ ⟨w.heap.size, 2, none⟩ (.int .i64 0)) (fun b e => .inl e)) (turn_setCell _ ⟨w.heap.size, 3, none⟩ (.int .i64 0)) (fun b e => .inl e)) (turn_setCell _ ⟨w.heap.size, 4, none⟩ (.int .i64 0)) (fun b e => .inl e)) (turn_setCell _ ⟨w.heap.size, 5, none⟩ (.int .i64 0)) (fun b e => .inl e)) (turn_setCell _ ⟨w.heap.size, 6, none⟩ (.int .i64 0)) (fun b e => .inl e)) (turn_setCell _ ⟨w.heap.size, 7, none⟩ (.int .i64 0)) (fun b e => .inl e)) (turn_setCell _ ⟨w.heap.size, 8, none⟩ (.int .i64 0)) (fun b e => .inl e)) (turn_setCell _ ⟨w.heap.size, 9, none⟩ (.int .i64 0)) (fun b e => .inl e)) (turn_setCell _ ⟨w.heap.size, 10, none⟩ (.int .i64 0)) (fun b e => .inl e))
    exact bodyPost_ret (v := .tuple #[epV ep0, .int .i64 1]) (by simp [results, Tryd.results12, go_sem, epV, ep0, d0, d1, d2, d3, d4, d5, d6, d7, d8, d9, d10]) rfl ⟨r2 ++ r3, rfl, by rw [← List.append_assoc]; exact hfin.1, by rw [List.length_append]; omega, hfin.2⟩

set_option maxHeartbeats 4000000 in
set_option maxRecDepth 100000 in
theorem RInner_any (w : World) (x : Ep) :
    Calls Tryd.prog 33 #[epV x] w fun e w' => ∃ v, e = .returned v ∧ OwnI w.heap.size w' v x.inner ∧ Kept w w' := by
  obtain ⟨x0, x1, x2, x3, x4, x5, x6, x7, x8, x9, x10⟩ := x
  unfold epV Ep.inner
  simp only
  go_enter Tryd.func33, Tryd.ntmps33
  go_wp2
  go_ret
  refine ⟨_, rfl, ?_, ((Kept.refl w).alloc _).alloc _⟩
  have := Ownv.lit (B := w.heap.size) 3 (w := w.alloc (.cells #[.int .i64 x0, .int .i64 x1, .int .i64 x2, .int .i64 x3, .int .i64 x4, .int .i64 x5, .int .i64 x6, .int .i64 x7, .int .i64 x8, .int .i64 x9, .int .i64 x10] 30)) (([x0, x1, x2, x3, x4, x5, x6, x7, x8, x10] : List Int).map (Value.int .i64)) (by simp) (by unfold maxLen; simp)
  simp only [World.size_alloc] at this
  exact this

set_option maxHeartbeats 4000000 in
set_option maxRecDepth 100000 in
theorem RExport_no {w0 : World} {S : Nat → Prop} {w : World} {p : Value} {ds : List Nd} {x : Ep} {o : Int} {s : List UInt8} (h : AtR w0 S w p ds) (ho : ¬ IsT ds o) :
    Calls Tryd.prog 15 #[p, epV x, .string (strB s), .int .i64 o] w fun e w' => e = .returned (.tuple #[.int .i64 0, .int .i64 1]) ∧ Kept w w' := by
  obtain ⟨x0, x1, x2, x3, x4, x5, x6, x7, x8, x9, x10⟩ := x
  unfold epV
  simp only
  have k1 : Kept w (w.alloc (.cells #[.int .i64 x0, .int .i64 x1, .int .i64 x2, .int .i64 x3, .int .i64 x4, .int .i64 x5, .int .i64 x6, .int .i64 x7, .int .i64 x8, .int .i64 x9, .int .i64 x10] 30)) := (Kept.refl w).alloc _
  have hfew := h.few
  obtain ⟨F, hF, _⟩ := h.ar
  have HLen := Lib.hid (lenR (ArG.kept hF k1))
  obtain ⟨pb, rfl⟩ := h.ptr
  generalize strB s = X at *
  clear h hF
  by_cases t0 : o < 0
  · clear ho
    go_enter Tryd.func15, Tryd.ntmps15
    go_wp2
    go_ret2
    exact ⟨rfl, k1⟩
  · have t1 : (ds.length : Int) ≤ o := by unfold IsT at ho; omega
    have b0 : decide (o < 0) = false := decide_eq_false t0
    have b1 : decide (o ≥ (ds.length : Int)) = true := decide_eq_true t1
    have b2 : decide ((ds.length : Int) ≤ o) = true := decide_eq_true t1
    clear ho
    go_enter Tryd.func15, Tryd.ntmps15
    go_wp2_with fail
    (with_reducible refine HLen.out.mono ?_); rintro e wx ⟨rfl, rfl⟩
    go_wp2
    go_ret2
    exact ⟨rfl, k1⟩
set_option maxHeartbeats 4000000 in
set_option maxRecDepth 100000 in
theorem RExport_long {w0 : World} {S : Nat → Prop} {w : World} {p : Value} {ds : List Nd} {x : Ep} {o : Int} {s : List UInt8} (h : AtR w0 S w p ds) (ho : IsT ds o) (hx : IsT ds x.exporter) (hs : 200 < s.length) (hm : s.length ≤ maxLen) (hl : ds.length < 100000) :
    Calls Tryd.prog 15 #[p, epV x, .string (strB s), .int .i64 o] w (RNo w0 S w p ds 1) := by
  obtain ⟨x0, x1, x2, x3, x4, x5, x6, x7, x8, x9, x10⟩ := x
  unfold epV
  simp only at hx ⊢
  have k1 : Kept w (w.alloc (.cells #[.int .i64 x0, .int .i64 x1, .int .i64 x2, .int .i64 x3, .int .i64 x4, .int .i64 x5, .int .i64 x6, .int .i64 x7, .int .i64 x8, .int .i64 x9, .int .i64 x10] 30)) := (Kept.refl w).alloc _
  have b0 := Blk.new w [.int .i64 x0, .int .i64 x1, .int .i64 x2, .int .i64 x3, .int .i64 x4, .int .i64 x5, .int .i64 x6, .int .i64 x7, .int .i64 x8, .int .i64 x9, .int .i64 x10] 30
  have hfew := h.few
  obtain ⟨F, hF, _⟩ := h.ar
  have HLen := Lib.hid (lenR (ArG.kept hF k1))
  have t0 := ho.1
  have t1 := ho.2
  have c0 : decide (o < 0) = false := decide_eq_false (by omega)
  have c1 : decide (o ≥ (ds.length : Int)) = false := decide_eq_false (by omega)
  have c2 : decide ((ds.length : Int) ≤ o) = false := decide_eq_false (by omega)
  have y5 := b0.cell 5
  simp only [List.getElem?_cons_zero, List.getElem?_cons_succ] at y5
  have HD := Lib.hid (deriveR_long (h.step k1) hx s hs hm hl)
  obtain ⟨pb, rfl⟩ := h.ptr
  generalize strB s = X at *
  clear h hF ho hx hs hm b0
  go_enter Tryd.func15, Tryd.ntmps15
  go_wp2_with fail
  (with_reducible refine HLen.out.mono ?_); rintro e wx ⟨rfl, rfl⟩
  go_wp2_with fail
  (with_reducible refine HD.out.mono ?_); rintro e w2 ⟨r, rfl, a2, hr, k2⟩
  go_wp2
  go_ret2
  exact ⟨r, rfl, a2, hr, (k1.keep S).trans k2⟩
set_option maxHeartbeats 4000000 in
set_option maxRecDepth 100000 in
theorem RExport_ok {w0 : World} {S : Nat → Prop} {w : World} {p : Value} {ds : List Nd} {x : Ep} {o : Int} {s : List UInt8} {X O : Tr} (h : AtR w0 S w p ds) (hO : Den O ds o) (hx : Den X ds x.exporter) (hs : s.length ≤ 200) (hl : ds.length + 5 < 100000) :
    Calls Tryd.prog 15 #[p, epV x, .string (strB s), .int .i64 o] w (RMk w0 S w p ds 5 (Den (keyT (derT X s) exportedS O))) := by
  have ho := hO.1
  obtain ⟨x0, x1, x2, x3, x4, x5, x6, x7, x8, x9, x10⟩ := x
  unfold epV
  simp only at hx ⊢
  have k1 : Kept w (w.alloc (.cells #[.int .i64 x0, .int .i64 x1, .int .i64 x2, .int .i64 x3, .int .i64 x4, .int .i64 x5, .int .i64 x6, .int .i64 x7, .int .i64 x8, .int .i64 x9, .int .i64 x10] 30)) := (Kept.refl w).alloc _
  have b0 := Blk.new w [.int .i64 x0, .int .i64 x1, .int .i64 x2, .int .i64 x3, .int .i64 x4, .int .i64 x5, .int .i64 x6, .int .i64 x7, .int .i64 x8, .int .i64 x9, .int .i64 x10] 30
  have hfew := h.few
  obtain ⟨F, hF, _⟩ := h.ar
  have HLen := Lib.hid (lenR (ArG.kept hF k1))
  have t0 := ho.1
  have t1 := ho.2
  have c0 : decide (o < 0) = false := decide_eq_false (by omega)
  have c1 : decide (o ≥ (ds.length : Int)) = false := decide_eq_false (by omega)
  have c2 : decide ((ds.length : Int) ≤ o) = false := decide_eq_false (by omega)
  have y5 := b0.cell 5
  simp only [List.getElem?_cons_zero, List.getElem?_cons_succ] at y5
  have HD := Lib.hid (deriveR_ok (h.step k1) hx s hs (by omega))
  have HE := Lib.hid (fun W (r : List Nd) (t : Int) (a : AtR w0 S W p (ds ++ r)) (hr : r.length ≤ 3) (d : Den (derT X s) (ds ++ r) t) => expandR_ok a d (hO.more r) exportedS (by decide) (by rw [List.length_append]; omega))
  rw [show strB exportedS = ⟨#[101, 120, 112, 111, 114, 116, 101, 100]⟩ from rfl] at HE
  obtain ⟨pb, rfl⟩ := h.ptr
  generalize strB s = Y at *
  clear h hF ho hO hx hs b0
  go_enter Tryd.func15, Tryd.ntmps15
  go_wp2_with fail
  (with_reducible refine HLen.out.mono ?_); rintro e wx ⟨rfl, rfl⟩
  go_wp2_with fail
  (with_reducible refine HD.out.mono ?_); rintro e w2 ⟨r2, t2, rfl, a2, hr2, d2, k2⟩
  have HX := Lib.hid (HE.out w2 r2 t2 a2 hr2 d2)
  clear HD HE a2 d2
  go_wp2_with fail
  (with_reducible refine HX.out.mono ?_); rintro e w3 ⟨r3, t3, rfl, a3, hr3, d3, k3⟩
  go_wp2
  go_ret2
  exact ⟨r2 ++ r3, t3, rfl, by rw [← List.append_assoc]; exact a3, by rw [List.length_append]; omega, by rw [← List.append_assoc]; exact d3, ((k1.keep S).trans k2).trans k3⟩
end Go.Proofs.YtekieioffaafaaaDoor
end

section
/- The law's dump, same (written by gen_scu.py). -/
set_option linter.unusedSimpArgs false
set_option linter.unusedVariables false
namespace Go.Proofs.YtekieioffaafaaaDoor
open Go.RowKit Go.Maps

set_option maxHeartbeats 8000000 in
set_option maxRecDepth 100000 in
theorem dump11_any {F : Nat → Prop} {w : World} {p : Value} {ds : List Nd} (h : Ar F w p ds) : Calls Tryd.prog 17 #[p] w (DumpPost w ds) := by
  have HN := Lib.hid (fun (t : Int) W (k : Kept w W) => node_own (ArG.kept h k) t)
  have HLen := Lib.hid (arg_len h)
  have hfew := h.few
  have n63 : ((ds.length : Nat) : Int) ≤ 9223372036854775807 := by omega
  obtain ⟨pb, mb, nv, rfl, _, _, _⟩ := ArG.nodes h
  clear h
  go_enter Tryd.func17, Tryd.ntmps17
  go_wp2_with fail
  (with_reducible refine HLen.out.mono ?_); rintro e w1 ⟨rfl, rfl⟩
  go_wp2
  go_loopw [3, 9] (fun o i wr => ∃ j : Nat, j ≤ ds.length ∧ i = .int .i64 j ∧ OwnNs w.heap.size wr o (ds.take j) ∧ Kept w wr) (fun _ i _ => ds.length - (intOf i).toNat)
  case atStart => exact ⟨0, Nat.zero_le _, rfl, OwnNs.nil _ _, Kept.refl _⟩
  case round =>
    obtain ⟨j, hj0, rfl, ho, hk⟩ := hrel
    by_cases hlt : j < ds.length
    · have HO := Lib.hid ho
      have HNj := Lib.hid (HN.out (j : Int) wr hk)
      have hnd : ndAt ds (j : Int) = ds.getD j nd0 := by unfold ndAt; rw [if_pos ⟨by omega, by omega⟩, Int.toNat_natCast]
      rw [hnd] at HNj
      have HTK := Shut.mk (show ds.take (j + 1) = ds.take j ++ [ds.getD j nd0] by rw [List.take_succ_eq_append_getElem hlt, List.getD_eq_getElem?_getD, List.getElem?_eq_getElem hlt]; rfl)
      have htl : (ds.take j).length ≤ 200000 := by rw [List.length_take]; omega
      clear ho hnd
      generalize ds.getD j nd0 = d at *
      go_wp2_with fail
      (with_reducible refine HNj.out.mono ?_); rintro e w2 ⟨lv, rfl, ol, k2⟩
      obtain ⟨la, lc, rfl, _, _, _⟩ := (OwnI.rd ol).len
      have kb : Kept w2 ((w2.alloc (.cells #[.int .i64 d.op, .int .i64 d.n, .string (strB d.s), .slice la d.l.length lc] 64)).alloc (.cells #[.int .i64 d.op, .int .i64 d.n, .string (strB d.s), .slice la d.l.length lc] 64)) := ((Kept.refl w2).alloc _).alloc _
      have bb := Blk.new (w2.alloc (.cells #[.int .i64 d.op, .int .i64 d.n, .string (strB d.s), .slice la d.l.length lc] 64)) [.int .i64 d.op, .int .i64 d.n, .string (strB d.s), .slice la d.l.length lc] 64
      rw [World.size_alloc] at bb
      have hB : w.heap.size ≤ ((w2.alloc (.cells #[.int .i64 d.op, .int .i64 d.n, .string (strB d.s), .slice la d.l.length lc] 64)).alloc (.cells #[.int .i64 d.op, .int .i64 d.n, .string (strB d.s), .slice la d.l.length lc] 64)).heap.size := ((hk.trans k2).trans kb).size
      have o2 := HO.out.kept (k2.trans kb)
      have l2 : OwnI w.heap.size ((w2.alloc (.cells #[.int .i64 d.op, .int .i64 d.n, .string (strB d.s), .slice la d.l.length lc] 64)).alloc (.cells #[.int .i64 d.op, .int .i64 d.n, .string (strB d.s), .slice la d.l.length lc] 64)) (.slice la d.l.length lc) d.l := Ownv.mono (Ownv.kept ol kb) hk.size
      go_wp2_with (at_builtin; refine go_app_node w.heap.size _ (ds.take j) (by rfl) o2 _ d (.slice la d.l.length lc) (by rfl) bb l2 htl hB ?_; intro v3 w3 o3 t3 hloc3)
      go_roundw
      case rel =>
        refine ⟨j + 1, hlt, by go_num, by rw [HTK.out]; exact o3, ?_⟩
        exact Turn.keptOf ((hk.trans k2).trans kb) t3 (fun b hb => by
          obtain ⟨lvs, h1, h2, h3⟩ := HO.out
          exact (Ownv.lt h2 hb).2)
      case measure => simp [intOf]; omega
    · obtain rfl : j = ds.length := by omega
      rw [List.take_length] at ho
      go_wp2
      go_ret
      exact ⟨_, rfl, ho, hk⟩

theorem Kept.cellE {w w' : World} (k : Kept w w') {p : Addr} {v : Value} (h : w.cell? p = some v) : w'.cell? p = some v := (k.cell (World.block_lt_of_cell? _ _ h)).trans h
theorem cellT {w w' : World} {mb : Nat} (k : Turn (fun b => b = mb) w w') {p : Addr} {v : Value} (hn : p.block ≠ mb) (h : w.cell? p = some v) : w'.cell? p = some v := (World.cell?_of_block (Turn.block k p.block (World.block_lt_of_cell? _ _ h) hn)).trans h
def BisPost (w : World) (mb : Nat) (es ds : List Nd) (e : Ending) (w' : World) : Prop := e = .returned (.bool true) ∧ Turn (fun b => b = mb) w w' ∧ ∃ ks', MetM w' mb es ds ks'
theorem bisD {G : Nat → Prop} {w : World} {q lv : Value} {mb : Nat} {es ds : List Nd} {T : Tr} {x y : Int} (hr : ArR G w q es) (hg : Good ds) (hf : ds.length ≤ 100000) (gm : ¬ G mb) (hl : RdNsU (fun b => b = mb) w lv ds) (hm : ∃ ks, MetM w mb es ds ks) (hx : Den T ds x) (hy : Den T es y) :
    Calls Tryd.prog 16 #[q, lv, .int .i64 y, .int .i64 x, .map (some mb)] w (BisPost w mb es ds) := by
  obtain ⟨ks, m⟩ := hm
  obtain ⟨a, rfl⟩ := Int.eq_ofNat_of_zero_le hx.1.1
  obtain ⟨b, rfl⟩ := Int.eq_ofNat_of_zero_le hy.1.1
  refine (bisim_any (G := G) (p := q) (lv := lv) (mb := mb) hr.good hg hr.few hf (b + 1) b a (Nat.lt_succ_self _) (by have := hy.1.2; omega) (by have := hx.1.2; omega) (hy.2.trans hx.2.symm) w ks ⟨hr, gm, hl⟩ m).mono fun e w' h => ?_
  obtain ⟨h1, h2, ks', h3, _⟩ := h
  exact ⟨h1, h2, ks', h3⟩
theorem met_new (w : World) (es ds : List Nd) : ∃ ks, MetM (w.alloc (.map #[] 0)) w.heap.size es ds ks := ⟨[], 0, .map [], World.ownsMap_made w _ _ _, Met.nil es ds⟩
theorem MetM.keptE {w w' : World} {mb : Nat} {es ds : List Nd} (h : ∃ ks, MetM w mb es ds ks) (k : Kept w w') : ∃ ks, MetM w' mb es ds ks := by
  obtain ⟨ks, h⟩ := h
  exact ⟨ks, h.kept k⟩

set_option maxHeartbeats 16000000 in
set_option maxRecDepth 100000 in
theorem same_no (w : World) (p q : Addr) : Calls Tryd.prog 13 #[.pointer (some p), .pointer (some q), epV ep0, .int .i64 1, epV ep0, .int .i64 1] w fun e w' => e = .returned (.bool true) ∧ Kept w w' := by
  have hz : ∀ w, (Op.equalIn 10000 30 (.agg #[.int .i64 0, .int .i64 0, .int .i64 0, .int .i64 0, .int .i64 0, .int .i64 0, .int .i64 0, .int .i64 0, .int .i64 0, .int .i64 0, .int .i64 0]) (.agg #[.int .i64 0, .int .i64 0, .int .i64 0, .int .i64 0, .int .i64 0, .int .i64 0, .int .i64 0, .int .i64 0, .int .i64 0, .int .i64 0, .int .i64 0])).run Tryd.prog w = .ok true w := fun w => (cmpE w ep0 ep0).trans (by rw [epB_self])
  have hgd := grdE
  unfold epV ep0
  simp only
  go_enter Tryd.func13, Tryd.ntmps13
  go_wp2
  go_ret
  exact ⟨rfl, ((Kept.refl w).alloc _).alloc _⟩
set_option maxHeartbeats 16000000 in
set_option maxRecDepth 100000 in
theorem same_ok {F G : Nat → Prop} {w : World} {p q : Value} {ds es : List Nd} {J P C : Tr} {x y : Ep} (ha : Ar F w p ds) (hr : ArR G w q es) (hx : EpD J P C ds x) (hy : EpD J P C es y) :
    Calls Tryd.prog 13 #[p, q, epV x, .int .i64 0, epV y, .int .i64 0] w fun e w' => e = .returned (.bool true) ∧ Kept w w' := by
  have HEx := Shut.mk hx.2
  have HEy := Shut.mk hy.2
  have HIx := Shut.mk (fun (k : Nat) (hk : k < 10) => hx.at hk)
  have HIy := Shut.mk (fun (k : Nat) (hk : k < 10) => hy.at hk)
  have IX := Lib.hid (fun W => PInner_any W x)
  have IY := Lib.hid (fun W => RInner_any W y)
  have hg := ha.good
  have hf := ha.few
  obtain ⟨x0, x1, x2, x3, x4, x5, x6, x7, x8, x9, x10⟩ := x
  obtain ⟨y0, y1, y2, y3, y4, y5, y6, y7, y8, y9, y10⟩ := y
  obtain ⟨X, hX⟩ : ∃ X : Ep, X = ⟨x0, x1, x2, x3, x4, x5, x6, x7, x8, x9, x10⟩ := ⟨_, rfl⟩
  obtain ⟨Y, hY⟩ : ∃ Y : Ep, Y = ⟨y0, y1, y2, y3, y4, y5, y6, y7, y8, y9, y10⟩ := ⟨_, rfl⟩
  unfold epV at IX IY ⊢
  simp only at IX IY HEx HEy ⊢
  rw [← hX] at IX HIx
  rw [← hY] at IY HIy
  clear hX hY hx hy
  have k3 : Kept w (((w.alloc (.cells #[.int .i64 x0, .int .i64 x1, .int .i64 x2, .int .i64 x3, .int .i64 x4, .int .i64 x5, .int .i64 x6, .int .i64 x7, .int .i64 x8, .int .i64 x9, .int .i64 x10] 30)).alloc (.cells #[.int .i64 y0, .int .i64 y1, .int .i64 y2, .int .i64 y3, .int .i64 y4, .int .i64 y5, .int .i64 y6, .int .i64 y7, .int .i64 y8, .int .i64 y9, .int .i64 y10] 30)).alloc (.map #[] 0)) := (((Kept.refl w).alloc _).alloc _).alloc _
  have hsz : (((w.alloc (.cells #[.int .i64 x0, .int .i64 x1, .int .i64 x2, .int .i64 x3, .int .i64 x4, .int .i64 x5, .int .i64 x6, .int .i64 x7, .int .i64 x8, .int .i64 x9, .int .i64 x10] 30)).alloc (.cells #[.int .i64 y0, .int .i64 y1, .int .i64 y2, .int .i64 y3, .int .i64 y4, .int .i64 y5, .int .i64 y6, .int .i64 y7, .int .i64 y8, .int .i64 y9, .int .i64 y10] 30)).alloc (.map #[] 0)).heap.size = w.heap.size + 3 := by simp only [World.size_alloc]
  have bX := ((Blk.new w [.int .i64 x0, .int .i64 x1, .int .i64 x2, .int .i64 x3, .int .i64 x4, .int .i64 x5, .int .i64 x6, .int .i64 x7, .int .i64 x8, .int .i64 x9, .int .i64 x10] 30).kept ((Kept.refl _).alloc (.cells #[.int .i64 y0, .int .i64 y1, .int .i64 y2, .int .i64 y3, .int .i64 y4, .int .i64 y5, .int .i64 y6, .int .i64 y7, .int .i64 y8, .int .i64 y9, .int .i64 y10] 30))).kept ((Kept.refl _).alloc (.map #[] 0))
  have bY := (Blk.new (w.alloc (.cells #[.int .i64 x0, .int .i64 x1, .int .i64 x2, .int .i64 x3, .int .i64 x4, .int .i64 x5, .int .i64 x6, .int .i64 x7, .int .i64 x8, .int .i64 x9, .int .i64 x10] 30)) [.int .i64 y0, .int .i64 y1, .int .i64 y2, .int .i64 y3, .int .i64 y4, .int .i64 y5, .int .i64 y6, .int .i64 y7, .int .i64 y8, .int .i64 y9, .int .i64 y10] 30).kept ((Kept.refl _).alloc (.map #[] 0))
  have hm := met_new ((w.alloc (.cells #[.int .i64 x0, .int .i64 x1, .int .i64 x2, .int .i64 x3, .int .i64 x4, .int .i64 x5, .int .i64 x6, .int .i64 x7, .int .i64 x8, .int .i64 x9, .int .i64 x10] 30)).alloc (.cells #[.int .i64 y0, .int .i64 y1, .int .i64 y2, .int .i64 y3, .int .i64 y4, .int .i64 y5, .int .i64 y6, .int .i64 y7, .int .i64 y8, .int .i64 y9, .int .i64 y10] 30)) es ds
  simp only [World.size_alloc] at bY hm
  have HA := Lib.hid (ArG.kept ha k3)
  have HRr := Lib.hid (ArG.kept hr k3)
  have HGM := Shut.mk (show ¬ G (w.heap.size + 1 + 1) from fun q => by have := hr.lt _ q; omega)
  have HFM := Shut.mk (show ∀ b, F b → b ≠ w.heap.size + 1 + 1 from fun b q e => by have := ha.lt b q; omega)
  have HBX := Lib.hid bX
  have HBY := Lib.hid bY
  have HM := Lib.hid hm
  have HK := Lib.hid k3
  have HGF := Shut.mk (And.intro hg hf)
  have HSZ := Shut.mk hsz
  obtain ⟨pb, pm, nv, rfl, _, _, _⟩ := ArG.nodes ha
  obtain ⟨qb, qm, nv', rfl, _, _, _⟩ := ArG.nodes hr
  have hmm := @run_makeMap Tryd.prog
  clear ha hr bX bY hm k3 hg hf hsz
  go_enter Tryd.func13, Tryd.ntmps13
  go_upto_region 4 with fail
  generalize hw3 : (((w.alloc (.cells #[.int .i64 x0, .int .i64 x1, .int .i64 x2, .int .i64 x3, .int .i64 x4, .int .i64 x5, .int .i64 x6, .int .i64 x7, .int .i64 x8, .int .i64 x9, .int .i64 x10] 30)).alloc (.cells #[.int .i64 y0, .int .i64 y1, .int .i64 y2, .int .i64 y3, .int .i64 y4, .int .i64 y5, .int .i64 y6, .int .i64 y7, .int .i64 y8, .int .i64 y9, .int .i64 y10] 30)).alloc (.map #[] 0)) = w3 at *
  have HW3 := Shut.mk hw3
  clear hw3
  have p0 := HBX.out.cell 0
  have p1 := HBX.out.cell 1
  have p2 := HBX.out.cell 2
  have p3 := HBX.out.cell 3
  have p4 := HBX.out.cell 4
  have p5 := HBX.out.cell 5
  have p6 := HBX.out.cell 6
  have p7 := HBX.out.cell 7
  have p8 := HBX.out.cell 8
  have p9 := HBX.out.cell 9
  have p10 := HBX.out.cell 10
  have q0 := HBY.out.cell 0
  have q1 := HBY.out.cell 1
  have q2 := HBY.out.cell 2
  have q3 := HBY.out.cell 3
  have q4 := HBY.out.cell 4
  have q5 := HBY.out.cell 5
  have q6 := HBY.out.cell 6
  have q7 := HBY.out.cell 7
  have q8 := HBY.out.cell 8
  have q9 := HBY.out.cell 9
  have q10 := HBY.out.cell 10
  simp only [List.getElem?_cons_zero, List.getElem?_cons_succ] at p0 p1 p2 p3 p4 p5 p6 p7 p8 p9 p10 q0 q1 q2 q3 q4 q5 q6 q7 q8 q9 q10
  go_wp2_with fail
  (with_reducible refine (IX.out _).mono ?_); rintro e wi ⟨l1, rfl, ol1, ki⟩
  obtain ⟨la, lc, hla⟩ : ∃ la lc, l1 = .slice la 10 lc := by
    obtain ⟨va, vc, h, _, _, _⟩ := (OwnI.rd ol1).len
    exact ⟨va, vc, h⟩
  subst hla
  have by1 := HBY.out.kept ki
  clear p0 p1 p2 p3 p4 p5 p6 p7 p8 p9 p10 q0 q1 q2 q3 q4 q5 q6 q7 q8 q9 q10
  have q0 := by1.cell 0
  have q1 := by1.cell 1
  have q2 := by1.cell 2
  have q3 := by1.cell 3
  have q4 := by1.cell 4
  have q5 := by1.cell 5
  have q6 := by1.cell 6
  have q7 := by1.cell 7
  have q8 := by1.cell 8
  have q9 := by1.cell 9
  have q10 := by1.cell 10
  simp only [List.getElem?_cons_zero, List.getElem?_cons_succ] at q0 q1 q2 q3 q4 q5 q6 q7 q8 q9 q10
  go_wp2_with fail
  (with_reducible refine (IY.out _).mono ?_); rintro e wj ⟨l2, rfl, ol2, kj⟩
  obtain ⟨ma, mc, hma⟩ : ∃ la lc, l2 = .slice la 10 lc := by
    obtain ⟨va, vc, h, _, _, _⟩ := (OwnI.rd ol2).len
    exact ⟨va, vc, h⟩
  subst hma
  clear q0 q1 q2 q3 q4 q5 q6 q7 q8 q9 q10 by1 IX IY
  have kij := ki.trans kj
  have HA2 := Lib.hid (ArG.kept HA.out kij)
  have HR2 := Lib.hid (ArG.kept HRr.out kij)
  have HBX2 := Lib.hid (HBX.out.kept kij)
  have HBY2 := Lib.hid (HBY.out.kept kij)
  have HM2 := Lib.hid (MetM.keptE HM.out kij)
  have HL1 := Lib.hid (ol1.kept kj)
  have HL2 := Lib.hid ol2
  have HSM := Shut.mk (show w.heap.size + 1 + 1 < wi.heap.size ∧ w.heap.size + 1 + 1 < wj.heap.size ∧ w3.heap.size ≤ wi.heap.size from ⟨by have := ki.size; have := HSZ.out; omega, by have := kij.size; have := HSZ.out; omega, ki.size⟩)
  have HKJ := Lib.hid (HK.out.trans kij)
  clear ol1 ol2 ki kj kij HA HRr HBX HBY HM HK
  have px := HBX2.out.cell 9
  have py := HBY2.out.cell 9
  simp only [List.getElem?_cons_zero, List.getElem?_cons_succ] at px py
  have HD := Lib.hid (fun W (k : Kept wj W) => dump11_any (ArG.kept HA2.out k))
  have HB := Lib.hid (fun W lv (k : Kept wj W) (hl : RdNsU (fun b => b = w.heap.size + 1 + 1) W lv ds) => bisD (ArG.kept HR2.out k) HGF.out.1 HGF.out.2 HGM.out hl (MetM.keptE HM2.out k) HEx.out HEy.out)
  go_upto_region 6 with fail
  have kd : Kept wj wj.drew := (Kept.refl wj).drew
  have ql : w.heap.size + 1 + 1 < wj.drew.heap.size := Nat.lt_of_lt_of_le HSM.out.2.1 kd.size
  have px' := (kd.cell (World.block_lt_of_cell? _ _ px)).trans px
  have py' := (kd.cell (World.block_lt_of_cell? _ _ py)).trans py
  go_region_held3 (fun w' => w'.cell? ⟨w.heap.size, 9, none⟩ = some (.int .i64 x9) ∧ w'.cell? ⟨w.heap.size + 1, 9, none⟩ = some (.int .i64 y9))
    (first
      | exact ⟨px, py⟩
      | go_keep
      | (go_split_ands; refine ⟨k2.cellE ?_, k2.cellE ?_⟩ <;> assumption)
      | (go_split_ands; refine ⟨cellT t4 (Nat.ne_of_lt (Nat.lt_succ_of_lt (Nat.lt_succ_self _))) ?_, cellT t4 (Nat.ne_of_lt (Nat.lt_succ_self _)) ?_⟩ <;> assumption))
    (first
      | (go_at_call 17; (with_reducible refine (HD.out _ (by first | exact Kept.refl _ | exact (Kept.refl _).drew | exact (Kept.refl _).drewN _)).mono ?_); rintro e w2 ⟨lv, rfl, ol, k2⟩; have hlU := ol.rdU (F := fun b => b = w.heap.size + 1 + 1) (fun b hb => by subst hb; exact ql); obtain ⟨na, nc, rfl, _, _, _⟩ := hlU.rd.len)
      | (go_at_call 16; (with_reducible refine (HB.out _ _ (by first | exact (Kept.refl _).drew.trans k2 | exact ((Kept.refl _).drew.trans k2).drewN _) (by first | exact hlU | exact hlU.turn (((Kept.refl _).drewN _).turn _))).mono ?_); rintro e w4 ⟨rfl, t4, m4⟩))
  have T4 := Lib.hid (Turn.trans (((Kept.refl wj).drew.trans k2).turn (fun b => b = w.heap.size + 1 + 1)) t4 (fun x hx => .inl hx))
  have M4 := Lib.hid m4
  clear px py hlU ol k2 t4 m4 HD HB kd px' py'
  have HD := Lib.hid (fun W (k : Turn (fun b => b = w.heap.size + 1 + 1) wj W) => dump11_any (ArG.turn HA2.out k (fun b hb e => HFM.out b hb e)))
  go_wp2_with fail
  (with_reducible refine (HD.out _ T4.out).mono ?_); rintro e w5 ⟨lv, rfl, ol, k5⟩
  have hlU := ol.rdU (F := fun b => b = w.heap.size + 1 + 1) (fun b hb => by subst hb; exact Nat.lt_of_lt_of_le HSM.out.2.1 T4.out.size)
  have HU := Lib.hid hlU
  obtain ⟨na2, nc2, rfl, _, _, _⟩ := hlU.rd.len
  have T5 := Lib.hid (Turn.kept T4.out k5)
  have M5 := Lib.hid (MetM.keptE M4.out k5)
  clear ol k5 hlU T4 M4 HD ql
  go_wp2
  go_loopw [59] (fun s wr => ∃ k : Nat, k ≤ 10 ∧ s = .int .i64 k ∧ (∃ ks, MetM wr (w.heap.size + 1 + 1) es ds ks) ∧ Turn (fun b => b = w.heap.size + 1 + 1) w5 wr) (fun s _ => 10 - (intOf s).toNat)
  case atStart => exact ⟨0, Nat.zero_le _, rfl, M5.out, Turn.refl _ _⟩
  case round =>
    obtain ⟨k, hk0, rfl, hmr, htr⟩ := hrel
    have HMr := Lib.hid hmr
    have HTr := Lib.hid htr
    have tw := Turn.trans T5.out htr (fun x hx => .inl hx)
    by_cases hlt : k < 10
    · have R1 := Ownv.turn HL1.out tw (fun b hb e => by have e' : b = w.heap.size + 1 + 1 := e; have := Ownv.lt HL1.out hb; have := HSM.out.2.2; have := HSZ.out; omega)
      have R2 := Ownv.turn HL2.out tw (fun b hb e => by have e' : b = w.heap.size + 1 + 1 := e; have := Ownv.lt HL2.out hb; have := HSM.out.1; omega)
      obtain ⟨rb1, ro1, rc1, hrv, _, _, _, hcl⟩ := (OwnI.rd R1).addr (show 0 < 10 by decide)
      simp only [Value.slice.injEq] at hrv
      obtain ⟨rfl, hdrop, rfl⟩ := hrv
      clear hdrop
      have f1 := hcl k hlt
      clear hcl
      obtain ⟨rb2, ro2, rc2, hrv, _, _, _, hcl⟩ := (OwnI.rd R2).addr (show 0 < 10 by decide)
      simp only [Value.slice.injEq] at hrv
      obtain ⟨rfl, hdrop, rfl⟩ := hrv
      clear hdrop
      have f2 := hcl k hlt
      clear hcl
      have n1 : rb1 ≠ w.heap.size + 1 + 1 := by have := Ownv.lt HL1.out (b := rb1) rfl; have := HSM.out.2.2; have := HSZ.out; omega
      have n2 : rb2 ≠ w.heap.size + 1 + 1 := by have := Ownv.lt HL2.out (b := rb2) rfl; have := HSM.out.1; omega
      have HRk := Lib.hid (ArG.turn HR2.out tw (fun b hb e => HGM.out (e ▸ hb)))
      have HUk := Lib.hid (HU.out.turn htr)
      have HB := Lib.hid (fun W (kk : Kept wr W) => bisD (ArG.kept HRk.out kk) HGF.out.1 HGF.out.2 HGM.out (HUk.out.turn (kk.turn _)) (MetM.keptE HMr.out kk) (HIx.out k hlt) (HIy.out k hlt))
      generalize X.inner.getD k 0 = g1 at HB f1
      generalize Y.inner.getD k 0 = g2 at HB f2
      have c0 : (0 : Int) ≤ (k : Int) := by omega
      have c1 : (k : Int) < 10 := by omega
      have HLT := Shut.mk hlt
      clear hmr htr tw R1 R2 hlt HMr
      go_wp2
      go_region_held3 (fun w' => w'.cell? ⟨rb1, ro1 + k, none⟩ = some (.int .i64 g1) ∧ w'.cell? ⟨rb2, ro2 + k, none⟩ = some (.int .i64 g2))
        (first
          | exact ⟨f1, f2⟩
          | go_keep
          | (go_split_ands; refine ⟨cellT t4 n1 ?_, cellT t4 n2 ?_⟩ <;> assumption))
        ((go_at_call 16; (with_reducible refine (HB.out _ (by first | exact Kept.refl _ | exact (Kept.refl _).drew | exact (Kept.refl _).drewN _)).mono ?_); rintro e w4 ⟨rfl, t4, m4⟩))
      have HTn := Lib.hid (Turn.trans (Turn.kept HTr.out ((Kept.refl wr).drew)) t4 (fun x hx => .inl hx))
      have HMn := Lib.hid m4
      clear t4 m4 HB f1 f2 HRk HUk HTr
      go_wp2
      go_roundw
      case rel => exact ⟨k + 1, HLT.out, by go_num, HMn.out, HTn.out⟩
      case measure => simp [intOf]; have := HLT.out; omega
    · obtain rfl : k = 10 := by omega
      have HFin := Lib.hid (Turn.keptOf HKJ.out tw (fun b e => by have e' : b = w.heap.size + 1 + 1 := e; omega))
      clear hmr htr tw
      go_wp2
      go_ret
      exact ⟨rfl, HFin.out⟩
end Go.Proofs.YtekieioffaafaaaDoor
end

section
/- Two arenas, and what is asked of both: each call's answer, whether it is one or an error. -/
set_option linter.unusedSimpArgs false
set_option linter.unusedVariables false
namespace Go.Proofs.YtekieioffaafaaaDoor
open Go.RowKit Go.Maps

/-- Both arenas since w, apart from one another, and from X. -/
structure Ta (w : World) (X : Nat → Prop) (W : World) (p q : Value) (ds es : List Nd) : Prop where
  ar : ∃ F G : Nat → Prop, Ar F W p ds ∧ ArR G W q es ∧ (∀ b, F b → ¬ G b) ∧ (∀ b, F b → w.heap.size ≤ b ∧ ¬ X b) ∧ (∀ b, G b → w.heap.size ≤ b ∧ ¬ X b)
  xlt : ∀ b, X b → b < W.heap.size
  kept : Kept w W
  tab : Tabs w
theorem Ta.prog {w : World} {X : Nat → Prop} {W : World} {p q : Value} {ds es : List Nd} (h : Ta w X W p q ds es) :
    ∃ S : Nat → Prop, At w S W p ds ∧ (∀ b, X b → S b) ∧ (∀ b, b < w.heap.size → S b) ∧ ∀ W' ds', At w S W' p ds' → Keep S W W' → Ta w X W' p q ds' es := by
  obtain ⟨F, G, hF, hG, hd, f1, g1⟩ := h.ar
  refine ⟨fun b => b < w.heap.size ∨ G b ∨ X b, ⟨⟨F, hF, fun b hb hs => ?_⟩, fun b hs => ?_, fun b hb => .inl hb, h.kept, h.tab⟩, fun b hb => .inr (.inr hb), fun b hb => .inl hb, fun W' ds' a k => ?_⟩
  · rcases hs with c | c | c
    · have := (f1 b hb).1; omega
    · exact hd b hb c
    · exact (f1 b hb).2 c
  · rcases hs with c | c | c
    · exact Nat.lt_of_lt_of_le c h.kept.size
    · exact hG.lt b c
    · exact h.xlt b c
  · obtain ⟨F', hF', hn⟩ := a.ar
    refine ⟨⟨F', G, hF', ArG.turn hG k (fun b hb c => c (.inr (.inl hb))), fun b hb hg => hn b hb (.inr (.inl hg)), fun b hb => ⟨?_, fun c => hn b hb (.inr (.inr c))⟩, g1⟩, fun b hb => Nat.lt_of_lt_of_le (h.xlt b hb) k.size, a.kept, h.tab⟩
    rcases Nat.lt_or_ge b w.heap.size with c | c
    · exact absurd (.inl c) (hn b hb)
    · exact c
theorem Ta.doc {w : World} {X : Nat → Prop} {W : World} {p q : Value} {ds es : List Nd} (h : Ta w X W p q ds es) :
    ∃ S : Nat → Prop, AtR w S W q es ∧ (∀ b, X b → S b) ∧ (∀ b, b < w.heap.size → S b) ∧ ∀ W' es', AtR w S W' q es' → Keep S W W' → Ta w X W' p q ds es' := by
  obtain ⟨F, G, hF, hG, hd, f1, g1⟩ := h.ar
  refine ⟨fun b => b < w.heap.size ∨ F b ∨ X b, ⟨⟨G, hG, fun b hb hs => ?_⟩, fun b hs => ?_, fun b hb => .inl hb, h.kept⟩, fun b hb => .inr (.inr hb), fun b hb => .inl hb, fun W' es' a k => ?_⟩
  · rcases hs with c | c | c
    · have := (g1 b hb).1; omega
    · exact hd b c hb
    · exact (g1 b hb).2 c
  · rcases hs with c | c | c
    · exact Nat.lt_of_lt_of_le c h.kept.size
    · exact hF.lt b c
    · exact h.xlt b c
  · obtain ⟨G', hG', hn⟩ := a.ar
    refine ⟨⟨F, G', ArG.turn hF k (fun b hb c => c (.inr (.inl hb))), hG', fun b hb hg => hn b hg (.inr (.inl hb)), f1, fun b hb => ⟨?_, fun c => hn b hb (.inr (.inr c))⟩⟩, fun b hb => Nat.lt_of_lt_of_le (h.xlt b hb) k.size, a.kept, h.tab⟩
    rcases Nat.lt_or_ge b w.heap.size with c | c
    · exact absurd (.inl c) (hn b hb)
    · exact c
theorem Ta.step {w : World} {X : Nat → Prop} {W W' : World} {p q : Value} {ds es : List Nd} (h : Ta w X W p q ds es) (k : Kept W W') : Ta w X W' p q ds es := by
  obtain ⟨F, G, hF, hG, hd, f1, g1⟩ := h.ar
  exact ⟨⟨F, G, ArG.kept hF k, ArG.kept hG k, hd, f1, g1⟩, fun b hb => Nat.lt_of_lt_of_le (h.xlt b hb) k.size, h.kept.trans k, h.tab⟩
theorem Ta.grow {w : World} {X : Nat → Prop} {W W' : World} {p q : Value} {ds es : List Nd} (h : Ta w X W p q ds es) (k : Kept W W') : Ta w (PlusE X W W') W' p q ds es := by
  obtain ⟨F, G, hF, hG, hd, f1, g1⟩ := h.ar
  refine ⟨⟨F, G, ArG.kept hF k, ArG.kept hG k, hd, fun b hb => ⟨(f1 b hb).1, fun c => ?_⟩, fun b hb => ⟨(g1 b hb).1, fun c => ?_⟩⟩, fun b hb => ?_, h.kept.trans k, h.tab⟩
  · rcases c with c | c
    · exact (f1 b hb).2 c
    · have := hF.lt b hb; omega
  · rcases c with c | c
    · exact (g1 b hb).2 c
    · have := hG.lt b hb; omega
  · rcases hb with c | c
    · exact Nat.lt_of_lt_of_le (h.xlt b c) k.size
    · exact c.2

/-- The error's number. -/
def eB (b : Bool) : Int := if b then 0 else 1
def PAny (w0 : World) (S : Nat → Prop) (w : World) (p : Value) (ds : List Nd) (n : Nat) (b : Bool) (Q : List Nd → Int → Prop) (e : Ending) (w' : World) : Prop :=
  ∃ (r : List Nd) (t : Int), e = .returned (.tuple #[.int .i64 t, .int .i64 (eB b)]) ∧ At w0 S w' p (ds ++ r) ∧ r.length ≤ n ∧ (b = true → Q (ds ++ r) t) ∧ Keep S w w'
def RAny (w0 : World) (S : Nat → Prop) (w : World) (p : Value) (ds : List Nd) (n : Nat) (b : Bool) (Q : List Nd → Int → Prop) (e : Ending) (w' : World) : Prop :=
  ∃ (r : List Nd) (t : Int), e = .returned (.tuple #[.int .i64 t, .int .i64 (eB b)]) ∧ AtR w0 S w' p (ds ++ r) ∧ r.length ≤ n ∧ (b = true → Q (ds ++ r) t) ∧ Keep S w w'
def EpAny (b : Bool) (Q : List Nd → Ep → Prop) (ds : List Nd) (x : Ep) : Prop := (b = true → Q ds x) ∧ (b = false → x = ep0)
def EAny (w0 : World) (S : Nat → Prop) (w : World) (p : Value) (ds : List Nd) (n : Nat) (b : Bool) (Q : List Nd → Ep → Prop) (e : Ending) (w' : World) : Prop :=
  ∃ (r : List Nd) (x : Ep), e = .returned (.tuple #[epV x, .int .i64 (eB b)]) ∧ At w0 S w' p (ds ++ r) ∧ r.length ≤ n ∧ EpAny b Q (ds ++ r) x ∧ Keep S w w'
def FAny (w0 : World) (S : Nat → Prop) (w : World) (p : Value) (ds : List Nd) (n : Nat) (b : Bool) (Q : List Nd → Ep → Prop) (e : Ending) (w' : World) : Prop :=
  ∃ (r : List Nd) (x : Ep), e = .returned (.tuple #[epV x, .int .i64 (eB b)]) ∧ AtR w0 S w' p (ds ++ r) ∧ r.length ≤ n ∧ EpAny b Q (ds ++ r) x ∧ Keep S w w'
theorem EpAny.more {b : Bool} {j p c : Tr} {ds : List Nd} {x : Ep} (h : EpAny b (EpD j p c) ds x) (r : List Nd) : EpAny b (EpD j p c) (ds ++ r) x := ⟨fun k => (h.1 k).more r, h.2⟩
theorem near_stays {x : Int} {r : List Nd} (h : ¬ (10 ≤ x ∧ x < 1073741824)) : Stays (atomsL 10 ++ r) x := fun s hs k => by
  rw [List.append_assoc] at hs k
  have := (near_isT h hs).1 k
  exact this.more r
theorem tB_dens {l : List Int} {r : List Nd} (hg : Good (atomsL 10)) (h : tB l = true) : DenL (l.map atomT) (atomsL 10 ++ r) l := (tB_den hg h).more r
theorem tB3 {i c x : Int} {r : List Nd} (hg : Good (atomsL 10)) (h : tB [i, c, x] = true) : Den (atomT i) (atomsL 10 ++ r) i ∧ Den (atomT c) (atomsL 10 ++ r) c ∧ Den (atomT x) (atomsL 10 ++ r) x :=
  ⟨(isT_atom hg (tB_isT h (by simp))).more r, (isT_atom hg (tB_isT h (by simp))).more r, (isT_atom hg (tB_isT h (by simp))).more r⟩
theorem good10 : Good (atomsL 10) := by
  have : ∀ k, k ≤ 10 → Good (atomsL k) := by
    intro k
    induction k with
    | zero => exact fun _ => Good.nil
    | succ k ih =>
      intro hk
      have h := mk_atoms (k := k) (by omega)
      have h2 := good_mk (ih (by omega)) ⟨1, (k : Int), [], []⟩
      rw [h] at h2
      exact h2
  exact this 10 (by decide)
abbrev EQ (i c x : Int) (l : List Int) : List Nd → Ep → Prop := EpD (joinT (atomT i) (atomT c) (atomT x)) (pskT (l.map atomT)) (atomT x)
abbrev EB (i c x : Int) : List Nd → Ep → Prop := EpD (atomT i) (atomT c) (atomT x)
theorem PNext_any {w0 : World} {S : Nat → Prop} {w : World} {p v : Value} {r : List Nd} {i c x : Int} {l : List Int} (h : At w0 S w p (atomsL 10 ++ r)) (hk : RdK S w v l) (n1 : Near 10 [i, c, x]) (n2 : Near 10 l) (hl : l.length ≤ 50) (hr : r.length ≤ 1000) :
    Calls Tryd.prog 11 #[p, .int .i64 i, .int .i64 c, .int .i64 x, v] w (EAny w0 S w p (atomsL 10 ++ r) 100 (tB [i, c, x] && tB l) (EQ i c x l)) := by
  have e1 := near_terms n1 h.few
  have e2 := near_terms n2 h.few
  cases hb : (tB [i, c, x] && tB l) with
  | true =>
    rw [Bool.and_eq_true] at hb
    obtain ⟨d1, d2, d3⟩ := tB3 (r := r) good10 hb.1
    refine (PNext_ok h hk d1 d2 d3 (tB_dens good10 hb.2) (by rw [List.length_append, atomsL_len]; omega)).mono ?_
    rintro e w' ⟨r', y, he, ha, hlen, hq, hkk⟩
    exact ⟨r', y, he, ha, by omega, ⟨fun _ => hq, fun h => by cases h⟩, hkk⟩
  | false =>
    refine (PNext_no h hk.rd (by rw [e1, e2]; exact hb)).mono ?_
    rintro e w' ⟨he, hkk⟩
    exact ⟨[], ep0, he, by rw [List.append_nil]; exact h.step hkk, Nat.zero_le _, ⟨(fun h => by cases h), fun _ => rfl⟩, hkk.keep S⟩
theorem RNext_any {w0 : World} {S : Nat → Prop} {w : World} {p v : Value} {r : List Nd} {i c x : Int} {l : List Int} (h : AtR w0 S w p (atomsL 10 ++ r)) (hk : RdK S w v l) (n1 : Near 10 [i, c, x]) (n2 : Near 10 l) (ii : I64 i) (ic : I64 c) (il : ∀ x ∈ l, I64 x) (hl : l.length ≤ 50) (hr : r.length ≤ 1000) :
    Calls Tryd.prog 12 #[p, .int .i64 i, .int .i64 c, .int .i64 x, v] w (FAny w0 S w p (atomsL 10 ++ r) 100 (tB [i, c, x] && tB l) (EQ i c x l)) := by
  have e1 := near_terms n1 h.few
  have e2 := near_terms n2 h.few
  cases hb : (tB [i, c, x] && tB l) with
  | true =>
    rw [Bool.and_eq_true] at hb
    obtain ⟨d1, d2, d3⟩ := tB3 (r := r) good10 hb.1
    refine (RNext_ok h hk d1 d2 d3 (tB_dens good10 hb.2) (by rw [List.length_append, atomsL_len]; omega)).mono ?_
    rintro e w' ⟨r', y, he, ha, hlen, hq, hkk⟩
    exact ⟨r', y, he, ha, by omega, ⟨fun _ => hq, fun h => by cases h⟩, hkk⟩
  | false =>
    refine (RNext_no h hk ii ic (near_stays (n1 x (by simp))) (fun y hy => near_stays (n2 y hy)) il (by rw [e1, e2]; exact hb) (by rw [List.length_append, atomsL_len]; omega)).mono ?_
    rintro e w' ⟨r', he, ha, hlen, hkk⟩
    exact ⟨r', ep0, he, ha, by omega, ⟨(fun h => by cases h), fun _ => rfl⟩, hkk⟩
theorem PJoiner_any {w0 : World} {S : Nat → Prop} {w : World} {p : Value} {r : List Nd} {i c x : Int} (h : At w0 S w p (atomsL 10 ++ r)) (n1 : Near 10 [i, c, x]) (hr : r.length ≤ 1000) :
    Calls Tryd.prog 18 #[p, .int .i64 i, .int .i64 c, .int .i64 x] w (PAny w0 S w p (atomsL 10 ++ r) 100 (tB [i, c, x]) (Den (joinT (atomT i) (atomT c) (atomT x)))) := by
  have e1 := near_terms n1 h.few
  cases hb : tB [i, c, x] with
  | true =>
    obtain ⟨d1, d2, d3⟩ := tB3 (r := r) good10 hb
    refine (PJoiner_ok h d1 d2 d3 (by rw [List.length_append, atomsL_len]; omega)).mono ?_
    rintro e w' ⟨r', y, he, ha, hlen, hq, hkk⟩
    exact ⟨r', y, he, ha, by omega, fun _ => hq, hkk⟩
  | false =>
    refine (PJoiner_no h (by rw [e1]; exact hb)).mono ?_
    rintro e w' ⟨he, hkk⟩
    exact ⟨[], 0, he, by rw [List.append_nil]; exact h.step hkk, Nat.zero_le _, (fun h => by cases h), hkk.keep S⟩
theorem RJoiner_any {w0 : World} {S : Nat → Prop} {w : World} {p : Value} {r : List Nd} {i c x : Int} (h : AtR w0 S w p (atomsL 10 ++ r)) (n1 : Near 10 [i, c, x]) (ii : I64 i) (ic : I64 c) (hr : r.length ≤ 1000) :
    Calls Tryd.prog 19 #[p, .int .i64 i, .int .i64 c, .int .i64 x] w (RAny w0 S w p (atomsL 10 ++ r) 100 (tB [i, c, x]) (Den (joinT (atomT i) (atomT c) (atomT x)))) := by
  have e1 := near_terms n1 h.few
  cases hb : tB [i, c, x] with
  | true =>
    obtain ⟨d1, d2, d3⟩ := tB3 (r := r) good10 hb
    refine (RJoiner_ok h d1 d2 d3 (by rw [List.length_append, atomsL_len]; omega)).mono ?_
    rintro e w' ⟨r', y, he, ha, hlen, hq, hkk⟩
    exact ⟨r', y, he, ha, by omega, fun _ => hq, hkk⟩
  | false =>
    refine (RJoiner_no h ii ic (near_stays (n1 x (by simp))) (by rw [e1]; exact hb) (by rw [List.length_append, atomsL_len]; omega)).mono ?_
    rintro e w' ⟨r', he, ha, hlen, hkk⟩
    exact ⟨r', 0, he, ha, by omega, (fun h => by cases h), hkk⟩
theorem PBegin_any {w0 : World} {S : Nat → Prop} {w : World} {p : Value} {r : List Nd} {i c x : Int} (h : At w0 S w p (atomsL 10 ++ r)) (n1 : Near 10 [i, c, x]) (hr : r.length ≤ 1000) :
    Calls Tryd.prog 20 #[p, .int .i64 i, .int .i64 c, .int .i64 x] w (EAny w0 S w p (atomsL 10 ++ r) 100 (tB [i, c, x]) (EB i c x)) := by
  have e1 := near_terms n1 h.few
  cases hb : tB [i, c, x] with
  | true =>
    obtain ⟨d1, d2, d3⟩ := tB3 (r := r) good10 hb
    refine (PBegin_ok h d1 d2 d3 (by rw [List.length_append, atomsL_len]; omega)).mono ?_
    rintro e w' ⟨r', y, he, ha, hlen, hq, hkk⟩
    exact ⟨r', y, he, ha, by omega, ⟨fun _ => hq, fun h => by cases h⟩, hkk⟩
  | false =>
    refine (PBegin_no h (by rw [e1]; exact hb)).mono ?_
    rintro e w' ⟨he, hkk⟩
    exact ⟨[], ep0, he, by rw [List.append_nil]; exact h.step hkk, Nat.zero_le _, ⟨(fun h => by cases h), fun _ => rfl⟩, hkk.keep S⟩
theorem RBegin_any {w0 : World} {S : Nat → Prop} {w : World} {p : Value} {r : List Nd} {i c x : Int} (h : AtR w0 S w p (atomsL 10 ++ r)) (n1 : Near 10 [i, c, x]) (ii : I64 i) (ic : I64 c) (hr : r.length ≤ 1000) :
    Calls Tryd.prog 21 #[p, .int .i64 i, .int .i64 c, .int .i64 x] w (FAny w0 S w p (atomsL 10 ++ r) 100 (tB [i, c, x]) (EB i c x)) := by
  have e1 := near_terms n1 h.few
  cases hb : tB [i, c, x] with
  | true =>
    obtain ⟨d1, d2, d3⟩ := tB3 (r := r) good10 hb
    refine (RBegin_ok h d1 d2 d3 (by rw [List.length_append, atomsL_len]; omega)).mono ?_
    rintro e w' ⟨r', y, he, ha, hlen, hq, hkk⟩
    exact ⟨r', y, he, ha, by omega, ⟨fun _ => hq, fun h => by cases h⟩, hkk⟩
  | false =>
    refine (RBegin_no h ii ic (near_stays (n1 x (by simp))) (by rw [e1]; exact hb) (by rw [List.length_append, atomsL_len]; omega)).mono ?_
    rintro e w' ⟨r', he, ha, hlen, hkk⟩
    exact ⟨r', ep0, he, ha, by omega, ⟨(fun h => by cases h), fun _ => rfl⟩, hkk⟩
/-- The secret that is exported of. -/
def exT (b : Bool) (i c x : Int) (l : List Int) : Tr := if b then derT (epochT (joinT (atomT i) (atomT c) (atomT x)) (pskT (l.map atomT)) (atomT x)) exporterS else atomT 0
theorem EpAny.exp {b : Bool} {i c x : Int} {l : List Int} {r : List Nd} {y : Ep} (h : EpAny b (EQ i c x l) (atomsL 10 ++ r) y) : Den (exT b i c x l) (atomsL 10 ++ r) y.exporter := by
  cases b with
  | true => exact (h.1 rfl).exporter
  | false =>
    rw [h.2 rfl]
    exact (atoms_den (k := 10) (n := 0) good10 (by decide)).more r
def exB (s : List UInt8) (o : Int) : Bool := decide (s.length ≤ 200) && tB [o]
theorem PExport_any {w0 : World} {S : Nat → Prop} {w : World} {p : Value} {r : List Nd} {y : Ep} {o : Int} {s : List UInt8} {X : Tr} (h : At w0 S w p (atomsL 10 ++ r)) (n1 : Near 10 [o]) (hx : Den X (atomsL 10 ++ r) y.exporter) (hs : s.length ≤ 300) (hr : r.length ≤ 1000) :
    Calls Tryd.prog 14 #[p, epV y, .string (strB s), .int .i64 o] w (PAny w0 S w p (atomsL 10 ++ r) 100 (exB s o) (Den (keyT (derT X s) exportedS (atomT o)))) := by
  have e1 := near_terms n1 h.few
  have e2 : tB [o] = decide (IsT (atomsL 10 ++ r) o) := by rw [← e1]; unfold termsB; simp
  unfold exB
  cases hb : tB [o] with
  | true =>
    have hd := (isT_atom good10 (tB_isT hb (x := o) (by simp))).more r
    by_cases hl : s.length ≤ 200
    · rw [decide_eq_true hl]
      refine (PExport_ok h hd hx hl (by rw [List.length_append, atomsL_len]; omega)).mono ?_
      rintro e w' ⟨r', t, he, ha, hlen, hq, hkk⟩
      exact ⟨r', t, he, ha, by omega, fun _ => hq, hkk⟩
    · rw [decide_eq_false hl]
      refine (PExport_long h hd.1 hx.1 (by omega) (by unfold maxLen; omega) (by rw [List.length_append, atomsL_len]; omega)).mono ?_
      rintro e w' ⟨r', he, ha, hlen, hkk⟩
      exact ⟨r', 0, he, ha, by omega, (fun h => by cases h), hkk⟩
  | false =>
    rw [Bool.and_false]
    refine (PExport_no h (by rw [e2] at hb; exact of_decide_eq_false hb)).mono ?_
    rintro e w' ⟨he, hkk⟩
    exact ⟨[], 0, he, by rw [List.append_nil]; exact h.step hkk, Nat.zero_le _, (fun h => by cases h), hkk.keep S⟩
theorem RExport_any {w0 : World} {S : Nat → Prop} {w : World} {p : Value} {r : List Nd} {y : Ep} {o : Int} {s : List UInt8} {X : Tr} (h : AtR w0 S w p (atomsL 10 ++ r)) (n1 : Near 10 [o]) (hx : Den X (atomsL 10 ++ r) y.exporter) (hs : s.length ≤ 300) (hr : r.length ≤ 1000) :
    Calls Tryd.prog 15 #[p, epV y, .string (strB s), .int .i64 o] w (RAny w0 S w p (atomsL 10 ++ r) 100 (exB s o) (Den (keyT (derT X s) exportedS (atomT o)))) := by
  have e1 := near_terms n1 h.few
  have e2 : tB [o] = decide (IsT (atomsL 10 ++ r) o) := by rw [← e1]; unfold termsB; simp
  unfold exB
  cases hb : tB [o] with
  | true =>
    have hd := (isT_atom good10 (tB_isT hb (x := o) (by simp))).more r
    by_cases hl : s.length ≤ 200
    · rw [decide_eq_true hl]
      refine (RExport_ok h hd hx hl (by rw [List.length_append, atomsL_len]; omega)).mono ?_
      rintro e w' ⟨r', t, he, ha, hlen, hq, hkk⟩
      exact ⟨r', t, he, ha, by omega, fun _ => hq, hkk⟩
    · rw [decide_eq_false hl]
      refine (RExport_long h hd.1 hx.1 (by omega) (by unfold maxLen; omega) (by rw [List.length_append, atomsL_len]; omega)).mono ?_
      rintro e w' ⟨r', he, ha, hlen, hkk⟩
      exact ⟨r', 0, he, ha, by omega, (fun h => by cases h), hkk⟩
  | false =>
    rw [Bool.and_false]
    refine (RExport_no h (by rw [e2] at hb; exact of_decide_eq_false hb)).mono ?_
    rintro e w' ⟨he, hkk⟩
    exact ⟨[], 0, he, by rw [List.append_nil]; exact h.step hkk, Nat.zero_le _, (fun h => by cases h), hkk.keep S⟩
theorem same_any {w : World} {X : Nat → Prop} {W : World} {p q : Value} {ds es : List Nd} {b : Bool} {J P C : Tr} {x y : Ep} (h : Ta w X W p q ds es) (hx : EpAny b (EpD J P C) ds x) (hy : EpAny b (EpD J P C) es y) :
    Calls Tryd.prog 13 #[p, q, epV x, .int .i64 (eB b), epV y, .int .i64 (eB b)] W fun e w' => e = .returned (.bool true) ∧ Kept W w' := by
  obtain ⟨F, G, hF, hG, _, _, _⟩ := h.ar
  cases b with
  | true => exact same_ok hF hG (hx.1 rfl) (hy.1 rfl)
  | false =>
    obtain ⟨pb, pm, nv, rfl, _, _, _⟩ := ArG.nodes hF
    obtain ⟨qb, qm, nv', rfl, _, _, _⟩ := ArG.nodes hG
    rw [hx.2 rfl, hy.2 rfl]
    exact same_no W _ _
end Go.Proofs.YtekieioffaafaaaDoor
end
