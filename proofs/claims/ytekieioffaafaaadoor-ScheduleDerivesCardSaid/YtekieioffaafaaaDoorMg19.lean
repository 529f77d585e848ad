/- Texts of one proof, put together: ScV. -/
import Derived.Test.YtekieioffaafaaaDoorMg18
import Derived.Deep.Cut
section
/- The walk of ScheduleDerives (written by gen_scv.py). -/
set_option linter.unusedSimpArgs false
set_option linter.unusedVariables false
namespace Go.Proofs.YtekieioffaafaaaDoor
open Go.RowKit Go.Maps

theorem Near.sub {n : Int} {l m : List Int} (h : Near n l) (hs : ∀ x ∈ m, x ∈ l) : Near n m := fun x hx => h x (hs x hx)
theorem Ta.of {w W : World} {p q : Value} {k : Nat} (hT : Tabs w) (h : TwoS w p q k W) : Ta w (fun _ => False) W p q (atomsL k) (atomsL k) := by
  obtain ⟨F, G, hA, hR, hFG, hF, hG, k1⟩ := h
  exact ⟨⟨F, G, hA, hR, hFG, fun b hb => ⟨hF b hb, id⟩, fun b hb => ⟨hG b hb, id⟩⟩, fun b hb => absurd hb id, k1, hT⟩
theorem Ta.ptrs {w : World} {X : Nat → Prop} {W : World} {p q : Value} {ds es : List Nd} (h : Ta w X W p q ds es) : ∃ pb qb : Nat, p = .pointer (some ⟨pb, 0, none⟩) ∧ q = .pointer (some ⟨qb, 0, none⟩) := by
  obtain ⟨F, G, hF, hG, _, _, _⟩ := h.ar
  obtain ⟨pb, pm, nv, rfl, _, _, _⟩ := ArG.nodes hF
  obtain ⟨qb, qm, nv', rfl, _, _, _⟩ := ArG.nodes hG
  exact ⟨pb, qb, rfl, rfl⟩
/-- A block that stays: one that X has. -/
theorem Ta.blk {S X : Nat → Prop} {W W' : World} {g : Nat} {e : TypeId} {xs : List Value} (b : Blk W g e xs) (k : Keep S W W') (hX : ∀ b, X b → S b) (hg : X g) : Blk W' g e xs := k.blk b (hX _ hg)
/-- dump, a new map, Bisim of the same tree. -/
theorem Ta.dump {w : World} {X : Nat → Prop} {W : World} {p q : Value} {ds es : List Nd} (h : Ta w X W p q ds es) : Calls Tryd.prog 17 #[p] W (DumpPost W ds) := by
  obtain ⟨F, G, hF, hG, _, _, _⟩ := h.ar
  exact dump11_any hF
theorem Ta.bis {w : World} {X : Nat → Prop} {W W1 : World} {p q lv : Value} {ds es : List Nd} {T : Tr} {x y : Int} (h : Ta w X W p q ds es) (k : Kept W W1) (hl : OwnNs W.heap.size W1 lv ds) (hx : Den T ds x) (hy : Den T es y) :
    Calls Tryd.prog 16 #[q, lv, .int .i64 y, .int .i64 x, .map (some W1.heap.size)] (W1.alloc (.map #[] 0)) fun e w' => e = .returned (.bool true) ∧ Kept W w' := by
  obtain ⟨F, G, hF, hG, _, _, _⟩ := h.ar
  have ka : Kept W1 (W1.alloc (.map #[] 0)) := (Kept.refl W1).alloc _
  have hlk := hl.kept ka
  have hU : RdNsU (fun b => b = W1.heap.size) (W1.alloc (.map #[] 0)) lv ds := by
    obtain ⟨lvs, h1, h2, h3⟩ := hl
    obtain ⟨lvs', g1, g2, g3⟩ := hlk
    refine ⟨lvs, h1, fun V t => ⟨?_, fun i hi => ?_⟩⟩
    · exact (Ownv.turn (Ownv.kept h2 ka) t fun b hb e => by have e' : b = W1.heap.size := e; have := (Ownv.lt h2 hb).1; omega).rdv
    · exact (Ownv.turn (Ownv.kept (h3 i hi).1 ka) t fun b hb e => by have e' : b = W1.heap.size := e; have := (Ownv.lt (h3 i hi).1 hb).1; omega).rdv
  refine (bisD (ArG.kept hG (k.trans ka)) hF.good hF.few (fun c => by have := hG.lt _ c; have := k.size; omega) hU (met_new W1 es ds) hx hy).mono ?_
  rintro e w' ⟨he, ht, _⟩
  exact ⟨he, Turn.keptOf (k.trans ka) ht (fun b e => by have e' : b = W1.heap.size := e; have := k.size; omega)⟩
set_option maxHeartbeats 64000000 in
set_option maxRecDepth 100000 in
theorem derives_walk {w : World} {i c x : Int} (hi : I64 i) (hc : I64 c) (hx : I64 x) {u : Value} {l : List Int} (hu : RdI w u l) (okl : ∀ x ∈ l, I64 x) (P : ByteArray) (hP : P.size ≤ 9223372036854775807) {o : Int} (ho : I64 o) (ht : Tabs w) :
    Calls Tryd.prog 3 #[.int .i64 i, .int .i64 c, .int .i64 x, u, .string P, .int .i64 o] w fun e w' => e = .returned (.bool true) ∧ Kept w w' := by
  have HT := Lib.hid ht
  have HU := Lib.hid hu
  obtain ⟨xp, hxp⟩ : ∃ x, P = strB x := ⟨P.data.toList, by cases P; rfl⟩
  have p1 : P.size = xp.length := by rw [hxp, strB_size]
  have HXP := Shut.mk hxp
  have HI := Shut.mk (And.intro hi (And.intro hc okl))
  obtain ⟨ua, uc, rfl, u1, u2, _⟩ := hu.len
  have l63 : ((l.length : Nat) : Int) ≤ 9223372036854775807 := by unfold maxLen at u2; omega
  have s1 : (P.size : Int) ≤ 9223372036854775807 := by omega
  clear ht hu okl u1 u2 hi hc hx ho hxp hP
  by_cases h1 : l.length ≤ 50
  · have d1 : ¬ (50 : Int) < (l.length : Int) := by omega
    by_cases h2 : P.size ≤ 300
    · have d2 : ¬ (300 : Int) < (P.size : Int) := by omega
      have H1 := Shut.mk h1
      have H2 := Shut.mk (show xp.length ≤ 300 by omega)
      clear h1 h2 p1
      go_enter Tryd.func3, Tryd.ntmps3
      go_wp2_with fail
      (with_reducible refine (live11_any HT.out).mono ?_); rintro e w1 ⟨rfl, k1⟩
      have ks : Kept w1 (w1.alloc (.cells #[.int .i64 i, .int .i64 c, .int .i64 x, .int .i64 o] 3)) := (Kept.refl w1).alloc _
      have HB := Lib.hid (beyond_any (RdI.sl4 w1 i c x o) 10)
      go_wp2_with fail
      generalize w1.alloc (.cells #[.int .i64 i, .int .i64 c, .int .i64 x, .int .i64 o] 3) = w1' at *
      (with_reducible refine HB.out.mono ?_); rintro e w2 ⟨b1, rfl, hb1, k2⟩
      clear HB
      have k12 := (k1.trans ks).trans k2
      clear k1 ks k2
      cases b1 with
      | true =>
        clear hb1
        go_wp2
        go_ret
        exact ⟨rfl, k12⟩
      | false =>
        have N0 := Shut.mk (hb1 rfl)
        clear hb1
        go_wp2_with fail
        (with_reducible refine (beyond_any (HU.out.kept k12) 10).mono ?_); rintro e w3 ⟨b2, rfl, hb2, k3⟩
        have k13 := k12.trans k3
        cases b2 with
        | true =>
          clear hb2
          go_wp2
          go_ret
          exact ⟨rfl, k13⟩
        | false =>
          have N2 := Shut.mk (hb2 rfl)
          have N1 := Shut.mk (show Near 10 [i, c, x] from N0.out.sub (fun y hy => by simp only [List.mem_cons, List.not_mem_nil, or_false] at hy ⊢; omega))
          have N3 := Shut.mk (show Near 10 [o] from N0.out.sub (fun y hy => by simp only [List.mem_cons, List.not_mem_nil, or_false] at hy ⊢; omega))
          have HU3 := Lib.hid (HU.out.kept k13)
          have K13 := Lib.hid k13
          clear hb2 k12 k3 k13 HU N0
          go_wp2_with fail
          (with_reducible refine (two11_any (HT.out.kept K13.out)).mono ?_); rintro e w4 ⟨p, q, pa, rfl, rfl, hs⟩
          have T0 := Lib.hid (Ta.of (HT.out.kept K13.out) hs)
          obtain ⟨pb, qb, hp, rfl⟩ := T0.out.ptrs
          rw [hp] at T0
          obtain rfl : pa = ⟨pb, 0, none⟩ := by injection hp with hp; injection hp
          clear hs hp
          generalize hb1 : (tB [i, c, x] && tB l) = B1 at *
          have HB1 := Shut.mk hb1
          clear hb1
          obtain ⟨S1, a1, sx1, sb1, ret1⟩ := T0.out.prog
          have HC1 := Lib.hid (PNext_any (r := []) (by rw [List.append_nil]; exact a1) (RdI.rdK HU3.out T0.out.kept sb1) N1.out N2.out H1.out (Nat.zero_le _))
          rw [HB1.out] at HC1
          have RT1 := Shut.mk ret1
          have SX1 := Shut.mk sx1
          clear a1 sx1 sb1 ret1
          go_wp2_with fail
          (with_reducible refine HC1.out.mono ?_); rintro e v1 ⟨r1, x, rfl, a1, hr1, d1', k1⟩
          rw [List.append_nil] at a1 d1'
          have T1 := Lib.hid (RT1.out _ _ a1 k1)
          have D1 := Shut.mk d1'
          clear a1 d1' k1 HC1 RT1 SX1 T0
          obtain ⟨x0, x1, x2, x3, x4, x5, x6, x7, x8, x9, x10⟩ := x
          have kb1 : Kept v1 (v1.alloc (.cells #[.int .i64 x0, .int .i64 x1, .int .i64 x2, .int .i64 x3, .int .i64 x4, .int .i64 x5, .int .i64 x6, .int .i64 x7, .int .i64 x8, .int .i64 x9, .int .i64 x10] 30)) := (Kept.refl v1).alloc _
          have T1b := Lib.hid (T1.out.grow kb1)
          have Bxx := Lib.hid (Blk.new v1 [.int .i64 x0, .int .i64 x1, .int .i64 x2, .int .i64 x3, .int .i64 x4, .int .i64 x5, .int .i64 x6, .int .i64 x7, .int .i64 x8, .int .i64 x9, .int .i64 x10] 30)
          have XBxx := Shut.mk (show PlusE (fun _ => False) v1 (v1.alloc (.cells #[.int .i64 x0, .int .i64 x1, .int .i64 x2, .int .i64 x3, .int .i64 x4, .int .i64 x5, .int .i64 x6, .int .i64 x7, .int .i64 x8, .int .i64 x9, .int .i64 x10] 30)) v1.heap.size from .inr ⟨Nat.le_refl _, Bxx.out.lt⟩)
          clear kb1 T1
          obtain ⟨S2, a2, sx2, sb2, ret2⟩ := T1b.out.doc
          have HC2 := Lib.hid (RNext_any (r := []) (by rw [List.append_nil]; exact a2) (RdI.rdK HU3.out T1b.out.kept sb2) N1.out N2.out HI.out.1 HI.out.2.1 HI.out.2.2 H1.out (Nat.zero_le _))
          rw [HB1.out] at HC2
          have RT2 := Shut.mk ret2
          have SX2 := Shut.mk sx2
          clear a2 sx2 sb2 ret2
          unfold epV
          simp only
          go_wp2_with fail
          generalize PlusE (fun _ => False) v1 (v1.alloc (.cells #[.int .i64 x0, .int .i64 x1, .int .i64 x2, .int .i64 x3, .int .i64 x4, .int .i64 x5, .int .i64 x6, .int .i64 x7, .int .i64 x8, .int .i64 x9, .int .i64 x10] 30)) = X1 at *
          generalize (v1.alloc (.cells #[.int .i64 x0, .int .i64 x1, .int .i64 x2, .int .i64 x3, .int .i64 x4, .int .i64 x5, .int .i64 x6, .int .i64 x7, .int .i64 x8, .int .i64 x9, .int .i64 x10] 30)) = u1 at *
          generalize v1.heap.size = Bxxn at *
          (with_reducible refine HC2.out.mono ?_); rintro e v2 ⟨r2, y, rfl, a2, hr2, d2', k2⟩
          rw [List.append_nil] at a2 d2'
          have Bxx_ := Lib.hid (k2.blk Bxx.out (SX2.out _ XBxx.out))
          clear Bxx
          have Bxx := Bxx_
          clear Bxx_
          have T2 := Lib.hid (RT2.out _ _ a2 k2)
          have D2 := Shut.mk d2'
          clear a2 d2' k2 HC2 RT2 SX2 T1b
          obtain ⟨y0, y1, y2, y3, y4, y5, y6, y7, y8, y9, y10⟩ := y
          have kb2 : Kept v2 (v2.alloc (.cells #[.int .i64 y0, .int .i64 y1, .int .i64 y2, .int .i64 y3, .int .i64 y4, .int .i64 y5, .int .i64 y6, .int .i64 y7, .int .i64 y8, .int .i64 y9, .int .i64 y10] 30)) := (Kept.refl v2).alloc _
          have T2b := Lib.hid (T2.out.grow kb2)
          have Bxx_ := Lib.hid (Bxx.out.kept kb2)
          have XBxx_ := Shut.mk (show PlusE X1 v2 (v2.alloc (.cells #[.int .i64 y0, .int .i64 y1, .int .i64 y2, .int .i64 y3, .int .i64 y4, .int .i64 y5, .int .i64 y6, .int .i64 y7, .int .i64 y8, .int .i64 y9, .int .i64 y10] 30)) Bxxn from .inl XBxx.out)
          clear Bxx XBxx
          have Bxx := Bxx_
          have XBxx := XBxx_
          clear Bxx_ XBxx_
          have Bxy := Lib.hid (Blk.new v2 [.int .i64 y0, .int .i64 y1, .int .i64 y2, .int .i64 y3, .int .i64 y4, .int .i64 y5, .int .i64 y6, .int .i64 y7, .int .i64 y8, .int .i64 y9, .int .i64 y10] 30)
          have XBxy := Shut.mk (show PlusE X1 v2 (v2.alloc (.cells #[.int .i64 y0, .int .i64 y1, .int .i64 y2, .int .i64 y3, .int .i64 y4, .int .i64 y5, .int .i64 y6, .int .i64 y7, .int .i64 y8, .int .i64 y9, .int .i64 y10] 30)) v2.heap.size from .inr ⟨Nat.le_refl _, Bxy.out.lt⟩)
          clear kb2 T2
          have HS := Lib.hid (fun W (k : Kept (v2.alloc (.cells #[.int .i64 y0, .int .i64 y1, .int .i64 y2, .int .i64 y3, .int .i64 y4, .int .i64 y5, .int .i64 y6, .int .i64 y7, .int .i64 y8, .int .i64 y9, .int .i64 y10] 30)) W) => same_any (T2b.out.step k) D1.out D2.out)
          unfold epV at HS ⊢
          simp only at HS ⊢
          go_upto_region 7 with fail
          generalize PlusE X1 v2 (v2.alloc (.cells #[.int .i64 y0, .int .i64 y1, .int .i64 y2, .int .i64 y3, .int .i64 y4, .int .i64 y5, .int .i64 y6, .int .i64 y7, .int .i64 y8, .int .i64 y9, .int .i64 y10] 30)) = X2 at *
          generalize (v2.alloc (.cells #[.int .i64 y0, .int .i64 y1, .int .i64 y2, .int .i64 y3, .int .i64 y4, .int .i64 y5, .int .i64 y6, .int .i64 y7, .int .i64 y8, .int .i64 y9, .int .i64 y10] 30)) = u2 at *
          generalize v2.heap.size = Bxyn at *
          have p0 := Bxx.out.cell 0
          have p1 := Bxx.out.cell 1
          have p2 := Bxx.out.cell 2
          have p3 := Bxx.out.cell 3
          have p4 := Bxx.out.cell 4
          have p5 := Bxx.out.cell 5
          have p6 := Bxx.out.cell 6
          have p7 := Bxx.out.cell 7
          have p8 := Bxx.out.cell 8
          have p9 := Bxx.out.cell 9
          have p10 := Bxx.out.cell 10
          simp only [List.getElem?_cons_zero, List.getElem?_cons_succ] at p0 p1 p2 p3 p4 p5 p6 p7 p8 p9 p10
          have q0 := Bxy.out.cell 0
          have q1 := Bxy.out.cell 1
          have q2 := Bxy.out.cell 2
          have q3 := Bxy.out.cell 3
          have q4 := Bxy.out.cell 4
          have q5 := Bxy.out.cell 5
          have q6 := Bxy.out.cell 6
          have q7 := Bxy.out.cell 7
          have q8 := Bxy.out.cell 8
          have q9 := Bxy.out.cell 9
          have q10 := Bxy.out.cell 10
          simp only [List.getElem?_cons_zero, List.getElem?_cons_succ] at q0 q1 q2 q3 q4 q5 q6 q7 q8 q9 q10
          go_wp2_with fail
          (with_reducible refine (HS.out _ (Kept.refl _)).mono ?_); rintro e v3 ⟨rfl, k3⟩
          have Bxx_ := Lib.hid (Bxx.out.kept k3)
          clear Bxx
          have Bxx := Bxx_
          clear Bxx_
          have Bxy_ := Lib.hid (Bxy.out.kept k3)
          clear Bxy
          have Bxy := Bxy_
          clear Bxy_
          have T3 := Lib.hid (T2b.out.step k3)
          clear k3 T2b
          clear HS
          clear p0 p1 p2 p3 p4 p5 p6 p7 p8 p9 p10
          clear q0 q1 q2 q3 q4 q5 q6 q7 q8 q9 q10
          have p0 := Bxx.out.cell 0
          have p1 := Bxx.out.cell 1
          have p2 := Bxx.out.cell 2
          have p3 := Bxx.out.cell 3
          have p4 := Bxx.out.cell 4
          have p5 := Bxx.out.cell 5
          have p6 := Bxx.out.cell 6
          have p7 := Bxx.out.cell 7
          have p8 := Bxx.out.cell 8
          have p9 := Bxx.out.cell 9
          have p10 := Bxx.out.cell 10
          simp only [List.getElem?_cons_zero, List.getElem?_cons_succ] at p0 p1 p2 p3 p4 p5 p6 p7 p8 p9 p10
          have EX1 := Shut.mk D1.out.exp
          have EX2 := Shut.mk D2.out.exp
          simp only at EX1 EX2
          obtain ⟨S4, a4, sx4, sb4, ret4⟩ := T3.out.prog
          have HC4 := Lib.hid (PExport_any (y := ⟨x0, x1, x2, x3, x4, x5, x6, x7, x8, x9, x10⟩) (s := xp) (o := o) (r := r1) a4 N3.out EX1.out H2.out (by omega))
          rw [← HXP.out] at HC4
          unfold epV at HC4
          simp only at HC4
          have RT4 := Shut.mk ret4
          have SX4 := Shut.mk sx4
          clear a4 sx4 sb4 ret4
          generalize hb2 : exB xp o = B2 at *
          have HB2 := Shut.mk hb2
          clear hb2
          go_wp2_with fail
          (with_reducible refine HC4.out.mono ?_); rintro e v4 ⟨r4, t4, rfl, a4, hr4, d4, k4⟩
          have Bxx_ := Lib.hid (k4.blk Bxx.out (SX4.out _ XBxx.out))
          clear Bxx
          have Bxx := Bxx_
          clear Bxx_
          have Bxy_ := Lib.hid (k4.blk Bxy.out (SX4.out _ XBxy.out))
          clear Bxy
          have Bxy := Bxy_
          clear Bxy_
          have T4 := Lib.hid (RT4.out _ _ a4 k4)
          have D4 := Shut.mk d4
          clear a4 d4 k4 HC4 RT4 SX4 T3
          clear p0 p1 p2 p3 p4 p5 p6 p7 p8 p9 p10
          have q0 := Bxy.out.cell 0
          have q1 := Bxy.out.cell 1
          have q2 := Bxy.out.cell 2
          have q3 := Bxy.out.cell 3
          have q4 := Bxy.out.cell 4
          have q5 := Bxy.out.cell 5
          have q6 := Bxy.out.cell 6
          have q7 := Bxy.out.cell 7
          have q8 := Bxy.out.cell 8
          have q9 := Bxy.out.cell 9
          have q10 := Bxy.out.cell 10
          simp only [List.getElem?_cons_zero, List.getElem?_cons_succ] at q0 q1 q2 q3 q4 q5 q6 q7 q8 q9 q10
          obtain ⟨S5, a5, sx5, sb5, ret5⟩ := T4.out.doc
          have HC5 := Lib.hid (RExport_any (y := ⟨y0, y1, y2, y3, y4, y5, y6, y7, y8, y9, y10⟩) (s := xp) (o := o) (r := r2) a5 N3.out EX2.out H2.out (by omega))
          rw [← HXP.out, HB2.out] at HC5
          unfold epV at HC5
          simp only at HC5
          have RT5 := Shut.mk ret5
          have SX5 := Shut.mk sx5
          clear a5 sx5 sb5 ret5
          go_wp2_with fail
          (with_reducible refine HC5.out.mono ?_); rintro e v5 ⟨r5, t5, rfl, a5, hr5, d5, k5⟩
          have T5 := Lib.hid (RT5.out _ _ a5 k5)
          have D5 := Shut.mk d5
          clear a5 d5 k5 HC5 RT5 SX5 T4 Bxx Bxy XBxx XBxy EX1 EX2
          clear q0 q1 q2 q3 q4 q5 q6 q7 q8 q9 q10
          have hmm := @run_makeMap Tryd.prog
          have hE0 : eB true = 0 := rfl
          have hE1 : eB false = 1 := rfl
          rw [List.append_assoc] at T5
          cases B2 with
          | true =>
            rw [hE0]
            have HD := Lib.hid T5.out.dump
            go_wp2_with fail
            (with_reducible refine HD.out.mono ?_); rintro e v6 ⟨lv, rfl, ol, k6⟩
            have HBi := Lib.hid (T5.out.bis k6 ol (by have := D4.out trivial; rwa [List.append_assoc] at this) (D5.out trivial))
            clear ol HD
            go_wp2_with fail
            (with_reducible refine HBi.out.mono ?_); rintro e v6b ⟨rfl, k6b⟩
            have T6 := Lib.hid (T5.out.step k6b)
            clear k6 k6b HBi T5 D4 D5
            obtain ⟨S7, a7, sx7, sb7, ret7⟩ := T6.out.prog
            have HC7 := Lib.hid (PJoiner_any (r := r1 ++ r4) a7 N1.out (by rw [List.length_append]; omega))
            generalize hb3 : tB [i, c, x] = B3 at HC7
            have HB3 := Shut.mk hb3
            clear hb3
            have RT7 := Shut.mk ret7
            clear a7 sx7 sb7 ret7
            go_wp2_with fail
            (with_reducible refine HC7.out.mono ?_); rintro e v7 ⟨r7, t7, rfl, a7, hr7, d7, k7⟩
            have T7 := Lib.hid (RT7.out _ _ a7 k7)
            have D7 := Shut.mk d7
            clear a7 d7 k7 HC7 RT7 T6
            obtain ⟨S8, a8, sx8, sb8, ret8⟩ := T7.out.doc
            have HC8 := Lib.hid (RJoiner_any (r := r2 ++ r5) (by rw [← List.append_assoc]; exact a8) N1.out HI.out.1 HI.out.2.1 (by rw [List.length_append]; omega))
            rw [HB3.out] at HC8
            have RT8 := Shut.mk ret8
            clear a8 sx8 sb8 ret8
            go_wp2_with fail
            (with_reducible refine HC8.out.mono ?_); rintro e v8 ⟨r8, t8, rfl, a8, hr8, d8, k8⟩
            have T8 := Lib.hid (RT8.out _ _ a8 k8)
            have D8 := Shut.mk d8
            clear a8 d8 k8 HC8 RT8 T7
            cases B3 with
            | true =>
              rw [hE0]
              have HD := Lib.hid T8.out.dump
              go_wp2_with fail
              (with_reducible refine HD.out.mono ?_); rintro e v9 ⟨lv, rfl, ol, k9⟩
              have HBi := Lib.hid (T8.out.bis k9 ol (D7.out trivial) (D8.out trivial))
              clear ol HD
              go_wp2_with fail
              (with_reducible refine HBi.out.mono ?_); rintro e v10 ⟨rfl, k10⟩
              have T9 := Lib.hid (T8.out.step k10)
              clear k9 k10 HBi T8 D7 D8
              obtain ⟨S11, a11, sx11, sb11, ret11⟩ := T9.out.prog
              have HC11 := Lib.hid (PBegin_any (r := r1 ++ r4 ++ r7) (by rw [← List.append_assoc]; exact a11) N1.out (by simp only [List.length_append]; omega))
              rw [HB3.out] at HC11
              have RT11 := Shut.mk ret11
              clear a11 sx11 sb11 ret11
              go_wp2_with fail
              (with_reducible refine HC11.out.mono ?_); rintro e v11 ⟨r11, z, rfl, a11, hr11, d11, k11⟩
              have T11 := Lib.hid (RT11.out _ _ a11 k11)
              have D11 := Shut.mk d11
              clear a11 d11 k11 HC11 RT11 T9
              obtain ⟨z0, z1, z2, z3, z4, z5, z6, z7, z8, z9, z10⟩ := z
              have kb : Kept v11 (v11.alloc (.cells #[.int .i64 z0, .int .i64 z1, .int .i64 z2, .int .i64 z3, .int .i64 z4, .int .i64 z5, .int .i64 z6, .int .i64 z7, .int .i64 z8, .int .i64 z9, .int .i64 z10] 30)) := (Kept.refl v11).alloc _
              have T12 := Lib.hid (T11.out.grow kb)
              have Bz := Lib.hid (Blk.new v11 [.int .i64 z0, .int .i64 z1, .int .i64 z2, .int .i64 z3, .int .i64 z4, .int .i64 z5, .int .i64 z6, .int .i64 z7, .int .i64 z8, .int .i64 z9, .int .i64 z10] 30)
              have XBz := Shut.mk (show PlusE X2 v11 (v11.alloc (.cells #[.int .i64 z0, .int .i64 z1, .int .i64 z2, .int .i64 z3, .int .i64 z4, .int .i64 z5, .int .i64 z6, .int .i64 z7, .int .i64 z8, .int .i64 z9, .int .i64 z10] 30)) v11.heap.size from .inr ⟨Nat.le_refl _, Bz.out.lt⟩)
              clear kb T11
              obtain ⟨S13, a13, sx13, sb13, ret13⟩ := T12.out.doc
              have HC13 := Lib.hid (RBegin_any (r := r2 ++ r5 ++ r8) (by simp only [← List.append_assoc] at a13 ⊢; exact a13) N1.out HI.out.1 HI.out.2.1 (by simp only [List.length_append]; omega))
              rw [HB3.out] at HC13
              have RT13 := Shut.mk ret13
              have SX13 := Shut.mk sx13
              clear a13 sx13 sb13 ret13
              unfold epV
              simp only
              go_wp2_with fail
              generalize PlusE X2 v11 (v11.alloc (.cells #[.int .i64 z0, .int .i64 z1, .int .i64 z2, .int .i64 z3, .int .i64 z4, .int .i64 z5, .int .i64 z6, .int .i64 z7, .int .i64 z8, .int .i64 z9, .int .i64 z10] 30)) = X3 at *
              generalize (v11.alloc (.cells #[.int .i64 z0, .int .i64 z1, .int .i64 z2, .int .i64 z3, .int .i64 z4, .int .i64 z5, .int .i64 z6, .int .i64 z7, .int .i64 z8, .int .i64 z9, .int .i64 z10] 30)) = v12 at *
              generalize v11.heap.size = zb at *
              (with_reducible refine HC13.out.mono ?_); rintro e v13 ⟨r13, y', rfl, a13, hr13, d13, k13'⟩
              have Bz_ := Lib.hid (k13'.blk Bz.out (SX13.out _ XBz.out))
              clear Bz
              have Bz := Bz_
              clear Bz_
              have T13 := Lib.hid (RT13.out _ _ a13 k13')
              have D13 := Shut.mk d13
              clear a13 d13 k13' HC13 RT13 SX13 T12
              obtain ⟨t0, t1, t2, t3, t4, t5, t6, t7, t8, t9, t10⟩ := y'
              have kb : Kept v13 (v13.alloc (.cells #[.int .i64 t0, .int .i64 t1, .int .i64 t2, .int .i64 t3, .int .i64 t4, .int .i64 t5, .int .i64 t6, .int .i64 t7, .int .i64 t8, .int .i64 t9, .int .i64 t10] 30)) := (Kept.refl v13).alloc _
              have Bz_ := Lib.hid (Bz.out.kept kb)
              clear Bz
              have Bz := Bz_
              clear Bz_
              have Bt := Lib.hid (Blk.new v13 [.int .i64 t0, .int .i64 t1, .int .i64 t2, .int .i64 t3, .int .i64 t4, .int .i64 t5, .int .i64 t6, .int .i64 t7, .int .i64 t8, .int .i64 t9, .int .i64 t10] 30)
              have HS := Lib.hid (same_any (T13.out.step kb) D11.out D13.out)
              have KK := Lib.hid (K13.out.trans (T13.out.step kb).kept)
              clear kb T13 D11 D13
              unfold epV at HS ⊢
              simp only at HS ⊢
              rw [hE0] at HS
              go_upto_region 19 with fail
              generalize (v13.alloc (.cells #[.int .i64 t0, .int .i64 t1, .int .i64 t2, .int .i64 t3, .int .i64 t4, .int .i64 t5, .int .i64 t6, .int .i64 t7, .int .i64 t8, .int .i64 t9, .int .i64 t10] 30)) = v14 at *
              generalize v13.heap.size = tb at *
              have p0 := Bz.out.cell 0
              have p1 := Bz.out.cell 1
              have p2 := Bz.out.cell 2
              have p3 := Bz.out.cell 3
              have p4 := Bz.out.cell 4
              have p5 := Bz.out.cell 5
              have p6 := Bz.out.cell 6
              have p7 := Bz.out.cell 7
              have p8 := Bz.out.cell 8
              have p9 := Bz.out.cell 9
              have p10 := Bz.out.cell 10
              have q0 := Bt.out.cell 0
              have q1 := Bt.out.cell 1
              have q2 := Bt.out.cell 2
              have q3 := Bt.out.cell 3
              have q4 := Bt.out.cell 4
              have q5 := Bt.out.cell 5
              have q6 := Bt.out.cell 6
              have q7 := Bt.out.cell 7
              have q8 := Bt.out.cell 8
              have q9 := Bt.out.cell 9
              have q10 := Bt.out.cell 10
              simp only [List.getElem?_cons_zero, List.getElem?_cons_succ] at p0 p1 p2 p3 p4 p5 p6 p7 p8 p9 p10 q0 q1 q2 q3 q4 q5 q6 q7 q8 q9 q10
              clear Bz Bt
              go_wp2_with fail
              (with_reducible refine HS.out.mono ?_); rintro e v15 ⟨rfl, k15⟩
              go_wp2
              go_ret
              exact ⟨rfl, KK.out.trans k15⟩
            | false =>
              rw [hE1]
              have T9 := T8
              clear T8 D7 D8
              obtain ⟨S11, a11, sx11, sb11, ret11⟩ := T9.out.prog
              have HC11 := Lib.hid (PBegin_any (r := r1 ++ r4 ++ r7) (by rw [← List.append_assoc]; exact a11) N1.out (by simp only [List.length_append]; omega))
              rw [HB3.out] at HC11
              have RT11 := Shut.mk ret11
              clear a11 sx11 sb11 ret11
              go_wp2_with fail
              (with_reducible refine HC11.out.mono ?_); rintro e v11 ⟨r11, z, rfl, a11, hr11, d11, k11⟩
              have T11 := Lib.hid (RT11.out _ _ a11 k11)
              have D11 := Shut.mk d11
              clear a11 d11 k11 HC11 RT11 T9
              obtain ⟨z0, z1, z2, z3, z4, z5, z6, z7, z8, z9, z10⟩ := z
              have kb : Kept v11 (v11.alloc (.cells #[.int .i64 z0, .int .i64 z1, .int .i64 z2, .int .i64 z3, .int .i64 z4, .int .i64 z5, .int .i64 z6, .int .i64 z7, .int .i64 z8, .int .i64 z9, .int .i64 z10] 30)) := (Kept.refl v11).alloc _
              have T12 := Lib.hid (T11.out.grow kb)
              have Bz := Lib.hid (Blk.new v11 [.int .i64 z0, .int .i64 z1, .int .i64 z2, .int .i64 z3, .int .i64 z4, .int .i64 z5, .int .i64 z6, .int .i64 z7, .int .i64 z8, .int .i64 z9, .int .i64 z10] 30)
              have XBz := Shut.mk (show PlusE X2 v11 (v11.alloc (.cells #[.int .i64 z0, .int .i64 z1, .int .i64 z2, .int .i64 z3, .int .i64 z4, .int .i64 z5, .int .i64 z6, .int .i64 z7, .int .i64 z8, .int .i64 z9, .int .i64 z10] 30)) v11.heap.size from .inr ⟨Nat.le_refl _, Bz.out.lt⟩)
              clear kb T11
              obtain ⟨S13, a13, sx13, sb13, ret13⟩ := T12.out.doc
              have HC13 := Lib.hid (RBegin_any (r := r2 ++ r5 ++ r8) (by simp only [← List.append_assoc] at a13 ⊢; exact a13) N1.out HI.out.1 HI.out.2.1 (by simp only [List.length_append]; omega))
              rw [HB3.out] at HC13
              have RT13 := Shut.mk ret13
              have SX13 := Shut.mk sx13
              clear a13 sx13 sb13 ret13
              unfold epV
              simp only
              go_wp2_with fail
              generalize PlusE X2 v11 (v11.alloc (.cells #[.int .i64 z0, .int .i64 z1, .int .i64 z2, .int .i64 z3, .int .i64 z4, .int .i64 z5, .int .i64 z6, .int .i64 z7, .int .i64 z8, .int .i64 z9, .int .i64 z10] 30)) = X3 at *
              generalize (v11.alloc (.cells #[.int .i64 z0, .int .i64 z1, .int .i64 z2, .int .i64 z3, .int .i64 z4, .int .i64 z5, .int .i64 z6, .int .i64 z7, .int .i64 z8, .int .i64 z9, .int .i64 z10] 30)) = v12 at *
              generalize v11.heap.size = zb at *
              (with_reducible refine HC13.out.mono ?_); rintro e v13 ⟨r13, y', rfl, a13, hr13, d13, k13'⟩
              have Bz_ := Lib.hid (k13'.blk Bz.out (SX13.out _ XBz.out))
              clear Bz
              have Bz := Bz_
              clear Bz_
              have T13 := Lib.hid (RT13.out _ _ a13 k13')
              have D13 := Shut.mk d13
              clear a13 d13 k13' HC13 RT13 SX13 T12
              obtain ⟨t0, t1, t2, t3, t4, t5, t6, t7, t8, t9, t10⟩ := y'
              have kb : Kept v13 (v13.alloc (.cells #[.int .i64 t0, .int .i64 t1, .int .i64 t2, .int .i64 t3, .int .i64 t4, .int .i64 t5, .int .i64 t6, .int .i64 t7, .int .i64 t8, .int .i64 t9, .int .i64 t10] 30)) := (Kept.refl v13).alloc _
              have Bz_ := Lib.hid (Bz.out.kept kb)
              clear Bz
              have Bz := Bz_
              clear Bz_
              have Bt := Lib.hid (Blk.new v13 [.int .i64 t0, .int .i64 t1, .int .i64 t2, .int .i64 t3, .int .i64 t4, .int .i64 t5, .int .i64 t6, .int .i64 t7, .int .i64 t8, .int .i64 t9, .int .i64 t10] 30)
              have HS := Lib.hid (same_any (T13.out.step kb) D11.out D13.out)
              have KK := Lib.hid (K13.out.trans (T13.out.step kb).kept)
              clear kb T13 D11 D13
              unfold epV at HS ⊢
              simp only at HS ⊢
              rw [hE1] at HS
              go_upto_region 19 with fail
              generalize (v13.alloc (.cells #[.int .i64 t0, .int .i64 t1, .int .i64 t2, .int .i64 t3, .int .i64 t4, .int .i64 t5, .int .i64 t6, .int .i64 t7, .int .i64 t8, .int .i64 t9, .int .i64 t10] 30)) = v14 at *
              generalize v13.heap.size = tb at *
              have p0 := Bz.out.cell 0
              have p1 := Bz.out.cell 1
              have p2 := Bz.out.cell 2
              have p3 := Bz.out.cell 3
              have p4 := Bz.out.cell 4
              have p5 := Bz.out.cell 5
              have p6 := Bz.out.cell 6
              have p7 := Bz.out.cell 7
              have p8 := Bz.out.cell 8
              have p9 := Bz.out.cell 9
              have p10 := Bz.out.cell 10
              have q0 := Bt.out.cell 0
              have q1 := Bt.out.cell 1
              have q2 := Bt.out.cell 2
              have q3 := Bt.out.cell 3
              have q4 := Bt.out.cell 4
              have q5 := Bt.out.cell 5
              have q6 := Bt.out.cell 6
              have q7 := Bt.out.cell 7
              have q8 := Bt.out.cell 8
              have q9 := Bt.out.cell 9
              have q10 := Bt.out.cell 10
              simp only [List.getElem?_cons_zero, List.getElem?_cons_succ] at p0 p1 p2 p3 p4 p5 p6 p7 p8 p9 p10 q0 q1 q2 q3 q4 q5 q6 q7 q8 q9 q10
              clear Bz Bt
              go_wp2_with fail
              (with_reducible refine HS.out.mono ?_); rintro e v15 ⟨rfl, k15⟩
              go_wp2
              go_ret
              exact ⟨rfl, KK.out.trans k15⟩
          | false =>
            rw [hE1]
            have T6 := T5
            clear T5 D4 D5
            obtain ⟨S7, a7, sx7, sb7, ret7⟩ := T6.out.prog
            have HC7 := Lib.hid (PJoiner_any (r := r1 ++ r4) a7 N1.out (by rw [List.length_append]; omega))
            generalize hb3 : tB [i, c, x] = B3 at HC7
            have HB3 := Shut.mk hb3
            clear hb3
            have RT7 := Shut.mk ret7
            clear a7 sx7 sb7 ret7
            go_wp2_with fail
            (with_reducible refine HC7.out.mono ?_); rintro e v7 ⟨r7, t7, rfl, a7, hr7, d7, k7⟩
            have T7 := Lib.hid (RT7.out _ _ a7 k7)
            have D7 := Shut.mk d7
            clear a7 d7 k7 HC7 RT7 T6
            obtain ⟨S8, a8, sx8, sb8, ret8⟩ := T7.out.doc
            have HC8 := Lib.hid (RJoiner_any (r := r2 ++ r5) (by rw [← List.append_assoc]; exact a8) N1.out HI.out.1 HI.out.2.1 (by rw [List.length_append]; omega))
            rw [HB3.out] at HC8
            have RT8 := Shut.mk ret8
            clear a8 sx8 sb8 ret8
            go_wp2_with fail
            (with_reducible refine HC8.out.mono ?_); rintro e v8 ⟨r8, t8, rfl, a8, hr8, d8, k8⟩
            have T8 := Lib.hid (RT8.out _ _ a8 k8)
            have D8 := Shut.mk d8
            clear a8 d8 k8 HC8 RT8 T7
            cases B3 with
            | true =>
              rw [hE0]
              have HD := Lib.hid T8.out.dump
              go_wp2_with fail
              (with_reducible refine HD.out.mono ?_); rintro e v9 ⟨lv, rfl, ol, k9⟩
              have HBi := Lib.hid (T8.out.bis k9 ol (D7.out trivial) (D8.out trivial))
              clear ol HD
              go_wp2_with fail
              (with_reducible refine HBi.out.mono ?_); rintro e v10 ⟨rfl, k10⟩
              have T9 := Lib.hid (T8.out.step k10)
              clear k9 k10 HBi T8 D7 D8
              obtain ⟨S11, a11, sx11, sb11, ret11⟩ := T9.out.prog
              have HC11 := Lib.hid (PBegin_any (r := r1 ++ r4 ++ r7) (by rw [← List.append_assoc]; exact a11) N1.out (by simp only [List.length_append]; omega))
              rw [HB3.out] at HC11
              have RT11 := Shut.mk ret11
              clear a11 sx11 sb11 ret11
              go_wp2_with fail
              (with_reducible refine HC11.out.mono ?_); rintro e v11 ⟨r11, z, rfl, a11, hr11, d11, k11⟩
              have T11 := Lib.hid (RT11.out _ _ a11 k11)
              have D11 := Shut.mk d11
              clear a11 d11 k11 HC11 RT11 T9
              obtain ⟨z0, z1, z2, z3, z4, z5, z6, z7, z8, z9, z10⟩ := z
              have kb : Kept v11 (v11.alloc (.cells #[.int .i64 z0, .int .i64 z1, .int .i64 z2, .int .i64 z3, .int .i64 z4, .int .i64 z5, .int .i64 z6, .int .i64 z7, .int .i64 z8, .int .i64 z9, .int .i64 z10] 30)) := (Kept.refl v11).alloc _
              have T12 := Lib.hid (T11.out.grow kb)
              have Bz := Lib.hid (Blk.new v11 [.int .i64 z0, .int .i64 z1, .int .i64 z2, .int .i64 z3, .int .i64 z4, .int .i64 z5, .int .i64 z6, .int .i64 z7, .int .i64 z8, .int .i64 z9, .int .i64 z10] 30)
              have XBz := Shut.mk (show PlusE X2 v11 (v11.alloc (.cells #[.int .i64 z0, .int .i64 z1, .int .i64 z2, .int .i64 z3, .int .i64 z4, .int .i64 z5, .int .i64 z6, .int .i64 z7, .int .i64 z8, .int .i64 z9, .int .i64 z10] 30)) v11.heap.size from .inr ⟨Nat.le_refl _, Bz.out.lt⟩)
              clear kb T11
              obtain ⟨S13, a13, sx13, sb13, ret13⟩ := T12.out.doc
              have HC13 := Lib.hid (RBegin_any (r := r2 ++ r5 ++ r8) (by simp only [← List.append_assoc] at a13 ⊢; exact a13) N1.out HI.out.1 HI.out.2.1 (by simp only [List.length_append]; omega))
              rw [HB3.out] at HC13
              have RT13 := Shut.mk ret13
              have SX13 := Shut.mk sx13
              clear a13 sx13 sb13 ret13
              unfold epV
              simp only
              go_wp2_with fail
              generalize PlusE X2 v11 (v11.alloc (.cells #[.int .i64 z0, .int .i64 z1, .int .i64 z2, .int .i64 z3, .int .i64 z4, .int .i64 z5, .int .i64 z6, .int .i64 z7, .int .i64 z8, .int .i64 z9, .int .i64 z10] 30)) = X3 at *
              generalize (v11.alloc (.cells #[.int .i64 z0, .int .i64 z1, .int .i64 z2, .int .i64 z3, .int .i64 z4, .int .i64 z5, .int .i64 z6, .int .i64 z7, .int .i64 z8, .int .i64 z9, .int .i64 z10] 30)) = v12 at *
              generalize v11.heap.size = zb at *
              (with_reducible refine HC13.out.mono ?_); rintro e v13 ⟨r13, y', rfl, a13, hr13, d13, k13'⟩
              have Bz_ := Lib.hid (k13'.blk Bz.out (SX13.out _ XBz.out))
              clear Bz
              have Bz := Bz_
              clear Bz_
              have T13 := Lib.hid (RT13.out _ _ a13 k13')
              have D13 := Shut.mk d13
              clear a13 d13 k13' HC13 RT13 SX13 T12
              obtain ⟨t0, t1, t2, t3, t4, t5, t6, t7, t8, t9, t10⟩ := y'
              have kb : Kept v13 (v13.alloc (.cells #[.int .i64 t0, .int .i64 t1, .int .i64 t2, .int .i64 t3, .int .i64 t4, .int .i64 t5, .int .i64 t6, .int .i64 t7, .int .i64 t8, .int .i64 t9, .int .i64 t10] 30)) := (Kept.refl v13).alloc _
              have Bz_ := Lib.hid (Bz.out.kept kb)
              clear Bz
              have Bz := Bz_
              clear Bz_
              have Bt := Lib.hid (Blk.new v13 [.int .i64 t0, .int .i64 t1, .int .i64 t2, .int .i64 t3, .int .i64 t4, .int .i64 t5, .int .i64 t6, .int .i64 t7, .int .i64 t8, .int .i64 t9, .int .i64 t10] 30)
              have HS := Lib.hid (same_any (T13.out.step kb) D11.out D13.out)
              have KK := Lib.hid (K13.out.trans (T13.out.step kb).kept)
              clear kb T13 D11 D13
              unfold epV at HS ⊢
              simp only at HS ⊢
              rw [hE0] at HS
              go_upto_region 19 with fail
              generalize (v13.alloc (.cells #[.int .i64 t0, .int .i64 t1, .int .i64 t2, .int .i64 t3, .int .i64 t4, .int .i64 t5, .int .i64 t6, .int .i64 t7, .int .i64 t8, .int .i64 t9, .int .i64 t10] 30)) = v14 at *
              generalize v13.heap.size = tb at *
              have p0 := Bz.out.cell 0
              have p1 := Bz.out.cell 1
              have p2 := Bz.out.cell 2
              have p3 := Bz.out.cell 3
              have p4 := Bz.out.cell 4
              have p5 := Bz.out.cell 5
              have p6 := Bz.out.cell 6
              have p7 := Bz.out.cell 7
              have p8 := Bz.out.cell 8
              have p9 := Bz.out.cell 9
              have p10 := Bz.out.cell 10
              have q0 := Bt.out.cell 0
              have q1 := Bt.out.cell 1
              have q2 := Bt.out.cell 2
              have q3 := Bt.out.cell 3
              have q4 := Bt.out.cell 4
              have q5 := Bt.out.cell 5
              have q6 := Bt.out.cell 6
              have q7 := Bt.out.cell 7
              have q8 := Bt.out.cell 8
              have q9 := Bt.out.cell 9
              have q10 := Bt.out.cell 10
              simp only [List.getElem?_cons_zero, List.getElem?_cons_succ] at p0 p1 p2 p3 p4 p5 p6 p7 p8 p9 p10 q0 q1 q2 q3 q4 q5 q6 q7 q8 q9 q10
              clear Bz Bt
              go_wp2_with fail
              (with_reducible refine HS.out.mono ?_); rintro e v15 ⟨rfl, k15⟩
              go_wp2
              go_ret
              exact ⟨rfl, KK.out.trans k15⟩
            | false =>
              rw [hE1]
              have T9 := T8
              clear T8 D7 D8
              obtain ⟨S11, a11, sx11, sb11, ret11⟩ := T9.out.prog
              have HC11 := Lib.hid (PBegin_any (r := r1 ++ r4 ++ r7) (by rw [← List.append_assoc]; exact a11) N1.out (by simp only [List.length_append]; omega))
              rw [HB3.out] at HC11
              have RT11 := Shut.mk ret11
              clear a11 sx11 sb11 ret11
              go_wp2_with fail
              (with_reducible refine HC11.out.mono ?_); rintro e v11 ⟨r11, z, rfl, a11, hr11, d11, k11⟩
              have T11 := Lib.hid (RT11.out _ _ a11 k11)
              have D11 := Shut.mk d11
              clear a11 d11 k11 HC11 RT11 T9
              obtain ⟨z0, z1, z2, z3, z4, z5, z6, z7, z8, z9, z10⟩ := z
              have kb : Kept v11 (v11.alloc (.cells #[.int .i64 z0, .int .i64 z1, .int .i64 z2, .int .i64 z3, .int .i64 z4, .int .i64 z5, .int .i64 z6, .int .i64 z7, .int .i64 z8, .int .i64 z9, .int .i64 z10] 30)) := (Kept.refl v11).alloc _
              have T12 := Lib.hid (T11.out.grow kb)
              have Bz := Lib.hid (Blk.new v11 [.int .i64 z0, .int .i64 z1, .int .i64 z2, .int .i64 z3, .int .i64 z4, .int .i64 z5, .int .i64 z6, .int .i64 z7, .int .i64 z8, .int .i64 z9, .int .i64 z10] 30)
              have XBz := Shut.mk (show PlusE X2 v11 (v11.alloc (.cells #[.int .i64 z0, .int .i64 z1, .int .i64 z2, .int .i64 z3, .int .i64 z4, .int .i64 z5, .int .i64 z6, .int .i64 z7, .int .i64 z8, .int .i64 z9, .int .i64 z10] 30)) v11.heap.size from .inr ⟨Nat.le_refl _, Bz.out.lt⟩)
              clear kb T11
              obtain ⟨S13, a13, sx13, sb13, ret13⟩ := T12.out.doc
              have HC13 := Lib.hid (RBegin_any (r := r2 ++ r5 ++ r8) (by simp only [← List.append_assoc] at a13 ⊢; exact a13) N1.out HI.out.1 HI.out.2.1 (by simp only [List.length_append]; omega))
              rw [HB3.out] at HC13
              have RT13 := Shut.mk ret13
              have SX13 := Shut.mk sx13
              clear a13 sx13 sb13 ret13
              unfold epV
              simp only
              go_wp2_with fail
              generalize PlusE X2 v11 (v11.alloc (.cells #[.int .i64 z0, .int .i64 z1, .int .i64 z2, .int .i64 z3, .int .i64 z4, .int .i64 z5, .int .i64 z6, .int .i64 z7, .int .i64 z8, .int .i64 z9, .int .i64 z10] 30)) = X3 at *
              generalize (v11.alloc (.cells #[.int .i64 z0, .int .i64 z1, .int .i64 z2, .int .i64 z3, .int .i64 z4, .int .i64 z5, .int .i64 z6, .int .i64 z7, .int .i64 z8, .int .i64 z9, .int .i64 z10] 30)) = v12 at *
              generalize v11.heap.size = zb at *
              (with_reducible refine HC13.out.mono ?_); rintro e v13 ⟨r13, y', rfl, a13, hr13, d13, k13'⟩
              have Bz_ := Lib.hid (k13'.blk Bz.out (SX13.out _ XBz.out))
              clear Bz
              have Bz := Bz_
              clear Bz_
              have T13 := Lib.hid (RT13.out _ _ a13 k13')
              have D13 := Shut.mk d13
              clear a13 d13 k13' HC13 RT13 SX13 T12
              obtain ⟨t0, t1, t2, t3, t4, t5, t6, t7, t8, t9, t10⟩ := y'
              have kb : Kept v13 (v13.alloc (.cells #[.int .i64 t0, .int .i64 t1, .int .i64 t2, .int .i64 t3, .int .i64 t4, .int .i64 t5, .int .i64 t6, .int .i64 t7, .int .i64 t8, .int .i64 t9, .int .i64 t10] 30)) := (Kept.refl v13).alloc _
              have Bz_ := Lib.hid (Bz.out.kept kb)
              clear Bz
              have Bz := Bz_
              clear Bz_
              have Bt := Lib.hid (Blk.new v13 [.int .i64 t0, .int .i64 t1, .int .i64 t2, .int .i64 t3, .int .i64 t4, .int .i64 t5, .int .i64 t6, .int .i64 t7, .int .i64 t8, .int .i64 t9, .int .i64 t10] 30)
              have HS := Lib.hid (same_any (T13.out.step kb) D11.out D13.out)
              have KK := Lib.hid (K13.out.trans (T13.out.step kb).kept)
              clear kb T13 D11 D13
              unfold epV at HS ⊢
              simp only at HS ⊢
              rw [hE1] at HS
              go_upto_region 19 with fail
              generalize (v13.alloc (.cells #[.int .i64 t0, .int .i64 t1, .int .i64 t2, .int .i64 t3, .int .i64 t4, .int .i64 t5, .int .i64 t6, .int .i64 t7, .int .i64 t8, .int .i64 t9, .int .i64 t10] 30)) = v14 at *
              generalize v13.heap.size = tb at *
              have p0 := Bz.out.cell 0
              have p1 := Bz.out.cell 1
              have p2 := Bz.out.cell 2
              have p3 := Bz.out.cell 3
              have p4 := Bz.out.cell 4
              have p5 := Bz.out.cell 5
              have p6 := Bz.out.cell 6
              have p7 := Bz.out.cell 7
              have p8 := Bz.out.cell 8
              have p9 := Bz.out.cell 9
              have p10 := Bz.out.cell 10
              have q0 := Bt.out.cell 0
              have q1 := Bt.out.cell 1
              have q2 := Bt.out.cell 2
              have q3 := Bt.out.cell 3
              have q4 := Bt.out.cell 4
              have q5 := Bt.out.cell 5
              have q6 := Bt.out.cell 6
              have q7 := Bt.out.cell 7
              have q8 := Bt.out.cell 8
              have q9 := Bt.out.cell 9
              have q10 := Bt.out.cell 10
              simp only [List.getElem?_cons_zero, List.getElem?_cons_succ] at p0 p1 p2 p3 p4 p5 p6 p7 p8 p9 p10 q0 q1 q2 q3 q4 q5 q6 q7 q8 q9 q10
              clear Bz Bt
              go_wp2_with fail
              (with_reducible refine HS.out.mono ?_); rintro e v15 ⟨rfl, k15⟩
              go_wp2
              go_ret
              exact ⟨rfl, KK.out.trans k15⟩
    · have d2 : (300 : Int) < (P.size : Int) := by omega
      clear h1 h2
      go_enter Tryd.func3, Tryd.ntmps3
      go_wp2_with fail
      (with_reducible refine (live11_any HT.out).mono ?_); rintro e w1 ⟨rfl, k1⟩
      go_wp2
      go_ret
      exact ⟨rfl, k1⟩
  · have d1 : (50 : Int) < (l.length : Int) := by omega
    clear h1
    go_enter Tryd.func3, Tryd.ntmps3
    go_wp2_with fail
    (with_reducible refine (live11_any HT.out).mono ?_); rintro e w1 ⟨rfl, k1⟩
    go_wp2
    go_ret
    exact ⟨rfl, k1⟩
end Go.Proofs.YtekieioffaafaaaDoor
end
