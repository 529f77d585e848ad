/- Texts of one proof, put together: TsY. -/
import Derived.Test.YtdjfdobcjakmhaaDoorMg07
import Derived.Test.YtdjfdobcjakmhaaDoorMg08
section
/- The walk of TranscriptBack (written by gen_tsy.py). -/
set_option linter.unusedSimpArgs false
set_option linter.unusedVariables false
namespace Go.Proofs.YtdjfdobcjakmhaaDoor
open Go.RowKit Go.Maps

theorem ctx_is {es : List Nd} (hg : Good es) {u i n t c z : Int} {I T C E : Tr} (h : Den (ctxT I (textT (Lib.itoa n)) T C E) es u) (di : Den I es i) (dt : Den T es t) (dc : Den C es c) (de : Den E es z) (h0 : 0 ≤ n) (h9 : n < 1000000000) : CtxIs es u i n t c z := by
  obtain ⟨l, hi, hl⟩ := den_inv hg h
  obtain ⟨g, l, rfl, dg, hl⟩ := hl.cons_inv
  obtain ⟨a, l, rfl, da, hl⟩ := hl.cons_inv
  obtain ⟨x, l, rfl, dx, hl⟩ := hl.cons_inv
  obtain ⟨b, l, rfl, db, hl⟩ := hl.cons_inv
  obtain ⟨c', l, rfl, dc', hl⟩ := hl.cons_inv
  obtain ⟨d, l, rfl, dd, hl⟩ := hl.cons_inv
  obtain rfl := hl.nil_inv
  obtain rfl := da.same hg di
  obtain rfl := db.same hg dt
  obtain rfl := dc'.same hg dc
  obtain rfl := dd.same hg de
  obtain ⟨lg, ig, hlg⟩ := den_inv hg dg
  obtain rfl := hlg.nil_inv
  obtain ⟨lx, jx, hlx⟩ := den_inv hg dx
  obtain rfl := hlx.nil_inv
  refine ⟨g, x, n.toNat, h.1, ?_, ?_, ?_, ?_, ?_, ?_, by omega, by omega⟩
  · unfold ndI; rw [hi.eq]
  · unfold ndI; rw [hi.eq]
  · unfold ndI; rw [ig.eq]
  · unfold ndI; rw [ig.eq]
  · unfold ndI; rw [jx.eq]
  · unfold ndI; rw [jx.eq, itoa_dec h0]
/-- Whether Context answers, and the tree of what it answers, of any arena. -/
def ctxB (ds : List Nd) (i n t c z : Int) : Bool := decide (0 ≤ n) && termsB ds [i, t, c, z]
abbrev QD (ds : List Nd) (i n t c z : Int) : List Nd → Int → Prop := Den (ctxT (den ds i) (textT (Lib.itoa n)) (den ds t) (den ds c) (den ds z))
theorem ctxB_is {ds : List Nd} {i n t c z : Int} (h : ctxB ds i n t c z = true) : 0 ≤ n ∧ IsT ds i ∧ IsT ds t ∧ IsT ds c ∧ IsT ds z := by
  unfold ctxB termsB at h
  simp only [List.all_cons, List.all_nil, Bool.and_true, Bool.and_eq_true, decide_eq_true_eq] at h
  exact h
theorem PContext_of {w0 : World} {S : Nat → Prop} {w : World} {p : Value} {ds : List Nd} {i n t c z : Int} (h : At w0 S w p ds) (jn : I64 n) (hl : ds.length ≤ 1000) :
    Calls Tryd.prog 19 #[p, .int .i64 i, .int .i64 n, .int .i64 t, .int .i64 c, .int .i64 z] w (PA w0 S w p ds 3 (ctxB ds i n t c z) (QD ds i n t c z)) := by
  by_cases hn : 0 ≤ n
  · cases hb : ctxB ds i n t c z with
    | true =>
      obtain ⟨_, ti, tt, tc, tz⟩ := ctxB_is hb
      exact (PContext_ok h hn jn.2 ⟨ti, rfl⟩ ⟨tt, rfl⟩ ⟨tc, rfl⟩ ⟨tz, rfl⟩ (by omega)).mono fun e w' q => PA.of_ok q (by decide)
    | false =>
      refine (PContext_no h hn ?_).mono fun e w' q => PA.of_no q (Nat.zero_le _)
      unfold ctxB at hb
      rw [decide_eq_true hn, Bool.true_and] at hb
      exact hb
  · rw [show ctxB ds i n t c z = false by unfold ctxB; rw [decide_eq_false hn, Bool.false_and]]
    exact (PContext_neg h (by omega)).mono fun e w' q => PA.of_no q (Nat.zero_le _)
/-- Two contexts in one arena: the same, just if their parts are. -/
theorem ctx_eq {es : List Nd} (hg : Good es) {u v a0 a1 a2 a3 a4 b0 b1 b2 b3 b4 : Int} {T0 T2 T3 T4 U0 U2 U3 U4 : Tr} (hu : Den (ctxT T0 (textT (Lib.itoa a1)) T2 T3 T4) es u) (hv : Den (ctxT U0 (textT (Lib.itoa b1)) U2 U3 U4) es v)
    (d0 : Den T0 es a0) (d2 : Den T2 es a2) (d3 : Den T3 es a3) (d4 : Den T4 es a4) (e0 : Den U0 es b0) (e2 : Den U2 es b2) (e3 : Den U3 es b3) (e4 : Den U4 es b4) (k0 : 0 ≤ a1) (k9 : a1 < 1000000000) (m0 : 0 ≤ b1) (m9 : b1 < 1000000000) :
    decide (u = v) = ((a0 == b0) && ((a1 == b1) && ((a2 == b2) && ((a3 == b3) && ((a4 == b4) && true))))) := by
  have c1 := ctx_is hg hu d0 d2 d3 d4 k0 k9
  have c2 := ctx_is hg hv e0 e2 e3 e4 m0 m9
  by_cases h : u = v
  · subst h
    obtain ⟨rfl, rfl, rfl, rfl, rfl⟩ := c1.one c2
    simp
  · rw [decide_eq_false h]
    symm
    rw [Bool.eq_false_iff]
    intro hh
    simp only [Bool.and_eq_true, beq_iff_eq, and_true] at hh
    obtain ⟨rfl, rfl, rfl, rfl, rfl⟩ := hh
    obtain rfl := d0.2.symm.trans e0.2
    obtain rfl := d2.2.symm.trans e2.2
    obtain rfl := d3.2.symm.trans e3.2
    obtain rfl := d4.2.symm.trans e4.2
    exact h (hu.same hg hv)
set_option maxHeartbeats 16000000 in
set_option maxRecDepth 100000 in
theorem back12_walk {w : World} {a0 a1 a2 a3 a4 b0 b1 b2 b3 b4 : Int} (oa : I64 a0 ∧ I64 a1 ∧ I64 a2 ∧ I64 a3 ∧ I64 a4) (ob : I64 b0 ∧ I64 b1 ∧ I64 b2 ∧ I64 b3 ∧ I64 b4) (ht : Tabs w) (hte : TabsE w) :
    Calls Tryd.prog 6 #[.agg #[.int .i64 a0, .int .i64 a1, .int .i64 a2, .int .i64 a3, .int .i64 a4], .agg #[.int .i64 b0, .int .i64 b1, .int .i64 b2, .int .i64 b3, .int .i64 b4]] w fun e w' => e = .returned (.bool true) ∧ Kept w w' := by
  have k0 : Kept w (w.alloc (.cells #[.int .i64 a0, .int .i64 a1, .int .i64 a2, .int .i64 a3, .int .i64 a4] 44)) := (Kept.refl w).alloc _
  have k0' : Kept (w.alloc (.cells #[.int .i64 a0, .int .i64 a1, .int .i64 a2, .int .i64 a3, .int .i64 a4] 44)) ((w.alloc (.cells #[.int .i64 a0, .int .i64 a1, .int .i64 a2, .int .i64 a3, .int .i64 a4] 44)).alloc (.cells #[.int .i64 b0, .int .i64 b1, .int .i64 b2, .int .i64 b3, .int .i64 b4] 44)) := (Kept.refl _).alloc _
  have bA := (Blk.new w [.int .i64 a0, .int .i64 a1, .int .i64 a2, .int .i64 a3, .int .i64 a4] 44).kept k0'
  have bB := Blk.new (w.alloc (.cells #[.int .i64 a0, .int .i64 a1, .int .i64 a2, .int .i64 a3, .int .i64 a4] 44)) [.int .i64 b0, .int .i64 b1, .int .i64 b2, .int .i64 b3, .int .i64 b4] 44
  have hsz : (w.alloc (.cells #[.int .i64 a0, .int .i64 a1, .int .i64 a2, .int .i64 a3, .int .i64 a4] 44)).heap.size = w.heap.size + 1 := World.size_alloc _ _
  rw [hsz] at bB
  have K0 := Lib.hid (k0.trans k0')
  have HT := Lib.hid (ht.kept (k0.trans k0'))
  have HTE := Lib.hid (hte.kept (k0.trans k0'))
  have OA := Shut.mk oa
  have OB := Shut.mk ob
  clear ht hte oa ob k0 k0' hsz
  go_enter Tryd.func6, Tryd.ntmps6
  go_wp2_with fail
  generalize (w.alloc (.cells #[.int .i64 a0, .int .i64 a1, .int .i64 a2, .int .i64 a3, .int .i64 a4] 44)).alloc (.cells #[.int .i64 b0, .int .i64 b1, .int .i64 b2, .int .i64 b3, .int .i64 b4] 44) = wa at *
  generalize hga : w.heap.size = ga at *
  clear hga
  have hab : ga + 1 ≠ ga := by omega
  generalize ga + 1 = gb at *
  (with_reducible refine (live12_any HT.out HTE.out).mono ?_); rintro e w1 ⟨rfl, k1⟩
  have BA := Lib.hid (bA.kept k1)
  have BB := Lib.hid (bB.kept k1)
  have K1 := Lib.hid (K0.out.trans k1)
  have HT1 := Lib.hid (HT.out.kept k1)
  have HTE1 := Lib.hid (HTE.out.kept k1)
  clear bA bB k1 K0 HT HTE
  go_wp2_with fail
  (with_reducible refine (two12_any HT1.out).mono ?_); rintro e w4 ⟨p, q, pa, rfl, rfl, F, G, hA, hR, hFG, hF, hG, k4⟩
  have a4' := At.mkA hA hF k4 HT1.out
  have A := Lib.hid a4'
  have hS : Shut (ga < w1.heap.size ∧ gb < w1.heap.size) := Shut.mk ⟨BA.out.lt, BB.out.lt⟩
  have BA := Lib.hid (BA.out.kept k4)
  have BB := Lib.hid (BB.out.kept k4)
  have SA : Shut ((fun b => b < w1.heap.size) ga) := Shut.mk hS.out.1
  have SB : Shut ((fun b => b < w1.heap.size) gb) := Shut.mk hS.out.2
  clear hS hA hR hFG hF hG k4 a4'
  generalize (fun b => b < w1.heap.size : Nat → Prop) = S at *
  have HP1 := Lib.hid (PContext_of (i := a0) (n := a1) (t := a2) (c := a3) (z := a4) A.out OA.out.2.1 (by rw [atomsL_len]; decide))
  have ca0 := BA.out.cell 0
  have ca1 := BA.out.cell 1
  have ca2 := BA.out.cell 2
  have ca3 := BA.out.cell 3
  have ca4 := BA.out.cell 4
  simp only [List.getElem?_cons_succ, List.getElem?_cons_zero] at ca0 ca1 ca2 ca3 ca4
  go_wp2_with fail
  (with_reducible refine HP1.out.mono ?_); rintro e v1 ⟨r1, x, rfl, x1, l1, q1, z1, kk1⟩
  have X1 := Lib.hid x1
  have Q1 := Shut.mk q1
  have BA := Lib.hid (kk1.blk BA.out SA.out)
  have BB := Lib.hid (kk1.blk BB.out SB.out)
  have L1 := Shut.mk l1
  clear HP1 x1 q1 z1 kk1 l1 ca0 ca1 ca2 ca3 ca4
  have HP2 := Lib.hid (PContext_of (i := b0) (n := b1) (t := b2) (c := b3) (z := b4) X1.out OB.out.2.1 (by rw [List.length_append, atomsL_len]; have := L1.out; omega))
  have HB1 := Shut.mk (fun h => ctxB_is (ds := atomsL 10) (i := a0) (n := a1) (t := a2) (c := a3) (z := a4) h)
  have HB2 := Shut.mk (fun h => ctxB_is (ds := atomsL 10 ++ r1) (i := b0) (n := b1) (t := b2) (c := b3) (z := b4) h)
  generalize ctxB (atomsL 10) a0 a1 a2 a3 a4 = e1 at *
  generalize ctxB (atomsL 10 ++ r1) b0 b1 b2 b3 b4 = e2 at *
  have cb0 := BB.out.cell 0
  have cb1 := BB.out.cell 1
  have cb2 := BB.out.cell 2
  have cb3 := BB.out.cell 3
  have cb4 := BB.out.cell 4
  simp only [List.getElem?_cons_succ, List.getElem?_cons_zero] at cb0 cb1 cb2 cb3 cb4
  go_wp2_with fail
  (with_reducible refine HP2.out.mono ?_); rintro e v2 ⟨r2, y, rfl, x2, l2, q2, z2, kk2⟩
  have X2 := Lib.hid x2
  have Q2 := Shut.mk q2
  have BA := Lib.hid (kk2.blk BA.out SA.out)
  have BB := Lib.hid (kk2.blk BB.out SB.out)
  have KK := Lib.hid (K1.out.trans x2.kept)
  clear HP2 x2 q2 z2 kk2 l2 cb0 cb1 cb2 cb3 cb4 L1 X1 SA SB A
  have ca0 := BA.out.cell 0
  have ca1 := BA.out.cell 1
  have ca2 := BA.out.cell 2
  have ca3 := BA.out.cell 3
  have ca4 := BA.out.cell 4
  simp only [List.getElem?_cons_succ, List.getElem?_cons_zero] at ca0 ca1 ca2 ca3 ca4
  have cb0 := BB.out.cell 0
  have cb1 := BB.out.cell 1
  have cb2 := BB.out.cell 2
  have cb3 := BB.out.cell 3
  have cb4 := BB.out.cell 4
  simp only [List.getElem?_cons_succ, List.getElem?_cons_zero] at cb0 cb1 cb2 cb3 cb4
  cases e1 with
  | false =>
    unfold eB
    go_wp2
    all_goals
      go_ret
      exact ⟨rfl, KK.out⟩
  | true =>
    cases e2 with
    | false =>
      unfold eB
      go_wp2
      all_goals
        go_ret
        exact ⟨rfl, KK.out⟩
    | true =>
      unfold eB
      by_cases h9 : a1 < 1000000000
      · have d9 : decide (a1 ≥ 1000000000) = false := decide_eq_false (by omega)
        have d9' : decide (1000000000 ≤ a1) = false := decide_eq_false (by omega)
        by_cases m9 : b1 < 1000000000
        · have f9 : decide (b1 ≥ 1000000000) = false := decide_eq_false (by omega)
          have f9' : decide (1000000000 ≤ b1) = false := decide_eq_false (by omega)
          obtain ⟨k0, ta0, ta2, ta3, ta4⟩ := HB1.out rfl
          obtain ⟨m0, tb0, tb2, tb3, tb4⟩ := HB2.out rfl
          have hg := X2.out.good
          have D1 := (Q1.out rfl).more r2
          have D2 := Q2.out rfl
          have C1 := Shut.mk (ctx_is hg D1 ((Den.more ⟨ta0, rfl⟩ r1).more r2) ((Den.more ⟨ta2, rfl⟩ r1).more r2) ((Den.more ⟨ta3, rfl⟩ r1).more r2) ((Den.more ⟨ta4, rfl⟩ r1).more r2) k0 h9)
          have C2 := Shut.mk (ctx_is hg D2 (Den.more ⟨tb0, rfl⟩ r2) (Den.more ⟨tb2, rfl⟩ r2) (Den.more ⟨tb3, rfl⟩ r2) (Den.more ⟨tb4, rfl⟩ r2) m0 m9)
          have hE := ctx_eq hg D1 D2 ((Den.more ⟨ta0, rfl⟩ r1).more r2) ((Den.more ⟨ta2, rfl⟩ r1).more r2) ((Den.more ⟨ta3, rfl⟩ r1).more r2) ((Den.more ⟨ta4, rfl⟩ r1).more r2) (Den.more ⟨tb0, rfl⟩ r2) (Den.more ⟨tb2, rfl⟩ r2) (Den.more ⟨tb3, rfl⟩ r2) (Den.more ⟨tb4, rfl⟩ r2) k0 h9 m0 m9
          obtain ⟨F2, hF2, _⟩ := X2.out.ar
          have HTX := Lib.hid X2.out.tabs
          have HTY := Lib.hid (HTE1.out.kept X2.out.kept)
          have HR1 := Lib.hid (PRead_any hF2 HTX.out HTY.out x)
          have HR2 := Lib.hid (fun W (k : Kept v2 W) => PRead_any (ArG.kept hF2 k) (HTX.out.kept k) (HTY.out.kept k) y)
          clear k0 ta0 ta2 ta3 ta4 m0 tb0 tb2 tb3 tb4 hg D1 D2 hF2 h9 m9
          have hcc := fun W => cmp5 W a0 a1 a2 a3 a4 b0 b1 b2 b3 b4
          rw [← hE] at hcc
          have hca := cmp5_same a0 a1 a2 a3 a4
          have hcb := cmp5_same b0 b1 b2 b3 b4
          have hgd := grd5
          clear hE
          go_wp2_with fail
          (with_reducible refine HR1.out.mono ?_); rintro e v3 ⟨va, ea, rfl, hq, k3⟩
          obtain ⟨rfl, rfl⟩ := hq.one (.inl ⟨a0, a1, a2, a3, a4, C1.out, rfl, rfl⟩)
          clear hq
          unfold arr5
          have b5 := Blk.new v3 [.int .i64 a0, .int .i64 a1, .int .i64 a2, .int .i64 a3, .int .i64 a4] 44
          have k5 : Kept v3 (v3.alloc (.cells #[.int .i64 a0, .int .i64 a1, .int .i64 a2, .int .i64 a3, .int .i64 a4] 44)) := (Kept.refl v3).alloc _
          have HR5 := Lib.hid (HR2.out _ (k3.trans k5))
          have BA5 := Lib.hid (BA.out.kept (k3.trans k5))
          have BB5 := Lib.hid (BB.out.kept (k3.trans k5))
          have KK5 := Lib.hid (KK.out.trans (k3.trans k5))
          clear HR1 HR2 BA BB KK k3 k5
          go_wp2_with fail
          generalize v3.alloc (.cells #[.int .i64 a0, .int .i64 a1, .int .i64 a2, .int .i64 a3, .int .i64 a4] 44) = v5 at *
          generalize v3.heap.size = bx at *
          (with_reducible refine HR5.out.mono ?_); rintro e v6 ⟨vb, eb, rfl, hq, k6⟩
          obtain ⟨rfl, rfl⟩ := hq.one (.inl ⟨b0, b1, b2, b3, b4, C2.out, rfl, rfl⟩)
          clear hq
          unfold arr5
          have b7 := Blk.new v6 [.int .i64 b0, .int .i64 b1, .int .i64 b2, .int .i64 b3, .int .i64 b4] 44
          have k7 : Kept v6 (v6.alloc (.cells #[.int .i64 b0, .int .i64 b1, .int .i64 b2, .int .i64 b3, .int .i64 b4] 44)) := (Kept.refl v6).alloc _
          have b5 := b5.kept (k6.trans k7)
          have BA7 := Lib.hid (BA5.out.kept (k6.trans k7))
          have BB7 := Lib.hid (BB5.out.kept (k6.trans k7))
          have KK7 := Lib.hid (KK5.out.trans (k6.trans k7))
          clear HR5 BA5 BB5 KK5 k6 k7 ca0 ca1 ca2 ca3 ca4 cb0 cb1 cb2 cb3 cb4
          have ca0 := BA7.out.cell 0
          have ca1 := BA7.out.cell 1
          have ca2 := BA7.out.cell 2
          have ca3 := BA7.out.cell 3
          have ca4 := BA7.out.cell 4
          simp only [List.getElem?_cons_succ, List.getElem?_cons_zero] at ca0 ca1 ca2 ca3 ca4
          have cb0 := BB7.out.cell 0
          have cb1 := BB7.out.cell 1
          have cb2 := BB7.out.cell 2
          have cb3 := BB7.out.cell 3
          have cb4 := BB7.out.cell 4
          simp only [List.getElem?_cons_succ, List.getElem?_cons_zero] at cb0 cb1 cb2 cb3 cb4
          have cx0 := b5.cell 0
          have cx1 := b5.cell 1
          have cx2 := b5.cell 2
          have cx3 := b5.cell 3
          have cx4 := b5.cell 4
          simp only [List.getElem?_cons_succ, List.getElem?_cons_zero] at cx0 cx1 cx2 cx3 cx4
          have cy0 := b7.cell 0
          have cy1 := b7.cell 1
          have cy2 := b7.cell 2
          have cy3 := b7.cell 3
          have cy4 := b7.cell 4
          simp only [List.getElem?_cons_succ, List.getElem?_cons_zero] at cy0 cy1 cy2 cy3 cy4
          have hxy : ((x == y) == decide (x = y)) = true := by by_cases h : x = y <;> simp [h]
          go_wp2
          go_ret
          exact ⟨by first | rfl | (show Ending.returned (.bool ((x == y) == decide (x = y))) = _; rw [hxy]), KK7.out⟩
        · have f9 : decide (b1 ≥ 1000000000) = true := decide_eq_true (by omega)
          have f9' : decide (1000000000 ≤ b1) = true := decide_eq_true (by omega)
          clear h9 m9
          go_wp2
          go_ret
          exact ⟨rfl, KK.out⟩
      · have d9 : decide (a1 ≥ 1000000000) = true := decide_eq_true (by omega)
        have d9' : decide (1000000000 ≤ a1) = true := decide_eq_true (by omega)
        clear h9
        go_wp2
        go_ret
        exact ⟨rfl, KK.out⟩
end Go.Proofs.YtdjfdobcjakmhaaDoor
end
