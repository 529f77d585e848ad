/- Walks: Node; comparing nodes and lists of numbers. -/
import Derived.Test.YtdhdgbihalfgeaaDoorTermE
import Derived.Test.YtdhdgbihalfgeaaDoorTermB
set_option linter.unusedSimpArgs false
set_option linter.unusedVariables false
namespace Go.Proofs.YtdhdgbihalfgeaaDoor
open Go.RowKit Go.Maps

/-- The node of a term, or none. -/
def ndAt (ds : List Nd) (t : Int) : Nd := if 0 ≤ t ∧ t < ds.length then ds.getD t.toNat nd0 else nd0
def ndE (ds : List Nd) (t : Int) : Int := if 0 ≤ t ∧ t < ds.length then 0 else 4

set_option maxHeartbeats 4000000 in
set_option maxRecDepth 100000 in
theorem node_any {F : Nat → Prop} {w : World} {p : Value} {ds : List Nd} (h : Ar F w p ds) (t : Int) :
    Calls Tryd.prog 17 #[p, .int .i64 t] w fun e w' => ∃ v, e = .returned (.tuple #[v, .int .i64 (ndE ds t)]) ∧ RdN w' v (ndAt ds t) ∧ Kept w w' := by
  have HH := Shut.mk h
  by_cases hin : 0 ≤ t ∧ t < ds.length
  · have hE : ndE ds t = 0 := by unfold ndE; rw [if_pos hin]
    have hN : ndAt ds t = ds.getD t.toNat nd0 := by unfold ndAt; rw [if_pos hin]
    rw [hE, hN]
    clear hE hN
    obtain ⟨t0, t1⟩ := hin
    obtain ⟨j, rfl⟩ := Int.eq_ofNat_of_zero_le t0
    have hjl : j < ds.length := by omega
    rw [Int.toNat_natCast]
    obtain ⟨pb, mb, nv, rfl, q0, q1, hns⟩ := ArG.nodes h
    obtain ⟨nb, noff, ncap, lvs, rfl, _, _, hnb, hnc, hnl⟩ := hns.addr (by omega)
    obtain ⟨y0, y1, y2, y3⟩ := hnc j hjl
    have hlr := hnl j hjl
    have hll := (h.good.may' hjl).len64
    have hq := World.block_lt_of_cell? _ _ q0
    clear hnc hns h hnl
    generalize ds.getD j nd0 = d at y0 y1 y2 y3 hlr hll ⊢
    obtain ⟨op, n, s, l⟩ := d
    simp only at y0 y1 y2 y3 hlr hll ⊢
    obtain ⟨la, lc, hlv, l1, l2, l3⟩ := hlr.len
    rw [hlv] at y3 hlr
    clear hlv
    go_enter Tryd.func17, Tryd.ntmps17
    go_wp2_with (first | (go_at_call 35; refine (arg_has_t (ArG.kept HH.out ((Kept.refl w).alloc _)) t0 t1).mono ?_; rintro e w' ⟨rfl, rfl⟩) | fail)
    have k1 : Kept w ((w.alloc (.cells #[.int .i64 0, .int .i64 0, .string ⟨#[]⟩, .slice none 0 0] 31)).alloc (.cells #[.int .i64 op, .int .i64 n, .string (strB s), .slice la l.length lc] 31)) := ((Kept.refl w).alloc _).alloc _
    have hsz := alloc_size w (.cells #[.int .i64 0, .int .i64 0, .string ⟨#[]⟩, .slice none 0 0] 31)
    have a1 : Blk ((w.alloc (.cells #[.int .i64 0, .int .i64 0, .string ⟨#[]⟩, .slice none 0 0] 31)).alloc (.cells #[.int .i64 op, .int .i64 n, .string (strB s), .slice la l.length lc] 31)) w.heap.size 31 [.int .i64 0, .int .i64 0, .string ⟨#[]⟩, .slice none 0 0] :=
      (Blk.new w [.int .i64 0, .int .i64 0, .string ⟨#[]⟩, .slice none 0 0] 31).kept ((Kept.refl _).alloc _)
    have b1 := Blk.new (w.alloc (.cells #[.int .i64 0, .int .i64 0, .string ⟨#[]⟩, .slice none 0 0] 31)) [.int .i64 op, .int .i64 n, .string (strB s), .slice la l.length lc] 31
    rw [hsz] at b1
    generalize (w.alloc (.cells #[.int .i64 0, .int .i64 0, .string ⟨#[]⟩, .slice none 0 0] 31)).alloc (.cells #[.int .i64 op, .int .i64 n, .string (strB s), .slice la l.length lc] 31) = w1 at k1 a1 b1 ⊢
    refine (clone_any (hlr.kept k1) (by omega)).mono ?_
    rintro e w2 ⟨v2, rfl, o2, k2⟩
    obtain ⟨a2, cap2, rfl, _, _, _⟩ := (OwnI.rd o2).len
    have a2' := a1.kept k2
    have b2 := b1.kept k2
    have c20 := b2.cell 0
    have c21 := b2.cell 1
    have c22 := b2.cell 2
    have c23 := b2.cell 3
    have f23 := b2.frozen 3
    have d20 := a2'.cell 0
    have d21 := a2'.cell 1
    have d22 := a2'.cell 2
    have d23 := a2'.cell 3
    have g20 := a2'.frozen 0
    have g21 := a2'.frozen 1
    have g22 := a2'.frozen 2
    have g23 := a2'.frozen 3
    simp only [List.getElem?_cons_succ, List.getElem?_cons_zero] at c20 c21 c22 c23 d20 d21 d22 d23
    go_wp2
    have e1 : OwnI w1.heap.size (w2.setCell ⟨w.heap.size + 1, 3, none⟩ (.slice a2 l.length cap2)) (.slice a2 l.length cap2) l := Ownv.setCell o2 (Ownv.notBlk o2 b2 (by decide)) _
    have f1 : Blk (w2.setCell ⟨w.heap.size + 1, 3, none⟩ (.slice a2 l.length cap2)) w.heap.size 31 [.int .i64 0, .int .i64 0, .string ⟨#[]⟩, .slice none 0 0] := a2'.turn (turn_setCell _ _ _) (fun e => by simp at e)
    have k3 : Kept w (w2.setCell ⟨w.heap.size + 1, 3, none⟩ (.slice a2 l.length cap2)) := (k1.trans k2).setCell (by simp) _
    generalize w2.setCell ⟨w.heap.size + 1, 3, none⟩ (.slice a2 l.length cap2) = w3 at e1 f1 k3 ⊢
    have f5 := (((f1.set 0 (.int .i64 op)).set 1 (.int .i64 n)).set 2 (.string (strB s))).set 3 (.slice a2 l.length cap2)
    have e5 := Ownv.setCell (Ownv.setCell (Ownv.setCell (Ownv.setCell e1 (ad := ⟨w.heap.size, 0, none⟩) (Ownv.notBlk e1 f1 (by decide)) (.int .i64 op)) (ad := ⟨w.heap.size, 1, none⟩) (Ownv.notBlk e1 f1 (by decide)) (.int .i64 n)) (ad := ⟨w.heap.size, 2, none⟩) (Ownv.notBlk e1 f1 (by decide)) (.string (strB s))) (ad := ⟨w.heap.size, 3, none⟩) (Ownv.notBlk e1 f1 (by decide)) (.slice a2 l.length cap2)
    have k5 : Kept w ((((w3.setCell ⟨w.heap.size, 0, none⟩ (.int .i64 op)).setCell ⟨w.heap.size, 1, none⟩ (.int .i64 n)).setCell ⟨w.heap.size, 2, none⟩ (.string (strB s))).setCell ⟨w.heap.size, 3, none⟩ (.slice a2 l.length cap2)) := (((k3.setCell (Nat.le_refl _) _).setCell (Nat.le_refl _) _).setCell (Nat.le_refl _) _).setCell (Nat.le_refl _) _
    generalize (((w3.setCell ⟨w.heap.size, 0, none⟩ (.int .i64 op)).setCell ⟨w.heap.size, 1, none⟩ (.int .i64 n)).setCell ⟨w.heap.size, 2, none⟩ (.string (strB s))).setCell ⟨w.heap.size, 3, none⟩ (.slice a2 l.length cap2) = w5 at f5 e5 k5 ⊢
    have c0 := f5.cell 0
    have c1 := f5.cell 1
    have c2 := f5.cell 2
    have c3 := f5.cell 3
    simp only [List.set_cons_succ, List.set_cons_zero, List.getElem?_cons_succ, List.getElem?_cons_zero] at c0 c1 c2 c3
    refine bodyPost_ret (v := .tuple #[.agg #[.int .i64 op, .int .i64 n, .string (strB s), .slice a2 l.length cap2], .int .i64 0]) ?_ rfl ?_
    · have hr : Tryd.f17.results = #[.cell 4 31, .tmp 5] := rfl
      simp [results, hr]
      go_simp
    · exact ⟨_, rfl, ⟨_, rfl, OwnI.rd e5⟩, k5⟩
  · have hE : ndE ds t = 4 := by unfold ndE; rw [if_neg hin]
    have hN : ndAt ds t = nd0 := by unfold ndAt; rw [if_neg hin]
    rw [hE, hN]
    clear hE hN h
    go_enter Tryd.func17, Tryd.ntmps17
    go_wp2_with (go_at_call 35; refine (arg_has_f (ArG.kept HH.out ((Kept.refl w).alloc _)) hin).mono ?_; rintro e w' ⟨rfl, rfl⟩)
    have hb := Blk.new w [.int .i64 0, .int .i64 0, .string ⟨#[]⟩, .slice none 0 0] 31
    have c0 := hb.cell 0
    have c1 := hb.cell 1
    have c2 := hb.cell 2
    have c3 := hb.cell 3
    simp only [List.getElem?_cons_succ, List.getElem?_cons_zero] at c0 c1 c2 c3
    refine bodyPost_ret (v := .tuple #[.agg #[.int .i64 0, .int .i64 0, .string ⟨#[]⟩, .slice none 0 0], .int .i64 4]) ?_ rfl ?_
    · have hr : Tryd.f17.results = #[.cell 4 31, .tmp 5] := rfl
      simp [results, hr]
      go_simp
    · exact ⟨_, rfl, ⟨_, rfl, RdI.nil _⟩, (Kept.refl w).alloc _⟩

theorem getD_ext {a b : List Int} (hl : a.length = b.length) (h : ∀ i, i < a.length → a.getD i 0 = b.getD i 0) : a = b := by
  refine List.ext_getElem hl fun i h1 h2 => ?_
  have := h i h1
  rwa [List.getD_eq_getElem?_getD, List.getElem?_eq_getElem h1, List.getD_eq_getElem?_getD, List.getElem?_eq_getElem h2] at this

set_option maxHeartbeats 4000000 in
set_option maxRecDepth 100000 in
theorem sameInts_any {w : World} {u v : Value} {a b : List Int} (ha : RdI w u a) (hb : RdI w v b) :
    Calls Tryd.prog 24 #[u, v] w fun e w' => e = .returned (.bool (decide (a = b))) ∧ Kept w w' := by
  obtain ⟨aa, ac, rfl, a1, a2, a3⟩ := ha.len
  obtain ⟨ba, bc, rfl, b1, b2, b3⟩ := hb.len
  have a63 : ((a.length : Nat) : Int) ≤ 9223372036854775807 := by unfold maxLen at a2; omega
  by_cases hl : a.length = b.length
  · have hd : ((a.length : Int) != (b.length : Int)) = false := by simp [hl]
    have HL := Shut.mk hl
    rw [← hl] at hb b1 hd ⊢
    clear hl
    go_enter Tryd.func24, Tryd.ntmps24
    go_wp2
    go_loopw [13] (fun i wr => ∃ k : Nat, k ≤ a.length ∧ i = .int .i64 k ∧ (∀ j, j < k → a.getD j 0 = b.getD j 0) ∧ Kept w wr) (fun i _ => a.length - (intOf i).toNat)
    case atStart => exact ⟨0, Nat.zero_le _, rfl, fun j hj => absurd hj (Nat.not_lt_zero _), Kept.refl _⟩
    case round =>
      obtain ⟨k, hk0, rfl, hsame, hk⟩ := hrel
      have HS := Shut.mk hsame
      clear hsame
      by_cases hlt : k < a.length
      · obtain ⟨rb, ro, rc, hrv, _, _, hrb, hcl⟩ := ha.addr (by omega)
        simp only [Value.slice.injEq] at hrv
        obtain ⟨rfl, _, rfl⟩ := hrv
        have hcb := hb
        rw [show (Value.slice ba a.length bc) = Value.slice ba b.length bc by rw [HL.out]] at hcb
        obtain ⟨sb, so, sc, hsv, _, _, hsb, hcl2⟩ := hcb.addr (by have := HL.out; omega)
        simp only [Value.slice.injEq] at hsv
        obtain ⟨rfl, _, rfl⟩ := hsv
        have x1 := hk.cell (p := ⟨rb, ro + k, none⟩) hrb |>.trans (hcl k hlt)
        have x2 := hk.cell (p := ⟨sb, so + k, none⟩) hsb |>.trans (hcl2 k (by have := HL.out; omega))
        clear hcl hcl2 hcb
        have k0 : (0 : Int) ≤ (k : Int) := by omega
        have k1 : (k : Int) < (a.length : Int) := by omega
        generalize hx : a.getD k 0 = x at x1
        generalize hy : b.getD k 0 = y at x2
        have HX := Shut.mk hx
        have HY := Shut.mk hy
        clear hx hy
        by_cases hxy : x = y
        · subst hxy
          go_wp2
          go_quiet (fail)
          go_wp2
          go_roundw
          case rel => exact ⟨k + 1, hlt, rfl, fun j hj => by
            by_cases c : j < k
            · exact HS.out j c
            · obtain rfl : j = k := by omega
              rw [HX.out, HY.out], hk.drewN _⟩
          case measure => simp [intOf]; omega
        · have hd2 : (x != y) = true := by simpa using hxy
          have hne : ¬ a = b := fun e => hxy (by rw [← HX.out, ← HY.out, e])
          have HN := Shut.mk hne
          clear hne hxy
          go_wp2
          go_quiet (fail)
          go_wp2
          go_ret
          exact ⟨by rw [decide_eq_false HN.out]; rfl, hk.drewN _⟩
      · obtain rfl : k = a.length := by omega
        have he := getD_ext HL.out HS.out
        have HE := Shut.mk he
        clear he
        go_wp2
        go_ret
        exact ⟨by rw [decide_eq_true HE.out]; rfl, hk⟩
  · have hd : ((a.length : Int) != (b.length : Int)) = true := by simp; omega
    have hne : ¬ a = b := fun e => hl (by rw [e])
    have HN := Shut.mk hne
    clear hne hl
    go_enter Tryd.func24, Tryd.ntmps24
    go_wp2
    go_ret
    exact ⟨by rw [decide_eq_false HN.out]; rfl, Kept.refl _⟩

theorem strB_inj {a b : List UInt8} (h : strB a = strB b) : a = b := by
  have := congrArg (fun x : ByteArray => x.data.toList) h
  simpa [strB] using this

set_option maxHeartbeats 4000000 in
set_option maxRecDepth 100000 in
theorem sameNode_any {w : World} {u v : Value} {c d : Nd} (hc : RdN w u c) (hd : RdN w v d) :
    Calls Tryd.prog 19 #[u, v] w fun e w' => e = .returned (.bool (decide (c = d))) ∧ Kept w w' := by
  obtain ⟨lu, rfl, ru⟩ := hc
  obtain ⟨lv, rfl, rv⟩ := hd
  obtain ⟨o1, n1, s1, l1⟩ := c
  obtain ⟨o2, n2, s2, l2⟩ := d
  simp only at ru rv ⊢
  obtain ⟨ua, uc, rfl, _, _, _⟩ := ru.len
  obtain ⟨va, vc, rfl, _, _, _⟩ := rv.len
  have k0 : Kept w ((w.alloc (.cells #[.int .i64 o1, .int .i64 n1, .string (strB s1), .slice ua l1.length uc] 31)).alloc (.cells #[.int .i64 o2, .int .i64 n2, .string (strB s2), .slice va l2.length vc] 31)) := ((Kept.refl w).alloc _).alloc _
  have hsi := sameInts_any (ru.kept k0) (rv.kept k0)
  have e1 := strB_list s1
  have e2 := strB_list s2
  generalize strB s1 = S1 at e1 k0 hsi ⊢
  generalize strB s2 = S2 at e2 k0 hsi ⊢
  by_cases h1 : o1 = o2
  · subst h1
    by_cases h2 : n1 = n2
    · subst h2
      by_cases h3 : s1 = s2
      · subst h3
        go_enter Tryd.func19, Tryd.ntmps19
        go_wp2_with (go_at_call 24; refine hsi.mono ?_; rintro e w' ⟨rfl, k1⟩)
        go_ret
        exact ⟨by simp, k0.trans k1⟩
      · have hb : (s1 == s2) = false := by simpa using h3
        have HN := Shut.mk (show ¬ (⟨o1, n1, s1, l1⟩ : Nd) = ⟨o1, n1, s2, l2⟩ from fun e => h3 (congrArg Nd.s e))
        clear h3
        go_enter Tryd.func19, Tryd.ntmps19
        go_wp2_with (go_at_call 24; refine hsi.mono ?_; rintro e w' ⟨rfl, k1⟩)
        go_ret
        exact ⟨by rw [decide_eq_false HN.out]; rfl, k0⟩
    · have hb : (n1 == n2) = false := by simpa using h2
      have HN := Shut.mk (show ¬ (⟨o1, n1, s1, l1⟩ : Nd) = ⟨o1, n2, s2, l2⟩ from fun e => h2 (congrArg Nd.n e))
      clear h2
      go_enter Tryd.func19, Tryd.ntmps19
      go_wp2_with (go_at_call 24; refine hsi.mono ?_; rintro e w' ⟨rfl, k1⟩)
      go_ret
      exact ⟨by rw [decide_eq_false HN.out]; rfl, k0⟩
  · have hb : (o1 == o2) = false := by simpa using h1
    have HN := Shut.mk (show ¬ (⟨o1, n1, s1, l1⟩ : Nd) = ⟨o2, n2, s2, l2⟩ from fun e => h1 (congrArg Nd.op e))
    clear h1
    go_enter Tryd.func19, Tryd.ntmps19
    go_wp2_with (go_at_call 24; refine hsi.mono ?_; rintro e w' ⟨rfl, k1⟩)
    go_ret
    exact ⟨by rw [decide_eq_false HN.out]; rfl, k0⟩
end Go.Proofs.YtdhdgbihalfgeaaDoor
