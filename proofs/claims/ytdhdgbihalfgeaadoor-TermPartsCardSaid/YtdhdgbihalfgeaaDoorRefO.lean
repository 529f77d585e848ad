/- The document's terms: Make. -/
import Derived.Test.YtdhdgbihalfgeaaDoorRefN
import Derived.Test.YtdhdgbihalfgeaaDoorTermG
import Derived.StillTailTactics
set_option linter.unusedSimpArgs false
set_option linter.unusedVariables false
namespace Go.Proofs.YtdhdgbihalfgeaaDoor
open Go.RowKit Go.Maps

theorem keyR_len {d : Nd} (hok : NdOk d) (hs : d.s.length ≤ 200) (hl : d.l.length ≤ 64) : (keyR d).length ≤ 2000 := by
  unfold keyR
  have h0 := itoa_len hok.op
  have h1 := itoa_len hok.n
  have h2 := partsKeyR_len d.l hok.l
  have h3 := itoa_len (i := (d.s.length : Int)) ⟨by omega, by omega⟩
  simp
  omega

set_option maxRecDepth 100000 in
set_option maxHeartbeats 4000000 in
theorem makeR_any {F : Nat → Prop} {w : World} {p : Value} {ds : List Nd} (h : ArR F w p ds) {v : Value} {d : Nd} (hd : RdN w v d) (hok : NdOk d) :
    Calls Tryd.prog 14 #[p, v] w fun e w' => ∃ F' : Nat → Prop, e = .returned (.tuple #[.int .i64 (mk ds d).2.1, .int .i64 (mk ds d).2.2]) ∧ ArR F' w' p (mk ds d).1 ∧ Turn F w w' ∧ (∀ b, F' b → F b ∨ w.heap.size ≤ b) := by
  obtain ⟨pb, mb, n, nv, lvs, D, rfl, h2, h3, h4, h5, h6, h7, h8, h9, h10, h11, h12⟩ := h.rep
  obtain ⟨lv, rfl, hr⟩ := hd
  obtain ⟨op, nn, s, l⟩ := d
  simp only at hr ⊢
  have hd1 : ∀ W, Kept w W → RdN W (.agg #[.int .i64 op, .int .i64 nn, .string (strB s), lv]) ⟨op, nn, s, l⟩ := fun W k => ⟨lv, rfl, hr.kept k⟩
  obtain ⟨la, lc, rfl, l1, l2, l3⟩ := hr.len
  have HH := Shut.mk h
  clear h
  go_enter Tryd.func14, Tryd.ntmps14
  go_wp2_with fail
  have k0 : Kept w (w.alloc (.cells #[.int .i64 op, .int .i64 nn, .string (strB s), .slice la l.length lc] 31)) := (Kept.refl w).alloc _
  have b0 := Blk.new w [.int .i64 op, .int .i64 nn, .string (strB s), .slice la l.length lc] 31
  generalize w.alloc (.cells #[.int .i64 op, .int .i64 nn, .string (strB s), .slice la l.length lc] 31) = w0 at k0 b0 ⊢
  refine (mayR_any (ArG.kept HH.out k0) (hd1 w0 k0)).mono ?_
  rintro e w1 ⟨b, rfl, hb, k1⟩
  have k01 := k0.trans k1
  have b1 := b0.kept k1
  cases b with
  | false =>
    have hng : ¬ May ds ⟨op, nn, s, l⟩ := fun m => by have := hb.2 m; cases this
    go_wp2
    go_ret2
    rw [mk_bad hng]
    exact ⟨F, rfl, ArG.kept HH.out k01, k01.turn F, fun b hb => .inl hb⟩
  | true =>
    have hm : May ds ⟨op, nn, s, l⟩ := hb.1 rfl
    have HM := Shut.mk hm
    have hs2 := hm.s0
    have hlen := hm.len64
    have hkl := keyR_len hok hs2 hlen
    have x0 := b1.cell 0
    have x1 := b1.cell 1
    have x2 := b1.cell 2
    have x3 := b1.cell 3
    simp only [List.getElem?_cons_succ, List.getElem?_cons_zero] at x0 x1 x2 x3
    clear hm hb
    go_wp2_with fail
    refine (textR_any (hd1 w1 k01) (by have := HM.out.op1; simp only at this ⊢; omega) HM.out.n0 hok hs2 hlen (fun x hx => (HM.out.all x hx).1)).mono ?_
    rintro e w2 ⟨rfl, k2⟩
    have k02 := k01.trans k2
    have b2 := b1.kept k2
    have m2 := ownsMap_kept h6 k02
    have q0 := (h2.kept k02).cell 0
    have q1 := (h2.kept k02).cell 1
    have y0 := b2.cell 0
    have y1 := b2.cell 1
    have y2 := b2.cell 2
    have y3 := b2.cell 3
    simp only [List.getElem?_cons_succ, List.getElem?_cons_zero] at q0 q1 y0 y1 y2 y3
    clear x0 x1 x2 x3
    obtain ⟨na, ncap, rfl, n1, n2, n3, n4, n5⟩ := h3.rdv
    have hkey : keyOf Tryd.prog 9 (.string (strB (keyR ⟨op, nn, s, l⟩))) = some (.string (keyR ⟨op, nn, s, l⟩)) := WideMaps.keyOf_string_mk Tryd.underlying9 (by rw [strB_size]; unfold maxLen; omega)
    have hlaw : Keyed Tryd.prog 9 := string_keyed Tryd.underlying9
    have hix := idx_has h8 HH.out.good (d := ⟨op, nn, s, l⟩) (fun i hi e => keyR_inj (HH.out.good.may' hi) HM.out e)
    have HKEY := Shut.mk hkey
    clear hkey
    generalize hKY : Value.string (strB (keyR ⟨op, nn, s, l⟩)) = KY at HKEY
    have HKY := Shut.mk hKY
    clear hKY
    rcases hix with ⟨hx1, hx2⟩ | ⟨i, hi, hx1, hx2, hx3⟩
    · have HX2 := Shut.mk hx2
      clear hx2
      by_cases hbig : 100000 ≤ ds.length
      · have HB := Shut.mk hbig
        have hdb : decide ((100000 : Int) ≤ (ds.length : Int)) = true := decide_eq_true (by omega)
        clear hbig
        go_wp2_with (at_lookup; refine wpList_lookup_own_ok_int _ rfl _ _ 51 rfl 9 3 .i64 hlaw Tryd.underlying51 Tryd.underlying3 (zeroInt _) mb n D rfl m2 _ _ rfl HKEY.out ?_; intro c hat hwc; rw [hx1])
        go_ret2
        rw [mk_full HM.out HX2.out HB.out]
        exact ⟨F, rfl, ArG.kept HH.out k02, k02.turn F, fun b hb => .inl hb⟩
      · have HB := Shut.mk hbig
        have hdb : decide ((100000 : Int) ≤ (ds.length : Int)) = false := decide_eq_false (by omega)
        have hl10 : ds.length < 10000000000 := by omega
        have HI : Shut (∀ i, i < ds.length → keyR (ds.getD i nd0) ≠ keyR ⟨op, nn, s, l⟩) := ⟨fun i hi e => find_none HX2.out i hi (keyR_inj (HH.out.good.may' hi) HM.out e)⟩
        clear hbig
        have c23 := b2.frozen 3
        go_wp2_with (first
          | (at_lookup; refine wpList_lookup_own_ok_int _ rfl _ _ 51 rfl 9 3 .i64 hlaw Tryd.underlying51 Tryd.underlying3 (zeroInt _) mb n D rfl m2 _ _ rfl HKEY.out ?_; intro c hat hwc; rw [hx1])
          | (at_builtin; refine go_appi w2.heap.size _ [] rfl (OwnI.nil _ _) _ l rfl (hr.kept k02) (by simp; omega) (Nat.le_refl _) ?_; intro v3 w3 o3 t3 l3'; obtain ⟨a3, cap3, rfl, _, _, _⟩ := (OwnI.rd o3).len;
             have k3 : Kept w2 w3 := Turn.keptOf (Kept.refl w2) t3 (fun x hx => by simp only [Blks] at hx; cases hx);
             have b3 : Blk w3 w.heap.size 31 [.int .i64 op, .int .i64 nn, .string (strB s), .slice la l.length lc] := b2.kept k3;
             have kw3 : Kept w w3 := k02.trans k3;
             have z3 := b3.cell 3; have f33 := b3.frozen 3))
        have b4 : Blk (w3.setCell ⟨w.heap.size, 3, none⟩ (.slice a3 l.length cap3)) w.heap.size 31 [.int .i64 op, .int .i64 nn, .string (strB s), (.slice a3 l.length cap3)] := b3.set 3 (.slice a3 l.length cap3)
        have kw4 : Kept w (w3.setCell ⟨w.heap.size, 3, none⟩ (.slice a3 l.length cap3)) := kw3.setCell (Nat.le_refl _) _
        have o4 : OwnI 0 (w3.setCell ⟨w.heap.size, 3, none⟩ (.slice a3 l.length cap3)) (.slice a3 l.length cap3) l := Ownv.setCell (Ownv.mono0 o3) (Ownv.notBlk o3 b3 (by decide)) _
        have hlv : ∀ b, Blks (.slice a3 l.length cap3) b → w.heap.size ≤ b := fun b hb => Nat.le_trans k02.size (Ownv.lt o3 hb).2
        generalize w3.setCell ⟨w.heap.size, 3, none⟩ (.slice a3 l.length cap3) = w4 at b4 kw4 o4 ⊢
        have q0 := (h2.kept kw4).cell 0
        have q1 := (h2.kept kw4).cell 1
        have qf := (h2.kept kw4).frozen 0
        have c40 := b4.cell 0
        have c41 := b4.cell 1
        have c42 := b4.cell 2
        have c43 := b4.cell 3
        simp only [List.getElem?_cons_succ, List.getElem?_cons_zero] at q0 q1 c40 c41 c42 c43
        have hn4 := h3.kept kw4
        obtain ⟨i0, hi, hz0, hz1, hz2⟩ := info_parts Tryd.infoNode
        have hgb : Blk w4 pb 55 [.slice na ds.length ncap, .map (some mb)] := h2.kept kw4
        have hnb : ¬ Blks (.slice na ds.length ncap) pb := Ownv.notBlk hn4 hgb (by decide)
        have hnq : ¬ Blks (.slice na ds.length ncap) w.heap.size := fun hb => Nat.lt_irrefl _ (h3.lt hb).1
        have gb := hgb.lt
        have hcz : ∀ ob, (w4.alloc ob).cell? ⟨pb, 0, none⟩ = some (.slice na ds.length ncap) := fun ob => (hgb.kept ((Kept.refl w4).alloc ob)).cell 0
        have hfz : ∀ ob, (w4.alloc ob).frozen? ⟨pb, 0, none⟩ = false := fun ob => by
          have := (hgb.kept ((Kept.refl w4).alloc ob)).frozen 0
          exact this
        have hnb' : some pb ≠ (Value.slice na ds.length ncap).ownBlock := fun e => hnb e.symm
        have hnq' : some w.heap.size ≠ (Value.slice na ds.length ncap).ownBlock := fun e => hnq e.symm
        have qb := b4.lt
        go_region_law
          ((refine step_append_lies _ (by rfl) _ _ _ (by rfl) 0 31 i0 _ 4 56 Tryd.underlying22 hi hz0 hz1 hz2 rfl (by omega) (.slice na ds.length ncap) ds.length (flat ds lvs) (by rfl) ((hn4.alloc _).drew)
              ⟨w4.heap.size, 0, none⟩ 1 1 [.int .i64 op, .int .i64 nn, .string (strB s), (.slice a3 l.length cap3)] (by rfl) (by rfl) (World.news_of_block (cs := #[.int .i64 op, .int .i64 nn, .string (strB s), (.slice a3 l.length cap3)]) (t := 31) (fr := (0, 0)) (heap_alloc_new w4 _)) (by simp [Value.oneCell'])
              (by omega) (by unfold maxLen; omega) (by omega) (by omega) (w4.heap.size + 1) (by simp) ?_; intro gg cap w5 hown5 hgrow hat hlt; have hfz5 : w5.frozen? ⟨pb, 0, none⟩ = false := (hgrow.frozen_far ⟨pb, 0, none⟩ (by simp; omega) hnb').trans (hfz _); have hcz5 : w5.cell? ⟨pb, 0, none⟩ = some (.slice na ds.length ncap) := (hgrow.cell_far ⟨pb, 0, none⟩ (by simp; omega) hnb').trans (hcz _);
            have t5 : Turn (Blks (.slice na ds.length ncap)) w4 w5 := ((((Kept.refl w4).alloc (.cells #[.int .i64 op, .int .i64 nn, .string (strB s), .slice a3 l.length cap3] 31)).drew).turn _).trans ((Grown.turn hgrow).mono fun b hb => hb.symm) (fun x hx => .inl hx)))
        all_goals
          have o6 : Ownv 0 31 4 (w5.setCell ⟨pb, 0, none⟩ (.slice (some ⟨gg, 0, none⟩) (ds.length + 1) cap)) (.slice (some ⟨gg, 0, none⟩) (ds.length + 1) cap) (ds.length + 1) (flat ds lvs ++ [.int .i64 op, .int .i64 nn, .string (strB s), .slice a3 l.length cap3]) :=
            Ownv.setCell hown5 (Ownv.notBlk hown5 (hgb.turn t5 hnb) (by decide)) _
          have g6 : Blk (w5.setCell ⟨pb, 0, none⟩ (.slice (some ⟨gg, 0, none⟩) (ds.length + 1) cap)) pb 55 [.slice (some ⟨gg, 0, none⟩) (ds.length + 1) cap, .map (some mb)] := (hgb.turn t5 hnb).set 0 _
          have t6 : Turn (fun b => Blks (.slice na ds.length ncap) b ∨ b = pb) w4 (w5.setCell ⟨pb, 0, none⟩ (.slice (some ⟨gg, 0, none⟩) (ds.length + 1) cap)) :=
            (t5.mono fun b hb => .inl hb).trans (turn_setCell w5 _ _) (fun x hx => .inl (.inr hx))
          have m6 := ownsMap_turn (ownsMap_kept h6 kw4) t6 (fun hb => hb.elim (ownsMap_notBlk (ownsMap_kept h6 kw4) hn4) (fun e => ownsMap_notBlk' (ownsMap_kept h6 kw4) hgb e.symm))
          have a6 := o4.turn t6 (fun b hb hc => hc.elim (Ownv.apart o4 hn4 (by decide) hb) (fun e => Ownv.notBlk o4 hgb (by decide) (e ▸ hb)))
          generalize w5.setCell ⟨pb, 0, none⟩ (.slice (some ⟨gg, 0, none⟩) (ds.length + 1) cap) = w6 at o6 g6 t6 m6 a6 ⊢
          have z0 := g6.cell 0
          have z1 := g6.cell 1
          simp only [List.getElem?_cons_succ, List.getElem?_cons_zero] at z0 z1
          have hlaw : Keyed Tryd.prog 9 := string_keyed Tryd.underlying9
          go_wp2_with fail
          go_still_tail 11, (by kernel_rfl)
          change wpList _ _ _ _ _ w6.drew
          have kd : Kept w6 w6.drew := (Kept.refl _).drew
          have o7 := Ownv.kept o6 kd
          have g7 := g6.kept kd
          have t7 := t6.kept kd
          have m7 := ownsMap_kept m6 kd
          have a7 := Ownv.kept a6 kd
          clear o6 g6 t6 m6 a6 kd z0 z1
          generalize w6.drew = w7 at o7 g7 t7 m7 a7 ⊢
          have z0 := g7.cell 0
          have z1 := g7.cell 1
          simp only [List.getElem?_cons_succ, List.getElem?_cons_zero] at z0 z1
          have hsub : (((ds.length + 1 : Nat) : Int) - 1) = (ds.length : Int) := by omega
          have hw : IntKind.i64.wrap (ds.length : Int) = (ds.length : Int) := by exact IntWalk.i64_in _ (by omega)
          have hpe : plainElem Tryd.prog 3 (.int .i64 (IntKind.i64.wrap (ds.length : Int))) = some ((.lit (.int .i64 ds.length) : DataW Unit), []) := by rw [hw]; exact plainElem_int Tryd.underlying3 (WalkArith.wf_i64 (by omega))
          have HPE := Shut.mk hpe
          have HW := Shut.mk hw
          have HSUB := Shut.mk hsub
          clear hpe hw hsub
          go_wp2_with (at_mapUpdate; refine wpList_mapUpdate_own _ rfl _ _ _ 51 rfl 9 3 hlaw Tryd.underlying51 (plainElem Tryd.prog 3) mb n D rfl m7 (by unfold maxLen; omega) _ _ (.string (keyR ⟨op, nn, s, l⟩)) rfl rfl HKEY.out (.lit (.int .i64 ds.length)) [] (by first | exact HPE.out | exact plainElem_int Tryd.underlying3 (WalkArith.wf_i64 (by omega))) ?_; intro w8 own8 hg8; have t8 : Turn (fun b => b = mb) w7 w8 := ((Grown.turn hg8).mono fun b hb => by simpa using hb); have g8 := g7.turn t8 (ownsMap_notBlk' m7 g7); have z8 := g8.cell 0; simp only [List.getElem?_cons_zero] at z8)
          go_ret2
          obtain ⟨F', r1, r2, r3⟩ := arg_grow HH.out.good (Nat.lt_of_not_le HB.out) HH.out.oks hok HM.out HX2.out HI.out (by decide) h2 h3 h4 h5 h6 h7 h8 h9 h10 h11 h12 HH.out.lt kw4 t7 g7 (by unfold ndCells; exact o7) (fun b hb => by
            obtain rfl : gg = b := by simpa [Blks, Value.ownBlock] using hb
            rcases hat with c | c
            · exact .inl c
            · have := kw4.size
              exact .inr (by omega)) a7 hlv own8 m7 t8
          rw [mk_new HM.out HX2.out HB.out]
          exact ⟨F', by first | rfl | (simp only [HSUB.out]) | (simp only [HW.out]), r1, r2, r3⟩
    · have HX3 := Shut.mk hx3
      clear hx3
      go_wp2_with (at_lookup; refine wpList_lookup_own_ok_int _ rfl _ _ 51 rfl 9 3 .i64 hlaw Tryd.underlying51 Tryd.underlying3 (zeroInt _) mb n D rfl m2 _ _ rfl HKEY.out ?_; intro c hat hwc; rw [hx1])
      rw [hx2] at hat
      simp only [DataW.lit.injEq, Lit.int.injEq, true_and] at hat
      go_ret2
      rw [mk_old HM.out HX3.out]
      exact ⟨F, by rw [← hat]; rfl, ArG.kept HH.out k02, k02.turn F, fun b hb => .inl hb⟩
end Go.Proofs.YtdhdgbihalfgeaaDoor
