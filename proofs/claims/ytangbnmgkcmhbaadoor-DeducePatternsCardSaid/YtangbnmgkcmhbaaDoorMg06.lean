/- Texts of one proof, put together: RefO, LivP, PcF, PcG, PcH, PcI, PcJ, PcK, PcL, PcM, DedR. -/
import Derived.Test.YtangbnmgkcmhbaaDoorMg05
import Derived.Test.YtangbnmgkcmhbaaDoorMg04
import Derived.StillTailTactics
import Derived.Test.YtangbnmgkcmhbaaDoorMg02
import Derived.Test.YtangbnmgkcmhbaaDoorMg03
import Derived.Deep.RegionHeld3
import Derived.BigQuiet
import Derived.Deep.AppendLies
section
/- The document's terms: Make. -/
set_option linter.unusedSimpArgs false
set_option linter.unusedVariables false
namespace Go.Proofs.YtangbnmgkcmhbaaDoor
open Go.RowKit Go.Maps

theorem keyR_len {d : Nd} (hok : NdOk d) (hs : d.s.length ≤ 200) (hl : d.l.length ≤ 64) : (keyR d).length ≤ 2000 := by
  unfold keyR
  have h0 := itoa_len hok.op
  have h1 := itoa_len hok.n
  have h2 := partsKeyR_len d.l hok.l
  have h3 := itoa_len (i := (d.s.length : Int)) ⟨by omega, by omega⟩
  simp
  omega

set_option maxRecDepth 100000 in
set_option maxHeartbeats 4000000 in
theorem makeR_any {F : Nat → Prop} {w : World} {p : Value} {ds : List Nd} (h : ArR F w p ds) {v : Value} {d : Nd} (hd : RdN w v d) (hok : NdOk d) :
    Calls Tryd.prog 27 #[p, v] w fun e w' => ∃ F' : Nat → Prop, e = .returned (.tuple #[.int .i64 (mk ds d).2.1, .int .i64 (mk ds d).2.2]) ∧ ArR F' w' p (mk ds d).1 ∧ Turn F w w' ∧ (∀ b, F' b → F b ∨ w.heap.size ≤ b) := by
  obtain ⟨pb, mb, n, nv, lvs, D, rfl, h2, h3, h4, h5, h6, h7, h8, h9, h10, h11, h12⟩ := h.rep
  obtain ⟨lv, rfl, hr⟩ := hd
  obtain ⟨op, nn, s, l⟩ := d
  simp only at hr ⊢
  have hd1 : ∀ W, Kept w W → RdN W (.agg #[.int .i64 op, .int .i64 nn, .string (strB s), lv]) ⟨op, nn, s, l⟩ := fun W k => ⟨lv, rfl, hr.kept k⟩
  obtain ⟨la, lc, rfl, l1, l2, l3⟩ := hr.len
  have HH := Shut.mk h
  clear h
  go_enter Tryd.func27, Tryd.ntmps27
  go_wp2_with fail
  have k0 : Kept w (w.alloc (.cells #[.int .i64 op, .int .i64 nn, .string (strB s), .slice la l.length lc] 51)) := (Kept.refl w).alloc _
  have b0 := Blk.new w [.int .i64 op, .int .i64 nn, .string (strB s), .slice la l.length lc] 51
  generalize w.alloc (.cells #[.int .i64 op, .int .i64 nn, .string (strB s), .slice la l.length lc] 51) = w0 at k0 b0 ⊢
  refine (mayR_any (ArG.kept HH.out k0) (hd1 w0 k0)).mono ?_
  rintro e w1 ⟨b, rfl, hb, k1⟩
  have k01 := k0.trans k1
  have b1 := b0.kept k1
  cases b with
  | false =>
    have hng : ¬ May ds ⟨op, nn, s, l⟩ := fun m => by have := hb.2 m; cases this
    go_wp2
    go_ret2
    rw [mk_bad hng]
    exact ⟨F, rfl, ArG.kept HH.out k01, k01.turn F, fun b hb => .inl hb⟩
  | true =>
    have hm : May ds ⟨op, nn, s, l⟩ := hb.1 rfl
    have HM := Shut.mk hm
    have hs2 := hm.s0
    have hlen := hm.len64
    have hkl := keyR_len hok hs2 hlen
    have x0 := b1.cell 0
    have x1 := b1.cell 1
    have x2 := b1.cell 2
    have x3 := b1.cell 3
    simp only [List.getElem?_cons_succ, List.getElem?_cons_zero] at x0 x1 x2 x3
    clear hm hb
    go_wp2_with fail
    refine (textR_any (hd1 w1 k01) (by have := HM.out.op1; simp only at this ⊢; omega) HM.out.n0 hok hs2 hlen (fun x hx => (HM.out.all x hx).1)).mono ?_
    rintro e w2 ⟨rfl, k2⟩
    have k02 := k01.trans k2
    have b2 := b1.kept k2
    have m2 := ownsMap_kept h6 k02
    have q0 := (h2.kept k02).cell 0
    have q1 := (h2.kept k02).cell 1
    have y0 := b2.cell 0
    have y1 := b2.cell 1
    have y2 := b2.cell 2
    have y3 := b2.cell 3
    simp only [List.getElem?_cons_succ, List.getElem?_cons_zero] at q0 q1 y0 y1 y2 y3
    clear x0 x1 x2 x3
    obtain ⟨na, ncap, rfl, n1, n2, n3, n4, n5⟩ := h3.rdv
    have hkey : keyOf Tryd.prog 9 (.string (strB (keyR ⟨op, nn, s, l⟩))) = some (.string (keyR ⟨op, nn, s, l⟩)) := WideMaps.keyOf_string_mk Tryd.underlying9 (by rw [strB_size]; unfold maxLen; omega)
    have hlaw : Keyed Tryd.prog 9 := string_keyed Tryd.underlying9
    have hix := idx_has h8 HH.out.good (d := ⟨op, nn, s, l⟩) (fun i hi e => keyR_inj (HH.out.good.may' hi) HM.out e)
    have HKEY := Shut.mk hkey
    clear hkey
    generalize hKY : Value.string (strB (keyR ⟨op, nn, s, l⟩)) = KY at HKEY
    have HKY := Shut.mk hKY
    clear hKY
    rcases hix with ⟨hx1, hx2⟩ | ⟨i, hi, hx1, hx2, hx3⟩
    · have HX2 := Shut.mk hx2
      clear hx2
      by_cases hbig : 100000 ≤ ds.length
      · have HB := Shut.mk hbig
        have hdb : decide ((100000 : Int) ≤ (ds.length : Int)) = true := decide_eq_true (by omega)
        clear hbig
        go_wp2_with (at_lookup; refine wpList_lookup_own_ok_int _ rfl _ _ 67 rfl 9 3 .i64 hlaw Tryd.underlying67 Tryd.underlying3 (zeroInt _) mb n D rfl m2 _ _ rfl HKEY.out ?_; intro c hat hwc; rw [hx1])
        go_ret2
        rw [mk_full HM.out HX2.out HB.out]
        exact ⟨F, rfl, ArG.kept HH.out k02, k02.turn F, fun b hb => .inl hb⟩
      · have HB := Shut.mk hbig
        have hdb : decide ((100000 : Int) ≤ (ds.length : Int)) = false := decide_eq_false (by omega)
        have hl10 : ds.length < 10000000000 := by omega
        have HI : Shut (∀ i, i < ds.length → keyR (ds.getD i nd0) ≠ keyR ⟨op, nn, s, l⟩) := ⟨fun i hi e => find_none HX2.out i hi (keyR_inj (HH.out.good.may' hi) HM.out e)⟩
        clear hbig
        have c23 := b2.frozen 3
        go_wp2_with (first
          | (at_lookup; refine wpList_lookup_own_ok_int _ rfl _ _ 67 rfl 9 3 .i64 hlaw Tryd.underlying67 Tryd.underlying3 (zeroInt _) mb n D rfl m2 _ _ rfl HKEY.out ?_; intro c hat hwc; rw [hx1])
          | (at_builtin; refine go_appi w2.heap.size _ [] rfl (OwnI.nil _ _) _ l rfl (hr.kept k02) (by simp; omega) (Nat.le_refl _) ?_; intro v3 w3 o3 t3 l3'; obtain ⟨a3, cap3, rfl, _, _, _⟩ := (OwnI.rd o3).len;
             have k3 : Kept w2 w3 := Turn.keptOf (Kept.refl w2) t3 (fun x hx => by simp only [Blks] at hx; cases hx);
             have b3 : Blk w3 w.heap.size 51 [.int .i64 op, .int .i64 nn, .string (strB s), .slice la l.length lc] := b2.kept k3;
             have kw3 : Kept w w3 := k02.trans k3;
             have z3 := b3.cell 3; have f33 := b3.frozen 3))
        have b4 : Blk (w3.setCell ⟨w.heap.size, 3, none⟩ (.slice a3 l.length cap3)) w.heap.size 51 [.int .i64 op, .int .i64 nn, .string (strB s), (.slice a3 l.length cap3)] := b3.set 3 (.slice a3 l.length cap3)
        have kw4 : Kept w (w3.setCell ⟨w.heap.size, 3, none⟩ (.slice a3 l.length cap3)) := kw3.setCell (Nat.le_refl _) _
        have o4 : OwnI 0 (w3.setCell ⟨w.heap.size, 3, none⟩ (.slice a3 l.length cap3)) (.slice a3 l.length cap3) l := Ownv.setCell (Ownv.mono0 o3) (Ownv.notBlk o3 b3 (by decide)) _
        have hlv : ∀ b, Blks (.slice a3 l.length cap3) b → w.heap.size ≤ b := fun b hb => Nat.le_trans k02.size (Ownv.lt o3 hb).2
        generalize w3.setCell ⟨w.heap.size, 3, none⟩ (.slice a3 l.length cap3) = w4 at b4 kw4 o4 ⊢
        have q0 := (h2.kept kw4).cell 0
        have q1 := (h2.kept kw4).cell 1
        have qf := (h2.kept kw4).frozen 0
        have c40 := b4.cell 0
        have c41 := b4.cell 1
        have c42 := b4.cell 2
        have c43 := b4.cell 3
        simp only [List.getElem?_cons_succ, List.getElem?_cons_zero] at q0 q1 c40 c41 c42 c43
        have hn4 := h3.kept kw4
        obtain ⟨i0, hi, hz0, hz1, hz2⟩ := info_parts Tryd.infoNode
        have hgb : Blk w4 pb 69 [.slice na ds.length ncap, .map (some mb)] := h2.kept kw4
        have hnb : ¬ Blks (.slice na ds.length ncap) pb := Ownv.notBlk hn4 hgb (by decide)
        have hnq : ¬ Blks (.slice na ds.length ncap) w.heap.size := fun hb => Nat.lt_irrefl _ (h3.lt hb).1
        have gb := hgb.lt
        have hcz : ∀ ob, (w4.alloc ob).cell? ⟨pb, 0, none⟩ = some (.slice na ds.length ncap) := fun ob => (hgb.kept ((Kept.refl w4).alloc ob)).cell 0
        have hfz : ∀ ob, (w4.alloc ob).frozen? ⟨pb, 0, none⟩ = false := fun ob => by
          have := (hgb.kept ((Kept.refl w4).alloc ob)).frozen 0
          exact this
        have hnb' : some pb ≠ (Value.slice na ds.length ncap).ownBlock := fun e => hnb e.symm
        have hnq' : some w.heap.size ≠ (Value.slice na ds.length ncap).ownBlock := fun e => hnq e.symm
        have qb := b4.lt
        go_region_law
          ((refine step_append_lies _ (by rfl) _ _ _ (by rfl) 0 51 i0 _ 4 56 Tryd.underlying22 hi hz0 hz1 hz2 rfl (by omega) (.slice na ds.length ncap) ds.length (flat ds lvs) (by rfl) ((hn4.alloc _).drew)
              ⟨w4.heap.size, 0, none⟩ 1 1 [.int .i64 op, .int .i64 nn, .string (strB s), (.slice a3 l.length cap3)] (by rfl) (by rfl) (World.news_of_block (cs := #[.int .i64 op, .int .i64 nn, .string (strB s), (.slice a3 l.length cap3)]) (t := 51) (fr := (0, 0)) (heap_alloc_new w4 _)) (by simp [Value.oneCell'])
              (by omega) (by unfold maxLen; omega) (by omega) (by omega) (w4.heap.size + 1) (by simp) ?_; intro gg cap w5 hown5 hgrow hat hlt; have hfz5 : w5.frozen? ⟨pb, 0, none⟩ = false := (hgrow.frozen_far ⟨pb, 0, none⟩ (by simp; omega) hnb').trans (hfz _); have hcz5 : w5.cell? ⟨pb, 0, none⟩ = some (.slice na ds.length ncap) := (hgrow.cell_far ⟨pb, 0, none⟩ (by simp; omega) hnb').trans (hcz _);
            have t5 : Turn (Blks (.slice na ds.length ncap)) w4 w5 := ((((Kept.refl w4).alloc (.cells #[.int .i64 op, .int .i64 nn, .string (strB s), .slice a3 l.length cap3] 51)).drew).turn _).trans ((Grown.turn hgrow).mono fun b hb => hb.symm) (fun x hx => .inl hx)))
        all_goals
          have o6 : Ownv 0 51 4 (w5.setCell ⟨pb, 0, none⟩ (.slice (some ⟨gg, 0, none⟩) (ds.length + 1) cap)) (.slice (some ⟨gg, 0, none⟩) (ds.length + 1) cap) (ds.length + 1) (flat ds lvs ++ [.int .i64 op, .int .i64 nn, .string (strB s), .slice a3 l.length cap3]) :=
            Ownv.setCell hown5 (Ownv.notBlk hown5 (hgb.turn t5 hnb) (by decide)) _
          have g6 : Blk (w5.setCell ⟨pb, 0, none⟩ (.slice (some ⟨gg, 0, none⟩) (ds.length + 1) cap)) pb 69 [.slice (some ⟨gg, 0, none⟩) (ds.length + 1) cap, .map (some mb)] := (hgb.turn t5 hnb).set 0 _
          have t6 : Turn (fun b => Blks (.slice na ds.length ncap) b ∨ b = pb) w4 (w5.setCell ⟨pb, 0, none⟩ (.slice (some ⟨gg, 0, none⟩) (ds.length + 1) cap)) :=
            (t5.mono fun b hb => .inl hb).trans (turn_setCell w5 _ _) (fun x hx => .inl (.inr hx))
          have m6 := ownsMap_turn (ownsMap_kept h6 kw4) t6 (fun hb => hb.elim (ownsMap_notBlk (ownsMap_kept h6 kw4) hn4) (fun e => ownsMap_notBlk' (ownsMap_kept h6 kw4) hgb e.symm))
          have a6 := o4.turn t6 (fun b hb hc => hc.elim (Ownv.apart o4 hn4 (by decide) hb) (fun e => Ownv.notBlk o4 hgb (by decide) (e ▸ hb)))
          generalize w5.setCell ⟨pb, 0, none⟩ (.slice (some ⟨gg, 0, none⟩) (ds.length + 1) cap) = w6 at o6 g6 t6 m6 a6 ⊢
          have z0 := g6.cell 0
          have z1 := g6.cell 1
          simp only [List.getElem?_cons_succ, List.getElem?_cons_zero] at z0 z1
          have hlaw : Keyed Tryd.prog 9 := string_keyed Tryd.underlying9
          go_wp2_with fail
          go_still_tail 11, (by kernel_rfl)
          change wpList _ _ _ _ _ w6.drew
          have kd : Kept w6 w6.drew := (Kept.refl _).drew
          have o7 := Ownv.kept o6 kd
          have g7 := g6.kept kd
          have t7 := t6.kept kd
          have m7 := ownsMap_kept m6 kd
          have a7 := Ownv.kept a6 kd
          clear o6 g6 t6 m6 a6 kd z0 z1
          generalize w6.drew = w7 at o7 g7 t7 m7 a7 ⊢
          have z0 := g7.cell 0
          have z1 := g7.cell 1
          simp only [List.getElem?_cons_succ, List.getElem?_cons_zero] at z0 z1
          have hsub : (((ds.length + 1 : Nat) : Int) - 1) = (ds.length : Int) := by omega
          have hw : IntKind.i64.wrap (ds.length : Int) = (ds.length : Int) := by exact IntWalk.i64_in _ (by omega)
          have hpe : plainElem Tryd.prog 3 (.int .i64 (IntKind.i64.wrap (ds.length : Int))) = some ((.lit (.int .i64 ds.length) : DataW Unit), []) := by rw [hw]; exact plainElem_int Tryd.underlying3 (WalkArith.wf_i64 (by omega))
          have HPE := Shut.mk hpe
          have HW := Shut.mk hw
          have HSUB := Shut.mk hsub
          clear hpe hw hsub
          go_wp2_with (at_mapUpdate; refine wpList_mapUpdate_own _ rfl _ _ _ 67 rfl 9 3 hlaw Tryd.underlying67 (plainElem Tryd.prog 3) mb n D rfl m7 (by unfold maxLen; omega) _ _ (.string (keyR ⟨op, nn, s, l⟩)) rfl rfl HKEY.out (.lit (.int .i64 ds.length)) [] (by first | exact HPE.out | exact plainElem_int Tryd.underlying3 (WalkArith.wf_i64 (by omega))) ?_; intro w8 own8 hg8; have t8 : Turn (fun b => b = mb) w7 w8 := ((Grown.turn hg8).mono fun b hb => by simpa using hb); have g8 := g7.turn t8 (ownsMap_notBlk' m7 g7); have z8 := g8.cell 0; simp only [List.getElem?_cons_zero] at z8)
          go_ret2
          obtain ⟨F', r1, r2, r3⟩ := arg_grow HH.out.good (Nat.lt_of_not_le HB.out) HH.out.oks hok HM.out HX2.out HI.out (by decide) h2 h3 h4 h5 h6 h7 h8 h9 h10 h11 h12 HH.out.lt kw4 t7 g7 (by unfold ndCells; exact o7) (fun b hb => by
            obtain rfl : gg = b := by simpa [Blks, Value.ownBlock] using hb
            rcases hat with c | c
            · exact .inl c
            · have := kw4.size
              exact .inr (by omega)) a7 hlv own8 m7 t8
          rw [mk_new HM.out HX2.out HB.out]
          exact ⟨F', by first | rfl | (simp only [HSUB.out]) | (simp only [HW.out]), r1, r2, r3⟩
    · have HX3 := Shut.mk hx3
      clear hx3
      go_wp2_with (at_lookup; refine wpList_lookup_own_ok_int _ rfl _ _ 67 rfl 9 3 .i64 hlaw Tryd.underlying67 Tryd.underlying3 (zeroInt _) mb n D rfl m2 _ _ rfl HKEY.out ?_; intro c hat hwc; rw [hx1])
      rw [hx2] at hat
      simp only [DataW.lit.injEq, Lit.int.injEq, true_and] at hat
      go_ret2
      rw [mk_old HM.out HX3.out]
      exact ⟨F, by rw [← hat]; rfl, ArG.kept HH.out k02, k02.turn F, fun b hb => .inl hb⟩
end Go.Proofs.YtangbnmgkcmhbaaDoor
end

section
/- The chapter's example: plain facts. -/
set_option linter.unusedSimpArgs false
set_option linter.unusedVariables false
namespace Go.Proofs.YtangbnmgkcmhbaaDoor
open Go

/-- Whatever is closed has all that can be derived. -/
theorem Der.closed {ds : List Nd} {l : List Int} (S : Int → Prop) (h0 : ∀ x ∈ l, S x) (hr : ∀ r ∈ rules ds, (∀ x ∈ r.src, S x) → ∀ x ∈ r.to, S x) {t : Int} (h : Der ds l t) : S t := by
  induction h with
  | base h1 => exact h0 _ h1
  | step r h1 _ h3 ih => exact hr r h1 ih _ h3

/-- The terms of nodes that were made one behind the other. -/
noncomputable def mkAll (ls : List Nd) : List Nd := ls.foldl (fun ds d => (mk ds d).1) []
theorem mkAll_snoc (ls : List Nd) (d : Nd) : mkAll (ls ++ [d]) = (mk (mkAll ls) d).1 := by
  unfold mkAll
  rw [List.foldl_append]
  rfl
theorem mkAll_take (ls : List Nd) {k : Nat} (h : k < ls.length) : mkAll (ls.take (k + 1)) = (mk (mkAll (ls.take k)) (ls.getD k nd0)).1 := by
  rw [List.take_succ_eq_append_getElem h, mkAll_snoc, List.getD_eq_getElem?_getD, List.getElem?_eq_getElem h]
  rfl
theorem mkAll_len (ls : List Nd) : (mkAll ls).length ≤ ls.length := by
  have : ∀ (n : Nat), n ≤ ls.length → (mkAll (ls.take n)).length ≤ n := by
    intro n
    induction n with
    | zero => intro _; simp [mkAll]
    | succ n ih =>
      intro h
      rw [mkAll_take ls (by omega)]
      have := (mk_le (mkAll (ls.take n)) (ls.getD n nd0)).2
      have := ih (by omega)
      omega
  have h := this ls.length (Nat.le_refl _)
  rwa [List.take_length] at h

def lvN : List Nd := [⟨1, 0, [], []⟩, ⟨1, 1, [], []⟩, ⟨9, 0, [], [0, 1, 1, 1]⟩, ⟨9, 0, [], [0, 0, 1, 1]⟩]
theorem lv1 : mk [] ⟨1, 0, [], []⟩ = ([⟨1, 0, [], []⟩], 0, 0) := mk_new (may_atom [] (by decide)) rfl (by decide)
theorem lv2 : mk [⟨1, 0, [], []⟩] ⟨1, 1, [], []⟩ = ([⟨1, 0, [], []⟩, ⟨1, 1, [], []⟩], 1, 0) := mk_new (may_atom _ (by decide)) rfl (by decide)
theorem lv3 : mk [⟨1, 0, [], []⟩, ⟨1, 1, [], []⟩] ⟨9, 0, [], [0, 1, 1, 1]⟩ = ([⟨1, 0, [], []⟩, ⟨1, 1, [], []⟩, ⟨9, 0, [], [0, 1, 1, 1]⟩], 2, 0) :=
  mk_new (may4 (.inr rfl) ⟨by decide, by decide⟩ ⟨by decide, by decide⟩ ⟨by decide, by decide⟩ ⟨by decide, by decide⟩) rfl (by decide)
theorem lv4 : mk [⟨1, 0, [], []⟩, ⟨1, 1, [], []⟩, ⟨9, 0, [], [0, 1, 1, 1]⟩] ⟨9, 0, [], [0, 0, 1, 1]⟩ = (lvN, 3, 0) :=
  mk_new (may4 (.inr rfl) ⟨by decide, by decide⟩ ⟨by decide, by decide⟩ ⟨by decide, by decide⟩ ⟨by decide, by decide⟩) rfl (by decide)
theorem lvAll : mkAll lvN = lvN := by
  unfold mkAll lvN
  simp only [List.foldl_cons, List.foldl_nil]
  rw [lv1]
  simp only
  rw [lv2]
  simp only
  rw [lv3]
  simp only
  rw [lv4]
  rfl
theorem lvRules : rules lvN = [⟨[0, 1, 1, 1], [2]⟩, ⟨[2, 0], [1, 1, 1]⟩, ⟨[0, 0, 1, 1], [3]⟩, ⟨[3, 0], [0, 1, 1]⟩] := rfl
theorem lvNo {l : List Int} (h : ∀ x ∈ l, x = 2 ∨ x = 3) {t : Int} (k : Der lvN l t) : t = 2 ∨ t = 3 := by
  refine Der.closed (fun x => x = 2 ∨ x = 3) h (fun r hr => ?_) k
  rw [lvRules] at hr
  simp only [List.mem_cons, List.not_mem_nil, or_false] at hr
  rcases hr with rfl | rfl | rfl | rfl <;> simp
theorem lvYes : Der lvN [2, 0] 1 := by
  refine .step ⟨[2, 0], [1, 1, 1]⟩ (by rw [lvRules]; simp) (fun x hx => .base hx) (by simp)
theorem itoa0 : Lib.itoa 0 = [48] := by
  rw [itoa_of_nonneg (by decide)]
  exact Lib.decDigits_one (i := 0) (by decide)
theorem itoa1 : Lib.itoa 1 = [49] := by
  rw [itoa_of_nonneg (by decide)]
  exact Lib.decDigits_one (i := 1) (by decide)
/-- What the example's terms look like: enc#0, enc#0, enc#1. -/
theorem lvLooks (kn : Int → Bool) (h0 : kn 0 = false) (h1 : kn 1 = false) : patL (pat lvN kn) [] [2, 2, 3] = ([[101, 110, 99, 35, 48], [101, 110, 99, 35, 48], [101, 110, 99, 35, 49]], [2, 3]) := by
  have n2 : nd lvN 2 = ⟨9, 0, [], [0, 1, 1, 1]⟩ := rfl
  have n3 : nd lvN 3 = ⟨9, 0, [], [0, 0, 1, 1]⟩ := rfl
  have p2 : ∀ one a, pstep lvN kn one a 2 = (pName 9 ++ 35 :: Lib.itoa (numAt a 2), addN a 2) := fun one a => by
    unfold pstep
    rw [n2]
    simp [compound, shownOf, sealedTo, headOf, h0]
  have p3 : ∀ one a, pstep lvN kn one a 3 = (pName 9 ++ 35 :: Lib.itoa (numAt a 3), addN a 3) := fun one a => by
    unfold pstep
    rw [n3]
    simp [compound, shownOf, sealedTo, headOf, h0]
  have q2 : ∀ a, pat lvN kn a 2 = (pName 9 ++ 35 :: Lib.itoa (numAt a 2), addN a 2) := fun a => p2 _ a
  have q3 : ∀ a, pat lvN kn a 3 = (pName 9 ++ 35 :: Lib.itoa (numAt a 3), addN a 3) := fun a => p3 _ a
  have e1 : addN [] 2 = [2] := rfl
  have e2 : addN [2] 2 = [2] := rfl
  have e3 : addN [2] 3 = [2, 3] := rfl
  have m1 : numAt [] 2 = 0 := rfl
  have m2 : numAt [2] 2 = 0 := rfl
  have m3 : numAt [2] 3 = 1 := rfl
  have hn : pName 9 = [101, 110, 99] := rfl
  simp only [patL, q2, q3, e1, e2, e3, m1, m2, m3, hn]
  rw [show ((0 : Nat) : Int) = 0 from rfl, show ((1 : Nat) : Int) = 1 from rfl, itoa0, itoa1]
  rfl
end Go.Proofs.YtangbnmgkcmhbaaDoor
end

section
/- number, opens. -/
set_option linter.unusedSimpArgs false
set_option linter.unusedVariables false
namespace Go.Proofs.YtangbnmgkcmhbaaDoor
open Go.RowKit Go.Maps

/-- What number leaves. -/
def NumPost (V P W : Nat → Prop) (w0 w : World) (wp pp : Value) (ds : List Nd) (kn : List Bool) (ps : List Pc) (a ws : List Int) (t : Int) (e : Ending) (w' : World) : Prop :=
  e = .returned (.string (strB (Lib.itoa (numAt a t : Int)))) ∧ WrG V P W w0 w' wp pp ds kn ps (addN a t) ws ∧ Turn W w w'
theorem numAt_not {a : List Int} {t : Int} (h : t ∉ a) : numAt a t = a.length := by
  unfold numAt
  exact List.idxOf_eq_length h
set_option maxHeartbeats 4000000 in
set_option maxRecDepth 100000 in
theorem number_any {V P W : Nat → Prop} {w0 w : World} {wp pp : Value} {ds : List Nd} {kn : List Bool} {ps : List Pc} {a ws : List Int} (h : WrG V P W w0 w wp pp ds kn ps a ws) {t : Int} (ht : IsT ds t) :
    Calls Tryd.prog 85 #[wp, .int .i64 t] w (NumPost V P W w0 w wp pp ds kn ps a ws t) := by
  have HH := Shut.mk h
  have hal := h.nums.len
  have hfew := h.few
  have t64 : I64 t := ⟨by have := ht.1; omega, by have := ht.2; omega⟩
  obtain ⟨wb, nb, mb, vp, x, rfl, h2, h3, h4, h5, h6, h7, h8, h9, h10⟩ := h.own
  have c2 := h2.cell 2
  simp only [List.getElem?_cons_succ, List.getElem?_cons_zero] at c2
  have hmn : ∀ W : World, (binOp .eql 97 (.map (some nb)) (.map none)).run Tryd.prog W = .ok (.bool false) W := fun W => run_eql_map_nil W 97 _ _ (some nb) Tryd.underlying97
  by_cases hin : t ∈ a
  · have hadd : addN a t = a := by unfold addN; rw [if_pos hin]
    have HA := Shut.mk hadd
    have n64 : I64 (numAt a t : Int) := ⟨by omega, by have := numAt_le a t; omega⟩
    have hit := itoaD_any (numAt a t : Int) n64 w h.tab.tabs.pow
    clear h hadd
    go_enter Tryd.func85, Tryd.ntmps85
    go_wp2_with (first
      | (at_lookup; refine go_im_look rfl _ _ rfl nb a _ rfl h4 t t64 rfl true (by simp [hin]) ?_; intro c hc; obtain rfl := hc rfl)
      | (go_at_call 93; (with_reducible refine hit.mono ?_); rintro e w' ⟨rfl, k1⟩))
    go_ret
    exact ⟨rfl, by rw [HA.out]; exact HH.out.keep k1, k1.turn W⟩
  · have hadd : addN a t = a ++ [t] := by unfold addN; rw [if_neg hin]
    have hna := numAt_not hin
    have HA := Shut.mk hadd
    have HN := Shut.mk hna
    have HX := Shut.mk (addN_ext a t)
    have HNU := Shut.mk (h.nums.add ht)
    have n64 : I64 (a.length : Int) := ⟨by omega, by omega⟩
    have hits := fun W (kW : TabsD W) => itoaD_any (a.length : Int) n64 W kW.tabs.pow
    have HTD := Shut.mk h.tab
    clear h hadd hna
    go_enter Tryd.func85, Tryd.ntmps85
    go_wp2_with (first
      | (at_lookup; refine go_im_look rfl _ _ rfl nb a _ rfl h4 t t64 rfl false (by simp [hin]) ?_; intro c hc)
      | (at_len; refine go_im_len rfl _ rfl nb a _ rfl h4 ?_)
      | (at_mapUpdate; refine go_im_put rfl _ _ _ rfl nb a _ rfl h4 (by omega) t t64 hin rfl (a.length : Int) n64 rfl ?_; intro w1 m1 t1; have hT1 : TabsD w1 := HH.out.tabs.kept (Turn.keptOf HH.out.kept t1 (fun b hb => HH.out.basW b (by rw [hb]; exact h9))); have hit := hits w1 hT1)
      | (go_at_call 93; (with_reducible refine hit.mono ?_); rintro e w' ⟨rfl, k1⟩))
    go_ret
    have hT := t1.kept k1
    have hne : nb ≠ wb := fun e => by
      obtain ⟨D, n, hd, _⟩ := h4
      exact ownsMap_notBlk' hd h2 e.symm
    have m2 := (m1 (fun t' => (numAt (addN a t) t' : Int)) (fun y hy => by
      show ((numAt (addN a t) y : Nat) : Int) = (numAt a y : Nat)
      rw [numAt_ext HX.out hy]) (by
      show ((numAt (addN a t) t : Nat) : Int) = _
      rw [numAt_add, HN.out])).kept k1
    rw [← HA.out] at m2
    refine ⟨by rw [HN.out]; rfl, ⟨⟨wb, nb, mb, vp, x, rfl, h2.turn hT hne.symm, h3.turn hT (fun b hv e => HH.out.vw b hv (by rw [show b = nb from e]; exact h9)), m2, h5.turn hT h7.symm, h6.ext HH.out.good HX.out (PExt.refl _), h7, h8, h9, h10⟩, HH.out.pcs.turn hT (fun b hp e => HH.out.pw b hp (by rw [show b = nb from e]; exact h9)), fun b hb => Nat.lt_of_lt_of_le (HH.out.ltW b hb) hT.size, HH.out.vp, HH.out.vw, HH.out.pw, HH.out.basP, HH.out.basW, Turn.keptOf HH.out.kept hT (fun b hb => HH.out.basW b (by rw [show b = nb from hb]; exact h9)), HH.out.good, HH.out.few, HH.out.tabs, HNU.out⟩, hT.mono (fun b hb => by rw [show b = nb from hb]; exact h9)⟩
end Go.Proofs.YtangbnmgkcmhbaaDoor
end

section
/- opens. -/
set_option linter.unusedSimpArgs false
set_option linter.unusedVariables false
namespace Go.Proofs.YtangbnmgkcmhbaaDoor
open Go.RowKit Go.Maps

/-- Whether a term is a Seal of a Pub whose secret key can be derived. -/
def opB (ds : List Nd) (kn : List Bool) (d : Nd) : Bool := match sealedTo ds d with | some sk => knB kn sk | none => false
set_option maxHeartbeats 4000000 in
set_option maxRecDepth 100000 in
theorem opens_any {V : Nat → Prop} {w : World} {vp : Value} {ds : List Nd} {kn : List Bool} (h : IsVw V w vp ds kn) (hg : Good ds) (hl : ds.length ≤ 100000) {t : Int} (ht : IsT ds t) {nv : Value} (hn : RdN w nv (nd ds t)) :
    Calls Tryd.prog 86 #[vp, nv] w fun e w' => e = .returned (.bool (opB ds kn (nd ds t))) ∧ Kept w w' := by
  have HH := Shut.mk h
  have HSK : Shut (∀ sk, sealedTo ds (nd ds t) = some sk → IsT ds sk) := ⟨fun sk hs => by
    obtain ⟨h1, h2, rfl⟩ := sealed_some hs
    have p4 := (hg.mayT ht).p4 (.inl h1)
    have hk := hg.partT ht _ (getD_mem (l := (nd ds t).l) (i := 0) (by omega))
    have p1 := (hg.mayT hk).p1 (.inl h2)
    exact hg.partT hk _ (getD_mem (by omega))⟩
  obtain ⟨vb, nv0, kv, rfl, r0, r1, r2, r3⟩ := h.read
  obtain ⟨na, ncap, rfl, _, _, _⟩ := r2.len
  have hmx : opB ds kn (nd ds t) = match sealedTo ds (nd ds t) with | some sk => knB kn sk | none => false := rfl
  have HOP := Shut.mk hmx
  obtain ⟨lv, rfl, hr⟩ := hn
  have hRN : ∀ W, Kept w W → RdN W (.agg #[.int .i64 (nd ds t).op, .int .i64 (nd ds t).n, .string (strB (nd ds t).s), lv]) (nd ds t) := fun W k => ⟨lv, rfl, hr.kept k⟩
  have kA := (Kept.refl w).alloc (.cells #[.int .i64 (nd ds t).op, .int .i64 (nd ds t).n, .string (strB (nd ds t).s), lv] 51)
  have bA := Blk.new w [.int .i64 (nd ds t).op, .int .i64 (nd ds t).n, .string (strB (nd ds t).s), lv] 51
  have HSE := Shut.mk (fun W (kW : Kept w W) => sealed_any (r2.kept kW) hg hl ht (hRN _ kW))
  clear hmx
  generalize hopb : opB ds kn (nd ds t) = ob at HOP ⊢
  have q0 := kA.cell (p := ⟨vb, 0, none⟩) (World.block_lt_of_cell? _ _ r0) |>.trans r0
  generalize hso : sealedTo ds (nd ds t) = o at HOP HSE HSK
  obtain ⟨la, lc, rfl, _, _, _⟩ := hr.len
  have e1 : (nd ds t).l.length = (nd ds t).l.length := rfl
  generalize (nd ds t).op = op at kA HSE q0 bA
  generalize (nd ds t).n = nn at kA HSE q0 bA
  generalize strB (nd ds t).s = X at kA HSE q0 bA
  generalize (nd ds t).l.length = L at kA HSE q0 bA
  go_enter Tryd.func86, Tryd.ntmps86
  go_wp2_with fail
  generalize w.alloc (.cells #[.int .i64 op, .int .i64 nn, .string X, .slice la L lc] 51) = wA at kA q0 bA ⊢
  have a0 := bA.cell 0
  have a1 := bA.cell 1
  have a2 := bA.cell 2
  have a3 := bA.cell 3
  simp only [List.getElem?_cons_succ, List.getElem?_cons_zero] at a0 a1 a2 a3
  have hv0 := World.block_lt_of_cell? _ _ q0
  cases o with
  | none =>
    have hse : ∀ W, Kept w W → _ := HSE.out
    unfold SealPost at hse
    simp only [Option.getD_none, Option.isSome_none] at hse
    go_region_held3 (fun w' => w'.cell? ⟨vb, 0, none⟩ = some (.slice na ds.length ncap) ∧ w'.cell? ⟨w.heap.size, 0, none⟩ = some (.int .i64 op) ∧ w'.cell? ⟨w.heap.size, 1, none⟩ = some (.int .i64 nn) ∧ w'.cell? ⟨w.heap.size, 2, none⟩ = some (.string X) ∧ w'.cell? ⟨w.heap.size, 3, none⟩ = some (.slice la L lc))
      (first | exact ⟨q0, a0, a1, a2, a3⟩ | assumption | go_keep)
      ((go_at_call 84; (with_reducible refine (hse _ (by first | exact kA | exact kA.drew | exact kA.drewN _)).mono ?_); rintro e w1 ⟨rfl, k1⟩; have k1' : Kept wA w1 := (by first | exact k1 | exact ((Kept.refl wA).drew).trans k1 | exact ((Kept.refl wA).drewN _).trans k1); have b1 := bA.kept k1'; have s1 : w1.cell? ⟨vb, 0, none⟩ = some (.slice na ds.length ncap) ∧ w1.cell? ⟨w.heap.size, 0, none⟩ = some (.int .i64 op) ∧ w1.cell? ⟨w.heap.size, 1, none⟩ = some (.int .i64 nn) ∧ w1.cell? ⟨w.heap.size, 2, none⟩ = some (.string X) ∧ w1.cell? ⟨w.heap.size, 3, none⟩ = some (.slice la L lc) := ⟨(k1'.cell (p := ⟨vb, 0, none⟩) hv0).trans q0, b1.cell 0, b1.cell 1, b1.cell 2, b1.cell 3⟩))
    all_goals
      go_wp2
      go_ret
      exact ⟨by rw [HOP.out]; rfl, kA.trans k1'⟩
  | some sk =>
    have hse : ∀ W, Kept w W → _ := HSE.out
    unfold SealPost at hse
    simp only [Option.getD_some, Option.isSome_some] at hse
    have hT := HSK.out sk rfl
    go_region_held3 (fun w' => w'.cell? ⟨vb, 0, none⟩ = some (.slice na ds.length ncap) ∧ w'.cell? ⟨w.heap.size, 0, none⟩ = some (.int .i64 op) ∧ w'.cell? ⟨w.heap.size, 1, none⟩ = some (.int .i64 nn) ∧ w'.cell? ⟨w.heap.size, 2, none⟩ = some (.string X) ∧ w'.cell? ⟨w.heap.size, 3, none⟩ = some (.slice la L lc))
      (first | exact ⟨q0, a0, a1, a2, a3⟩ | assumption | go_keep)
      ((go_at_call 84; (with_reducible refine (hse _ (by first | exact kA | exact kA.drew | exact kA.drewN _)).mono ?_); rintro e w1 ⟨rfl, k1⟩; have k1' : Kept wA w1 := (by first | exact k1 | exact ((Kept.refl wA).drew).trans k1 | exact ((Kept.refl wA).drewN _).trans k1); have b1 := bA.kept k1'; have s1 : w1.cell? ⟨vb, 0, none⟩ = some (.slice na ds.length ncap) ∧ w1.cell? ⟨w.heap.size, 0, none⟩ = some (.int .i64 op) ∧ w1.cell? ⟨w.heap.size, 1, none⟩ = some (.int .i64 nn) ∧ w1.cell? ⟨w.heap.size, 2, none⟩ = some (.string X) ∧ w1.cell? ⟨w.heap.size, 3, none⟩ = some (.slice la L lc) := ⟨(k1'.cell (p := ⟨vb, 0, none⟩) hv0).trans q0, b1.cell 0, b1.cell 1, b1.cell 2, b1.cell 3⟩))
    all_goals
      have k1'' : Kept w w1 := kA.trans k1'
      have k2 : Kept w1 (w1.alloc (.cells #[.int .i64 sk] 3)) := (Kept.refl w1).alloc _
      have hcan := can_any (HH.out.kept (k1''.trans k2)) (OwnI.rd (lit1 w1 sk)) (fun x hx => by rw [List.mem_singleton.1 hx]; exact hT)
      have he : [sk].all (knB kn) = ob := by rw [HOP.out]; simp
      rw [he] at hcan
      clear he
      go_wp2_with (go_at_call 30; (with_reducible refine hcan.mono ?_); rintro e w' ⟨rfl, rfl⟩)
      go_ret
      exact ⟨rfl, k1''.trans k2⟩
end Go.Proofs.YtangbnmgkcmhbaaDoor
end

section
/- told. -/
set_option linter.unusedSimpArgs false
set_option linter.unusedVariables false
namespace Go.Proofs.YtangbnmgkcmhbaaDoor
open Go.RowKit Go.Maps

/-- What a term's pattern begins with, the parts that stand behind it, the numbers then. -/
def tHead (ds : List Nd) (kn : Int → Bool) (a : List Int) (t : Int) : List UInt8 :=
  if (nd ds t).op = 2 then 34 :: ((nd ds t).s ++ [34]) else if compound kn (nd ds t) = true then pName (nd ds t).op else headOf a (nd ds t) t
def tParts (ds : List Nd) (kn : Int → Bool) (t : Int) : Option (List Int) :=
  if (nd ds t).op = 2 then none else if compound kn (nd ds t) = true then some (nd ds t).l else shownOf ds kn (nd ds t)
def tNums (ds : List Nd) (kn : Int → Bool) (a : List Int) (t : Int) : List Int :=
  if (nd ds t).op = 2 then a else if compound kn (nd ds t) = true then a else addN a t
theorem pstep_told (ds : List Nd) (kn : Int → Bool) (one : PO) (a : List Int) (t : Int) :
    pstep ds kn one a t = match tParts ds kn t with | none => (tHead ds kn a t, tNums ds kn a t) | some l => br (tHead ds kn a t) (pts one true (tNums ds kn a t) l) := by
  unfold pstep tParts tHead tNums
  split
  · rfl
  split
  · rfl
  · cases shownOf ds kn (nd ds t) <;> rfl
theorem tParts_sub {ds : List Nd} {kn : Int → Bool} {t : Int} {l : List Int} (h : tParts ds kn t = some l) : ∀ x ∈ l, x ∈ (nd ds t).l := by
  unfold tParts at h
  split at h
  · cases h
  split at h
  · obtain rfl := Option.some.inj h
    exact fun x hx => hx
  · exact shown_sub h

/-- What told leaves. -/
def ToldPost (V P W : Nat → Prop) (w0 w : World) (wp pp : Value) (ds : List Nd) (kn : List Bool) (ps : List Pc) (a ws : List Int) (hd : List UInt8) (parts : Option (List Int)) (a' : List Int) (e : Ending) (w' : World) : Prop :=
  ∃ pv, e = .returned (.tuple #[.string (strB hd), pv, .bool parts.isSome]) ∧ (∀ l, parts = some l → RdI w' pv l ∧ ∀ b, VB pv b → V b) ∧ WrG V P W w0 w' wp pp ds kn ps a' ws ∧ Turn W w w'

/-- What of a writer told reads. -/
theorem WrG.read {V P W : Nat → Prop} {w0 w : World} {wp pp : Value} {ds : List Nd} {kn : List Bool} {ps : List Pc} {a ws : List Int} (h : WrG V P W w0 w wp pp ds kn ps a ws) {k : Nat} (hk : k < ds.length) :
    ∃ (wb vb nb ncap : Nat) (la : Option Addr) (lc : Nat), wp = .pointer (some ⟨wb, 0, none⟩) ∧ W wb ∧ V vb ∧ V nb ∧ (∀ b, VB (.slice la (nd ds k).l.length lc) b → V b) ∧ IsVw V w (.pointer (some ⟨vb, 0, none⟩)) ds kn ∧
      w.cell? ⟨wb, 0, none⟩ = some (.pointer (some ⟨vb, 0, none⟩)) ∧ w.cell? ⟨vb, 0, none⟩ = some (.slice (some ⟨nb, 0, none⟩) ds.length ncap) ∧
      w.cell? ⟨nb, k * 4, none⟩ = some (.int .i64 (nd ds k).op) ∧ w.cell? ⟨nb, k * 4 + 1, none⟩ = some (.int .i64 (nd ds k).n) ∧ w.cell? ⟨nb, k * 4 + 2, none⟩ = some (.string (strB (nd ds k).s)) ∧ w.cell? ⟨nb, k * 4 + 3, none⟩ = some (.slice la (nd ds k).l.length lc) ∧
      RdI w (.slice la (nd ds k).l.length lc) (nd ds k).l := by
  obtain ⟨wb, nb', mb, vp, x, rfl, h2, h3, h4, h5, h6, h7, h8, h9, h10⟩ := h.own
  have h3' := h3
  obtain ⟨vb, nv, kv, lvs, rfl, i2, i3, i4, i5, i6, i7, i8, i9, i10⟩ := h3.rep
  obtain ⟨g, cap, rfl, g1, g2, g3, g4, g5, g6⟩ := Ownv.row i3 (by omega)
  have hat : ∀ j u, j < 4 → (ndCells (ds.getD k nd0) (lvs.getD k undef))[j]? = some u → w.cell? ⟨g, k * 4 + j, none⟩ = some u := by
    intro j u hj hu
    have := g5 (k * 4 + j) (by omega)
    rw [List.getD_eq_getElem?_getD, flat_at ds lvs k j hk hj, hu] at this
    exact this
  have hr := (i5 k hk).rd
  obtain ⟨la, lc, hlv, _, _, _⟩ := hr.len
  rw [nd_of]
  refine ⟨wb, vb, g, cap, la, lc, rfl, h8, i7, i8 g rfl, fun b hb => i10 k hk b ?_, h3', h2.cell 0, i2.cell 0, hat 0 _ (by omega) rfl, hat 1 _ (by omega) rfl, hat 2 _ (by omega) rfl, ?_, ?_⟩
  · obtain ⟨o, sp, n', c', _, hv⟩ := hb
    rw [hlv, hv]; rfl
  · rw [← hlv]; exact hat 3 _ (by omega) rfl
  · rw [← hlv]; exact hr

set_option maxHeartbeats 4000000 in
set_option maxRecDepth 100000 in
theorem told_text {V P W : Nat → Prop} {w0 w : World} {wp pp : Value} {ds : List Nd} {kn : List Bool} {ps : List Pc} {a ws : List Int} (h : WrG V P W w0 w wp pp ds kn ps a ws) {t : Int} (ht : IsT ds t) (ho : (nd ds t).op = 2) :
    Calls Tryd.prog 74 #[wp, .int .i64 t] w (ToldPost V P W w0 w wp pp ds kn ps a ws (34 :: ((nd ds t).s ++ [34])) none a) := by
  have HH := Shut.mk h
  have hfew := h.few
  have hs0 := (h.good.mayT ht).s0
  obtain ⟨k, rfl, hk⟩ := isT_nat ht
  obtain ⟨wb, vb, nb, ncap, la, lc, rfl, hW, hVv, hVn, hVl, hvw, c0, c1, y0, y1, y2, y3, hr⟩ := h.read hk
  obtain ⟨_, _, hlv, l1, l2, l3⟩ := hr.len
  have kI : (k : Int) < (ds.length : Int) := by omega
  have HJ : Shut (strB (34 :: ((nd ds (k : Int)).s ++ [34])) = ((⟨#[34]⟩ : ByteArray) ++ strB (nd ds (k : Int)).s) ++ (⟨#[34]⟩ : ByteArray)) := ⟨by
    have e1 : 34 :: ((nd ds (k : Int)).s ++ [34]) = ([34] ++ (nd ds (k : Int)).s) ++ [34] := by simp
    rw [e1, strB_cat2, strB_cat2]
    rfl⟩
  have e2 := strB_size (nd ds (k : Int)).s
  rw [ho] at y0
  generalize (nd ds (k : Int)).n = nn at y1
  generalize (nd ds (k : Int)).l.length = L at y3
  generalize strB (nd ds (k : Int)).s = X at y2 HJ e2
  have kA : Kept w (w.alloc (.cells #[.int .i64 2, .int .i64 nn, .string X, .slice la L lc] 51)) := (Kept.refl w).alloc _
  clear h hvw hr ho
  go_enter Tryd.func74, Tryd.ntmps74
  go_wp2
  go_ret3
  refine ⟨_, by rw [HJ.out]; rfl, fun l hl => ?_, HH.out.keep kA, kA.turn W⟩
  cases hl

theorem pName_len (o : Int) : (pName o).length ≤ 5 := by
  unfold pName
  split
  · simp
  · exact kName_len o
set_option maxHeartbeats 4000000 in
set_option maxRecDepth 100000 in
theorem told_list {V P W : Nat → Prop} {w0 w : World} {wp pp : Value} {ds : List Nd} {kn : List Bool} {ps : List Pc} {a ws : List Int} (h : WrG V P W w0 w wp pp ds kn ps a ws) {t : Int} (ht : IsT ds t) (ho : (nd ds t).op = 3) :
    Calls Tryd.prog 74 #[wp, .int .i64 t] w (ToldPost V P W w0 w wp pp ds kn ps a ws (pName 3) (some (nd ds t).l) a) := by
  have HH := Shut.mk h
  have hfew := h.few
  have HT := h.tab.names 3 (by decide) (by decide) (by decide)
  obtain ⟨k, rfl, hk⟩ := isT_nat ht
  obtain ⟨wb, vb, nb, ncap, la, lc, rfl, hW, hVv, hVn, hVl, hvw, c0, c1, y0, y1, y2, y3, hr⟩ := h.read hk
  obtain ⟨_, _, hlv, l1, l2, l3⟩ := hr.len
  have kI : (k : Int) < (ds.length : Int) := by omega
  have HR := Shut.mk hr
  have HV := Shut.mk hVl
  rw [ho] at y0
  have HL : Shut ((nd ds (k : Int)).l.length = (nd ds (k : Int)).l.length) := ⟨rfl⟩
  generalize (nd ds (k : Int)).n = nn at y1
  generalize (nd ds (k : Int)).l = l at y3 HR HV l1 l3 ⊢
  generalize strB (nd ds (k : Int)).s = X at y2
  have kA : Kept w (w.alloc (.cells #[.int .i64 3, .int .i64 nn, .string X, .slice la l.length lc] 51)) := (Kept.refl w).alloc _
  have gT := kA.cell (p := ⟨1, 3, none⟩) (World.block_lt_of_cell? _ _ HT) |>.trans HT
  have gT' : (w.alloc (.cells #[.int .i64 3, .int .i64 nn, .string X, .slice la l.length lc] 51)).cell? ⟨1, 3, none⟩ = some (.string (strB (pName 3))) := gT
  generalize hNM : strB (pName 3) = NM at gT'
  have HN := Shut.mk hNM
  clear h hvw hr ho hlv hVl gT HT hNM
  go_enter Tryd.func74, Tryd.ntmps74
  go_wp2
  have bA := Blk.new w [.int .i64 3, .int .i64 nn, .string X, .slice la l.length lc] 51
  generalize w.alloc (.cells #[.int .i64 3, .int .i64 nn, .string X, .slice la l.length lc] 51) = wA at kA gT' bA ⊢
  have a0 := bA.cell 0
  have a3 := bA.cell 3
  simp only [List.getElem?_cons_succ, List.getElem?_cons_zero] at a0 a3
  go_quiet (fail)
  go_wp2
  go_ret3
  refine ⟨_, by rw [HN.out]; rfl, fun l' hl' => ?_, HH.out.keep (by first | exact kA | exact kA.drewN _ | exact (kA.drewN _).drewN _), Kept.turn (by first | exact kA | exact kA.drewN _ | exact (kA.drewN _).drewN _) W⟩
  obtain rfl := Option.some.inj hl'
  exact ⟨HR.out.kept (by first | exact kA | exact kA.drewN _ | exact (kA.drewN _).drewN _), HV.out⟩

set_option maxHeartbeats 4000000 in
set_option maxRecDepth 100000 in
theorem told_open {V P W : Nat → Prop} {w0 w : World} {wp pp : Value} {ds : List Nd} {kn : List Bool} {ps : List Pc} {a ws : List Int} (h : WrG V P W w0 w wp pp ds kn ps a ws) {t : Int} (ht : IsT ds t) (o1 : (nd ds t).op ≠ 1) (o2 : (nd ds t).op ≠ 2) (o3 : (nd ds t).op ≠ 3) (hc : (nd ds t).l.all (knB kn) = true) :
    Calls Tryd.prog 74 #[wp, .int .i64 t] w (ToldPost V P W w0 w wp pp ds kn ps a ws (pName (nd ds t).op) (some (nd ds t).l) a) := by
  have HH := Shut.mk h
  have hfew := h.few
  have hmay := h.good.mayT ht
  obtain ⟨o, hoo⟩ := Int.eq_ofNat_of_zero_le (show 0 ≤ (nd ds t).op by have := hmay.op1; omega)
  have ob1 := hmay.op1
  have ob2 := hmay.op12
  rw [hoo] at o1 o2 o3 ob1 ob2
  have HT := h.tab.names o (by omega) (by omega) (by omega)
  have hpt := h.good.partT ht
  obtain ⟨k, rfl, hk⟩ := isT_nat ht
  obtain ⟨wb, vb, nb, ncap, la, lc, rfl, hW, hVv, hVn, hVl, hvw, c0, c1, y0, y1, y2, y3, hr⟩ := h.read hk
  obtain ⟨_, _, hlv, l1, l2, l3⟩ := hr.len
  have kI : (k : Int) < (ds.length : Int) := by omega
  have hcan := fun (U : World) (kU : Kept w U) => can_any (hvw.kept kU) (hr.kept kU) hpt
  rw [hc] at hcan
  have HR := Shut.mk hr
  have HV := Shut.mk hVl
  rw [hoo] at y0
  rw [hoo]
  generalize (nd ds (k : Int)).n = nn at y1
  generalize (nd ds (k : Int)).l = l at y3 HR HV l1 l3 hcan ⊢
  generalize strB (nd ds (k : Int)).s = X at y2
  have bA := Blk.new w [.int .i64 (o : Int), .int .i64 nn, .string X, .slice la l.length lc] 51
  have kA : Kept w (w.alloc (.cells #[.int .i64 (o : Int), .int .i64 nn, .string X, .slice la l.length lc] 51)) := (Kept.refl w).alloc _
  have gT := kA.cell (p := ⟨1, o, none⟩) (World.block_lt_of_cell? _ _ HT) |>.trans HT
  have gT' : (w.alloc (.cells #[.int .i64 (o : Int), .int .i64 nn, .string X, .slice la l.length lc] 51)).cell? ⟨1, o, none⟩ = some (.string (strB (pName (o : Int)))) := gT
  have cw := kA.cell (p := ⟨wb, 0, none⟩) (World.block_lt_of_cell? _ _ c0) |>.trans c0
  generalize hNM : strB (pName (o : Int)) = NM at gT'
  have HN := Shut.mk hNM
  have b2 : ((o : Int) == 2) = false := by simpa using o2
  have b3 : ((o : Int) == 3) = false := by simpa using o3
  have b1 : ((o : Int) != 1) = true := by simpa using o1
  have n13 : o < 13 := by omega
  have n13I : (o : Int) < 13 := by omega
  clear h hvw hr hoo hlv hVl gT HT hNM hmay hpt hc o1 o2 o3
  go_enter Tryd.func74, Tryd.ntmps74
  go_wp2
  generalize w.alloc (.cells #[.int .i64 (o : Int), .int .i64 nn, .string X, .slice la l.length lc] 51) = wA at kA gT' bA cw ⊢
  have a0 := bA.cell 0
  have a3 := bA.cell 3
  simp only [List.getElem?_cons_succ, List.getElem?_cons_zero] at a0 a3
  have hq := fun (n : Nat) => Calls.quiet_of_same ((hcan (wA.drewN n) (kA.drewN n)).mono fun e w' ⟨x, y⟩ => ⟨x, y.symm⟩)
  go_quiet ((go_at_call 30; exact hq _))
  go_wp2
  go_quiet (fail)
  go_wp2
  go_ret3
  refine ⟨_, by rw [HN.out]; rfl, fun l' hl' => ?_, HH.out.keep (by first | exact kA | exact kA.drewN _ | exact (kA.drewN _).drewN _), Kept.turn (by first | exact kA | exact kA.drewN _ | exact (kA.drewN _).drewN _) W⟩
  obtain rfl := Option.some.inj hl'
  exact ⟨HR.out.kept (by first | exact kA | exact kA.drewN _ | exact (kA.drewN _).drewN _), HV.out⟩
end Go.Proofs.YtangbnmgkcmhbaaDoor
end

section
/- told, where a term has a number. -/
set_option linter.unusedSimpArgs false
set_option linter.unusedVariables false
namespace Go.Proofs.YtangbnmgkcmhbaaDoor
open Go.RowKit Go.Maps

theorem shown_10 {ds : List Nd} {kn : Int → Bool} {d : Nd} (h : d.op = 10) : shownOf ds kn d = some (d.l.drop 1) := by unfold shownOf; rw [if_pos h]
theorem shown_t {ds : List Nd} {kn : List Bool} {d : Nd} (h : d.op ≠ 10) (k : opB ds kn d = true) : shownOf ds (knB kn) d = some ((d.l.drop 1).take 2) ∧ d.op = 8 := by
  unfold shownOf
  rw [if_neg h]
  unfold opB at k
  cases hs : sealedTo ds d with
  | none => rw [hs] at k; cases k
  | some sk =>
    rw [hs] at k
    simp only at k ⊢
    rw [if_pos k]
    exact ⟨rfl, (sealed_some hs).1⟩
theorem shown_f {ds : List Nd} {kn : List Bool} {d : Nd} (h : d.op ≠ 10) (k : opB ds kn d = false) : shownOf ds (knB kn) d = none := by
  unfold shownOf
  rw [if_neg h]
  unfold opB at k
  cases hs : sealedTo ds d with
  | none => rfl
  | some sk =>
    rw [hs] at k
    simp only at k ⊢
    rw [if_neg (by rw [k]; simp)]

set_option maxHeartbeats 8000000 in
set_option maxRecDepth 100000 in
theorem told_num {V P W : Nat → Prop} {w0 w : World} {wp pp : Value} {ds : List Nd} {kn : List Bool} {ps : List Pc} {a ws : List Int} (h : WrG V P W w0 w wp pp ds kn ps a ws) {t : Int} (ht : IsT ds t) (o2 : (nd ds t).op ≠ 2) (hc : compound (knB kn) (nd ds t) = false) :
    Calls Tryd.prog 74 #[wp, .int .i64 t] w (ToldPost V P W w0 w wp pp ds kn ps a ws (headOf a (nd ds t) t) (shownOf ds (knB kn) (nd ds t)) (addN a t)) := by
  have HH := Shut.mk h
  have hfew := h.few
  have hmay := h.good.mayT ht
  obtain ⟨o, hoo⟩ := Int.eq_ofNat_of_zero_le (show 0 ≤ (nd ds t).op by have := hmay.op1; omega)
  have hoo : (nd ds t).op = (o : Int) := hoo
  have ob1 := hmay.op1
  have ob2 := hmay.op12
  have o3 : (nd ds t).op ≠ 3 := fun e => by unfold compound at hc; rw [e] at hc; simp at hc
  have hor : (nd ds t).op = 1 ∨ ((nd ds t).op ≠ 1 ∧ (nd ds t).l.all (knB kn) = false) := by
    by_cases c : (nd ds t).op = 1
    · exact .inl c
    · refine .inr ⟨c, ?_⟩
      unfold compound at hc
      rw [Bool.or_eq_false_iff] at hc
      have h2 := hc.2
      rw [show ((nd ds t).op != 1) = true by simpa using c, Bool.true_and] at h2
      exact h2
  have S10 : Shut ((nd ds t).op = 10 → shownOf ds (knB kn) (nd ds t) = some ((nd ds t).l.drop 1) ∧ (nd ds t).l.length = 2) := ⟨fun e => ⟨shown_10 e, hmay.p2 (.inl e)⟩⟩
  have ST : Shut ((nd ds t).op ≠ 10 → opB ds kn (nd ds t) = true → shownOf ds (knB kn) (nd ds t) = some (((nd ds t).l.drop 1).take 2) ∧ (nd ds t).l.length = 4) := ⟨fun e k => ⟨(shown_t e k).1, hmay.p4 (.inl (shown_t e k).2)⟩⟩
  have SF : Shut ((nd ds t).op ≠ 10 → opB ds kn (nd ds t) = false → shownOf ds (knB kn) (nd ds t) = none) := ⟨fun e k => shown_f e k⟩
  rw [hoo] at o2 o3 ob1 ob2 hor S10 ST SF
  have HT := h.tab.names o (by omega) (by omega) (by omega)
  have hpt := h.good.partT ht
  have HG := Shut.mk h.good
  have hnum := fun (U : World) (kU : Kept w U) => number_any (h.keep kU) ht
  unfold NumPost at hnum
  have HJ : Shut (strB (headOf a (nd ds t) t) = (strB (pName (o : Int)) ++ (⟨#[35]⟩ : ByteArray)) ++ strB (Lib.itoa (numAt a t : Int))) := ⟨by
    unfold headOf
    rw [hoo]
    have e1 : pName (o : Int) ++ 35 :: Lib.itoa (numAt a t : Int) = (pName (o : Int) ++ [35]) ++ Lib.itoa (numAt a t : Int) := by simp
    rw [e1, strB_cat2, strB_cat2]
    rfl⟩
  have hil : (strB (Lib.itoa (numAt a t : Int))).size ≤ 21 := by
    rw [strB_size]
    exact itoa_len ⟨by omega, by have := numAt_le a t; have := h.nums.len; omega⟩
  have hnl : (strB (pName (o : Int))).size ≤ 5 := by rw [strB_size]; exact pName_len _
  have HTO := Shut.mk ht
  obtain ⟨k, rfl, hk⟩ := isT_nat ht
  obtain ⟨wb, vb, nb, ncap, la, lc, rfl, hW, hVv, hVn, hVl, hvw, c0, c1, y0, y1, y2, y3, hr⟩ := h.read hk
  obtain ⟨_, _, hlv, l1, l2, l3⟩ := hr.len
  have kI : (k : Int) < (ds.length : Int) := by omega
  have hcan := fun (hb : (nd ds (k : Int)).l.all (knB kn) = false) (U : World) (kU : Kept w U) => (show Calls Tryd.prog 30 #[.pointer (some ⟨vb, 0, none⟩), .slice la (nd ds (k : Int)).l.length lc] U fun e w' => e = .returned (.bool false) ∧ U = w' by have := can_any (hvw.kept kU) (hr.kept kU) hpt; rw [hb] at this; exact this)
  have HRN : Shut (∀ U, RdI U (.slice la (nd ds (k : Int)).l.length lc) (nd ds (k : Int)).l → RdN U (.agg #[.int .i64 (nd ds (k : Int)).op, .int .i64 (nd ds (k : Int)).n, .string (strB (nd ds (k : Int)).s), .slice la (nd ds (k : Int)).l.length lc]) (nd ds (k : Int))) := ⟨fun U hU => ⟨_, rfl, hU⟩⟩
  have HR := Shut.mk hr
  have HV := Shut.mk hVl
  have HTL : Shut (∀ U, TabsD U → U.cell? ⟨1, o, none⟩ = some (.string (strB (pName (o : Int))))) := ⟨fun U hU => hU.names o (by omega) (by omega) (by omega)⟩
  rw [hoo] at y0 HRN
  generalize headOf a (nd ds (k : Int)) (k : Int) = hd at HJ ⊢
  generalize shownOf ds (knB kn) (nd ds (k : Int)) = shn at S10 ST SF ⊢
  have hopn := fun (U : World) (V' : Nat → Prop) (vp : Value) (hv : IsVw V' U vp ds kn) (nv : Value) (hn : RdN U nv (nd ds (k : Int))) => opens_any hv HG.out hfew HTO.out hn
  generalize opB ds kn (nd ds (k : Int)) = ob at ST SF hopn
  generalize (nd ds (k : Int)).n = nn at y1 HRN
  generalize strB (nd ds (k : Int)).s = X at y2 HRN
  have HOPN : Shut (∀ (U : World) (V' : Nat → Prop) (vp : Value), IsVw V' U vp ds kn → RdI U (.slice la (nd ds (k : Int)).l.length lc) (nd ds (k : Int)).l → Calls Tryd.prog 86 #[vp, .agg #[.int .i64 (o : Int), .int .i64 nn, .string X, .slice la (nd ds (k : Int)).l.length lc]] U fun e w' => e = .returned (.bool ob) ∧ Kept U w') := ⟨fun U V' vp hv hU => hopn U V' vp hv _ (HRN.out U hU)⟩
  clear hopn HRN hr hpt hmay hoo hc
  generalize (nd ds (k : Int)).l = l at y3 HR HV l1 l3 hcan S10 ST hor HOPN
  generalize strB (pName (o : Int)) = NM at HT HJ hnl HTL
  generalize strB (Lib.itoa (numAt a (k : Int) : Int)) = I at HJ hil hnum
  have bA := Blk.new w [.int .i64 (o : Int), .int .i64 nn, .string X, .slice la l.length lc] 51
  have kA : Kept w (w.alloc (.cells #[.int .i64 (o : Int), .int .i64 nn, .string X, .slice la l.length lc] 51)) := (Kept.refl w).alloc _
  have gT := kA.cell (p := ⟨1, o, none⟩) (World.block_lt_of_cell? _ _ HT) |>.trans HT
  have cw := kA.cell (p := ⟨wb, 0, none⟩) (World.block_lt_of_cell? _ _ c0) |>.trans c0
  have b2 : ((o : Int) == 2) = false := by simpa using o2
  have b3 : ((o : Int) == 3) = false := by simpa using o3
  have n13 : o < 13 := by omega
  have n13I : (o : Int) < 13 := by omega
  have hs1 : ¬ (9223372036854775807 : Int) < ((NM.size + 1 : Nat) : Int) := by omega
  have hs2 : ¬ 9223372036854775807 < NM.size + 1 := by omega
  have hs3 : ¬ 9223372036854775807 < NM.size + 1 + I.size := by omega
  have HNUM := Shut.mk hnum
  have HQ : Shut (w.heap.size = w.heap.size) := ⟨rfl⟩
  clear h hvw hlv hVl HT hnum
  go_enter Tryd.func74, Tryd.ntmps74
  go_wp2
  generalize w.alloc (.cells #[.int .i64 (o : Int), .int .i64 nn, .string X, .slice la l.length lc] 51) = wA at kA gT bA cw ⊢
  have a0 := bA.cell 0
  have a3 := bA.cell 3
  simp only [List.getElem?_cons_succ, List.getElem?_cons_zero] at a0 a3
  rcases hor with hb | ⟨hb, hall⟩
  · have b1 : ((o : Int) != 1) = false := by simpa using hb
    have HB := Shut.mk hb
    clear hcan hb
    go_quiet (fail)
    go_wp2
    go_region_held3 (fun w' => w'.cell? ⟨w.heap.size, 0, none⟩ = some (.int .i64 (o : Int)) ∧ w'.cell? ⟨1, o, none⟩ = some (.string NM))
      (first | exact ⟨a0, gT⟩ | assumption | go_keep)
      ((go_at_call 85; (with_reducible refine (HNUM.out _ (by first | exact kA.drewN _ | exact (kA.drewN _).drew | exact (kA.drewN _).drewN _)).mono ?_); rintro e w1 ⟨rfl, hw1, t1⟩; have tA : Turn W w w1 := Turn.trans (Kept.turn (by first | exact kA.drewN _ | exact (kA.drewN _).drew | exact (kA.drewN _).drewN _) W) t1 (fun b hb => .inl hb); have tB : Turn W wA w1 := Turn.trans (Kept.turn (by first | exact (Kept.refl wA).drewN _ | exact ((Kept.refl wA).drewN _).drew | exact ((Kept.refl wA).drewN _).drewN _) W) t1 (fun b hb => .inl hb); have bB := bA.turn tB (fun hw => Nat.lt_irrefl _ (HH.out.ltW _ hw)); have s1 : w1.cell? ⟨w.heap.size, 0, none⟩ = some (.int .i64 (o : Int)) ∧ w1.cell? ⟨1, o, none⟩ = some (.string NM) := ⟨bB.cell 0, HTL.out w1 hw1.tab⟩))
    all_goals
      have z0 := bB.cell 0
      have z1 := bB.cell 1
      have z2 := bB.cell 2
      have z3 := bB.cell 3
      simp only [List.getElem?_cons_succ, List.getElem?_cons_zero] at z0 z1 z2 z3
      have hr1 : RdI w1 (.slice la l.length lc) l := RdI.turn HR.out tA (fun b hb hw => HH.out.vw b (HV.out b hb) hw)
      clear a0 a3 gT bA tB t1
      by_cases c10 : o = 10
      · subst c10
        exact absurd HB.out (by decide)
      · have b10 : ((o : Int) == 10) = false := by
          have : (o : Int) ≠ 10 := by omega
          simpa using this
        obtain ⟨wb', vb', nb', ncap', la', lc', hwp, _, hVv', _, _, hvw1, e0, _⟩ := hw1.read hk
        simp only [Value.pointer.injEq, Option.some.injEq, Addr.mk.injEq] at hwp
        obtain ⟨rfl, _⟩ := hwp
        have hv0 := World.block_lt_of_cell? _ _ e0
        go_wp2
        go_region_held3 (fun w' => w'.cell? ⟨wb, 0, none⟩ = some (.pointer (some ⟨vb', 0, none⟩)) ∧ w'.cell? ⟨w.heap.size, 0, none⟩ = some (.int .i64 (o : Int)) ∧ w'.cell? ⟨w.heap.size, 1, none⟩ = some (.int .i64 nn) ∧ w'.cell? ⟨w.heap.size, 2, none⟩ = some (.string X) ∧ w'.cell? ⟨w.heap.size, 3, none⟩ = some (.slice la l.length lc))
          (first | exact ⟨e0, z0, z1, z2, z3⟩ | assumption | go_keep)
          ((go_at_call 86; (with_reducible refine (HOPN.out _ V _ (hvw1.kept (by first | exact Kept.refl _ | exact (Kept.refl _).drew | exact (Kept.refl _).drewN _)) (hr1.kept (by first | exact Kept.refl _ | exact (Kept.refl _).drew | exact (Kept.refl _).drewN _))).mono ?_); rintro e w2 ⟨rfl, k2⟩; have k2' : Kept w1 w2 := (by first | exact k2 | exact ((Kept.refl w1).drew).trans k2 | exact ((Kept.refl w1).drewN _).trans k2); have bC := bB.kept k2'; have s2 : w2.cell? ⟨wb, 0, none⟩ = some (.pointer (some ⟨vb', 0, none⟩)) ∧ w2.cell? ⟨w.heap.size, 0, none⟩ = some (.int .i64 (o : Int)) ∧ w2.cell? ⟨w.heap.size, 1, none⟩ = some (.int .i64 nn) ∧ w2.cell? ⟨w.heap.size, 2, none⟩ = some (.string X) ∧ w2.cell? ⟨w.heap.size, 3, none⟩ = some (.slice la l.length lc) := ⟨(k2'.cell (p := ⟨wb, 0, none⟩) hv0).trans e0, bC.cell 0, bC.cell 1, bC.cell 2, bC.cell 3⟩))
        all_goals
          have hw2 := hw1.keep k2'
          have tC : Turn W w w2 := tA.kept k2'
          have hr2 := hr1.kept k2'
          have x3 := bC.cell 3
          simp only [List.getElem?_cons_succ, List.getElem?_cons_zero] at x3
          clear z0 z1 z2 z3 e0
          cases ob with
          | false =>
            have hs := SF.out (fun e => c10 (by omega)) rfl
            have HS := Shut.mk hs
            clear hs
            go_wp2
            go_ret3
            refine ⟨_, by rw [HJ.out, HS.out]; rfl, fun l' hl' => ?_, hw2, tC⟩
            rw [HS.out] at hl'
            cases hl'
          | true =>
            obtain ⟨hs, hl4⟩ := ST.out (fun e => c10 (by omega)) rfl
            have HS := Shut.mk hs
            obtain ⟨q0, q1, q2, q3, rfl⟩ := four_of hl4
            simp only [List.length_cons, List.length_nil, Nat.zero_add, Nat.reduceAdd] at x3 hr2
            obtain ⟨rb, ro, rc, hrv, hcp1, hcp2, hrb, _⟩ := hr2.addr (by simp)
            simp only [Value.slice.injEq] at hrv
            obtain ⟨rfl, _, rfl⟩ := hrv
            have hcap : 4 ≤ lc := by simpa using hcp1
            clear hs hl4
            go_wp2
            go_quiet (fail)
            go_wp2
            go_ret3
            refine ⟨_, by rw [HJ.out, HS.out]; rfl, fun l' hl' => ?_, WrG.keep hw2 (by first | exact Kept.refl _ | exact (Kept.refl _).drewN _), Turn.kept tC (by first | exact Kept.refl _ | exact (Kept.refl _).drewN _)⟩
            rw [HS.out] at hl'
            obtain rfl := Option.some.inj hl'
            have hsub : RdI w2 (.slice (some ⟨rb, ro + 1, none⟩) 2 (lc - 1)) [q1, q2] := hr2.sub 1 3 (by omega) (by simp)
            exact ⟨hsub.kept (by first | exact Kept.refl _ | exact (Kept.refl _).drewN _), fun b hb => HV.out b (by rw [VB.of hb]; exact ⟨ro, none, _, _, by simp, rfl⟩)⟩
  · have b1 : ((o : Int) != 1) = true := by simpa using hb
    have hq := fun (n : Nat) => Calls.quiet_of_same ((hcan hall (wA.drewN n) (kA.drewN n)).mono fun e w' ⟨x, y⟩ => ⟨x, y.symm⟩)
    clear hcan hb hall
    go_quiet ((go_at_call 30; exact hq _))
    go_wp2
    go_region_held3 (fun w' => w'.cell? ⟨w.heap.size, 0, none⟩ = some (.int .i64 (o : Int)) ∧ w'.cell? ⟨1, o, none⟩ = some (.string NM))
      (first | exact ⟨a0, gT⟩ | assumption | go_keep)
      ((go_at_call 85; (with_reducible refine (HNUM.out _ (by first | exact kA.drewN _ | exact (kA.drewN _).drew | exact (kA.drewN _).drewN _)).mono ?_); rintro e w1 ⟨rfl, hw1, t1⟩; have tA : Turn W w w1 := Turn.trans (Kept.turn (by first | exact kA.drewN _ | exact (kA.drewN _).drew | exact (kA.drewN _).drewN _) W) t1 (fun b hb => .inl hb); have tB : Turn W wA w1 := Turn.trans (Kept.turn (by first | exact (Kept.refl wA).drewN _ | exact ((Kept.refl wA).drewN _).drew | exact ((Kept.refl wA).drewN _).drewN _) W) t1 (fun b hb => .inl hb); have bB := bA.turn tB (fun hw => Nat.lt_irrefl _ (HH.out.ltW _ hw)); have s1 : w1.cell? ⟨w.heap.size, 0, none⟩ = some (.int .i64 (o : Int)) ∧ w1.cell? ⟨1, o, none⟩ = some (.string NM) := ⟨bB.cell 0, HTL.out w1 hw1.tab⟩))
    all_goals
      have z0 := bB.cell 0
      have z1 := bB.cell 1
      have z2 := bB.cell 2
      have z3 := bB.cell 3
      simp only [List.getElem?_cons_succ, List.getElem?_cons_zero] at z0 z1 z2 z3
      have hr1 : RdI w1 (.slice la l.length lc) l := RdI.turn HR.out tA (fun b hb hw => HH.out.vw b (HV.out b hb) hw)
      clear a0 a3 gT bA tB t1
      by_cases c10 : o = 10
      · subst c10
        obtain ⟨hs, hl2⟩ := S10.out rfl
        have HS := Shut.mk hs
        obtain ⟨x, y, rfl⟩ := two_of hl2
        simp only [List.length_cons, List.length_nil, Nat.zero_add, Nat.reduceAdd] at z3 hr1
        obtain ⟨rb, ro, rc, hrv, hcp1, hcp2, hrb, _⟩ := hr1.addr (by simp)
        simp only [Value.slice.injEq] at hrv
        obtain ⟨rfl, _, rfl⟩ := hrv
        have hcap : 2 ≤ lc := by simpa using hcp1
        clear hs hl2
        go_wp2
        go_quiet (fail)
        go_wp2
        go_ret3
        refine ⟨_, by rw [HJ.out, HS.out]; rfl, fun l' hl' => ?_, WrG.keep hw1 (by first | exact Kept.refl _ | exact (Kept.refl _).drewN _), Turn.kept tA (by first | exact Kept.refl _ | exact (Kept.refl _).drewN _)⟩
        rw [HS.out] at hl'
        obtain rfl := Option.some.inj hl'
        have hsub : RdI w1 (.slice (some ⟨rb, ro + 1, none⟩) 1 (lc - 1)) [y] := hr1.sub 1 2 (by omega) (by simp)
        exact ⟨hsub.kept (by first | exact Kept.refl _ | exact (Kept.refl _).drewN _), fun b hb => HV.out b (by rw [VB.of hb]; exact ⟨ro, none, _, _, by simp, rfl⟩)⟩
      · have b10 : ((o : Int) == 10) = false := by
          have : (o : Int) ≠ 10 := by omega
          simpa using this
        obtain ⟨wb', vb', nb', ncap', la', lc', hwp, _, hVv', _, _, hvw1, e0, _⟩ := hw1.read hk
        simp only [Value.pointer.injEq, Option.some.injEq, Addr.mk.injEq] at hwp
        obtain ⟨rfl, _⟩ := hwp
        have hv0 := World.block_lt_of_cell? _ _ e0
        go_wp2
        go_region_held3 (fun w' => w'.cell? ⟨wb, 0, none⟩ = some (.pointer (some ⟨vb', 0, none⟩)) ∧ w'.cell? ⟨w.heap.size, 0, none⟩ = some (.int .i64 (o : Int)) ∧ w'.cell? ⟨w.heap.size, 1, none⟩ = some (.int .i64 nn) ∧ w'.cell? ⟨w.heap.size, 2, none⟩ = some (.string X) ∧ w'.cell? ⟨w.heap.size, 3, none⟩ = some (.slice la l.length lc))
          (first | exact ⟨e0, z0, z1, z2, z3⟩ | assumption | go_keep)
          ((go_at_call 86; (with_reducible refine (HOPN.out _ V _ (hvw1.kept (by first | exact Kept.refl _ | exact (Kept.refl _).drew | exact (Kept.refl _).drewN _)) (hr1.kept (by first | exact Kept.refl _ | exact (Kept.refl _).drew | exact (Kept.refl _).drewN _))).mono ?_); rintro e w2 ⟨rfl, k2⟩; have k2' : Kept w1 w2 := (by first | exact k2 | exact ((Kept.refl w1).drew).trans k2 | exact ((Kept.refl w1).drewN _).trans k2); have bC := bB.kept k2'; have s2 : w2.cell? ⟨wb, 0, none⟩ = some (.pointer (some ⟨vb', 0, none⟩)) ∧ w2.cell? ⟨w.heap.size, 0, none⟩ = some (.int .i64 (o : Int)) ∧ w2.cell? ⟨w.heap.size, 1, none⟩ = some (.int .i64 nn) ∧ w2.cell? ⟨w.heap.size, 2, none⟩ = some (.string X) ∧ w2.cell? ⟨w.heap.size, 3, none⟩ = some (.slice la l.length lc) := ⟨(k2'.cell (p := ⟨wb, 0, none⟩) hv0).trans e0, bC.cell 0, bC.cell 1, bC.cell 2, bC.cell 3⟩))
        all_goals
          have hw2 := hw1.keep k2'
          have tC : Turn W w w2 := tA.kept k2'
          have hr2 := hr1.kept k2'
          have x3 := bC.cell 3
          simp only [List.getElem?_cons_succ, List.getElem?_cons_zero] at x3
          clear z0 z1 z2 z3 e0
          cases ob with
          | false =>
            have hs := SF.out (fun e => c10 (by omega)) rfl
            have HS := Shut.mk hs
            clear hs
            go_wp2
            go_ret3
            refine ⟨_, by rw [HJ.out, HS.out]; rfl, fun l' hl' => ?_, hw2, tC⟩
            rw [HS.out] at hl'
            cases hl'
          | true =>
            obtain ⟨hs, hl4⟩ := ST.out (fun e => c10 (by omega)) rfl
            have HS := Shut.mk hs
            obtain ⟨q0, q1, q2, q3, rfl⟩ := four_of hl4
            simp only [List.length_cons, List.length_nil, Nat.zero_add, Nat.reduceAdd] at x3 hr2
            obtain ⟨rb, ro, rc, hrv, hcp1, hcp2, hrb, _⟩ := hr2.addr (by simp)
            simp only [Value.slice.injEq] at hrv
            obtain ⟨rfl, _, rfl⟩ := hrv
            have hcap : 4 ≤ lc := by simpa using hcp1
            clear hs hl4
            go_wp2
            go_quiet (fail)
            go_wp2
            go_ret3
            refine ⟨_, by rw [HJ.out, HS.out]; rfl, fun l' hl' => ?_, WrG.keep hw2 (by first | exact Kept.refl _ | exact (Kept.refl _).drewN _), Turn.kept tC (by first | exact Kept.refl _ | exact (Kept.refl _).drewN _)⟩
            rw [HS.out] at hl'
            obtain rfl := Option.some.inj hl'
            have hsub : RdI w2 (.slice (some ⟨rb, ro + 1, none⟩) 2 (lc - 1)) [q1, q2] := hr2.sub 1 3 (by omega) (by simp)
            exact ⟨hsub.kept (by first | exact Kept.refl _ | exact (Kept.refl _).drewN _), fun b hb => HV.out b (by rw [VB.of hb]; exact ⟨ro, none, _, _, by simp, rfl⟩)⟩
end Go.Proofs.YtangbnmgkcmhbaaDoor
end

section
/- told whole; what the writing of patterns leaves. -/
set_option linter.unusedSimpArgs false
set_option linter.unusedVariables false
namespace Go.Proofs.YtangbnmgkcmhbaaDoor
open Go.RowKit Go.Maps

theorem told_any {V P W : Nat → Prop} {w0 w : World} {wp pp : Value} {ds : List Nd} {kn : List Bool} {ps : List Pc} {a ws : List Int} (h : WrG V P W w0 w wp pp ds kn ps a ws) {t : Int} (ht : IsT ds t) :
    Calls Tryd.prog 74 #[wp, .int .i64 t] w (ToldPost V P W w0 w wp pp ds kn ps a ws (tHead ds (knB kn) a t) (tParts ds (knB kn) t) (tNums ds (knB kn) a t)) := by
  unfold tHead tParts tNums
  by_cases o2 : (nd ds t).op = 2
  · rw [if_pos o2, if_pos o2, if_pos o2]
    exact told_text h ht o2
  · rw [if_neg o2, if_neg o2, if_neg o2]
    cases hc : compound (knB kn) (nd ds t) with
    | false =>
      rw [if_neg (by decide), if_neg (by decide), if_neg (by decide)]
      exact told_num h ht o2 hc
    | true =>
      rw [if_pos rfl, if_pos rfl, if_pos rfl]
      by_cases o3 : (nd ds t).op = 3
      · rw [o3]
        exact told_list h ht o3
      · unfold compound at hc
        have hc' : ((nd ds t).op != 1 && (nd ds t).l.all (knB kn)) = true := by
          rw [show ((nd ds t).op == 3) = false by simpa using o3, Bool.false_or] at hc
          exact hc
        rw [Bool.and_eq_true] at hc'
        exact told_open h ht (by simpa using hc'.1) o2 o3 hc'.2

theorem kName_pos {o : Int} (h1 : 1 ≤ o) (h2 : o ≤ 12) (h3 : o ≠ 2) : pName o ≠ [] := by
  have : o = 1 ∨ o = 3 ∨ o = 4 ∨ o = 5 ∨ o = 6 ∨ o = 7 ∨ o = 8 ∨ o = 9 ∨ o = 10 ∨ o = 11 ∨ o = 12 := by omega
  rcases this with c | c | c | c | c | c | c | c | c | c | c <;> rw [c] <;> decide
theorem tHead_ne {ds : List Nd} (hg : Good ds) (kn : Int → Bool) (a : List Int) {t : Int} (ht : IsT ds t) : tHead ds kn a t ≠ [] := by
  unfold tHead
  have hm := hg.mayT ht
  split
  · simp
  · rename_i h2
    split
    · exact kName_pos hm.op1 hm.op12 h2
    · unfold headOf; simp
theorem tHead_len {ds : List Nd} (hg : Good ds) (hl : ds.length ≤ 100000) (kn : Int → Bool) {a : List Int} (ha : Nums ds a) {t : Int} (ht : IsT ds t) : (tHead ds kn a t).length ≤ 300 := by
  unfold tHead
  have hs := (hg.mayT ht).s0
  have hp := pName_len (nd ds t).op
  split
  · simp; omega
  · split
    · omega
    · unfold headOf
      have := itoa_len (i := (numAt a t : Int)) ⟨by omega, by have := numAt_le a t; have := ha.len; omega⟩
      simp; omega

/-- What is written: a piece for each of some terms, the last one's among them. -/
def PatPost (V P W : Nat → Prop) (w0 w : World) (wp pp : Value) (ds : List Nd) (kn : List Bool) (ps : List Pc) (a ws : List Int) (top : Int) (k : Nat) (t : List UInt8 × List Int) (e : Ending) (w' : World) : Prop :=
  ∃ (P' : Nat → Prop) (ps' : List Pc) (a' ws' : List Int) (x : Nat), e = .returned (.int .i64 x) ∧ WrG V P' W w0 w' wp pp ds kn ps' a' ws' ∧ PExt ps ps' ∧ x < ps'.length ∧ (tx ps' (x : Int), a') = t ∧
    ps'.length + 100 * ws.length ≤ ps.length + k + 100 * ws'.length ∧ (∀ y ∈ ws, y ∈ ws') ∧ (∀ y ∈ ws', y ∈ ws ∨ y ≤ top) ∧ Turn (fun b => P b ∨ W b) w w' ∧ ∀ b, P' b → P b ∨ w.heap.size ≤ b
theorem Written.len {ds : List Nd} {kn : List Bool} {a : List Int} {ps : List Pc} {ws : List Int} {x : Int → Int} (h : Written ds kn a ps ws x) : ws.length ≤ ds.length :=
  (⟨h.1, fun t ht => (h.2 t ht).1⟩ : Nums ds ws).len
end Go.Proofs.YtangbnmgkcmhbaaDoor
end

section
/- bracket. -/
set_option linter.unusedSimpArgs false
set_option linter.unusedVariables false
namespace Go.Proofs.YtangbnmgkcmhbaaDoor
open Go.RowKit Go.Maps

/-- Other memory turned. -/
theorem WrG.far {V P W G : Nat → Prop} {w0 w w' : World} {wp pp : Value} {ds : List Nd} {kn : List Bool} {ps : List Pc} {a ws : List Int} (h : WrG V P W w0 w wp pp ds kn ps a ws) (t : Turn G w w') (hV : ∀ b, V b → ¬ G b) (hP : ∀ b, P b → ¬ G b) (hW : ∀ b, W b → ¬ G b) (hB : ∀ b, G b → w0.heap.size ≤ b) : WrG V P W w0 w' wp pp ds kn ps a ws := by
  obtain ⟨wb, nb, mb, vp, x, h1, h2, h3, h4, h5, h6, h7, h8, h9, h10⟩ := h.own
  exact ⟨⟨wb, nb, mb, vp, x, h1, h2.turn t (hW _ h8), h3.turn t hV, h4.turn t (hW _ h9), h5.turn t (hW _ h10), h6, h7, h8, h9, h10⟩, h.pcs.turn t hP, fun b hb => Nat.lt_of_lt_of_le (h.ltW b hb) t.size, h.vp, h.vw, h.pw, h.basP, h.basW, Turn.keptOf h.kept t hB, h.good, h.few, h.tabs, h.nums⟩
/-- What bracket has: a slice of pieces that say T. -/
structure BrM (V W : Nat → Prop) (w0 : World) (wp pp : Value) (ds : List Nd) (kn : List Bool) (P : Nat → Prop) (w : World) (ps : List Pc) (ws : List Int) (T : List UInt8) (c m : Nat) (top : Int) (sv : Value) (wr : World) (P' : Nat → Prop) (ps' : List Pc) (a' ws' zs : List Int) : Prop where
  sl : OwnI w.heap.size wr sv zs
  says : cat (txs ps') zs = T
  isP : ∀ z ∈ zs, IsP ps'.length z
  len : zs.length ≤ m
  wg : WrG V P' W w0 wr wp pp ds kn ps' a' ws'
  ext : PExt ps ps'
  cnt : ps'.length + 100 * ws.length ≤ ps.length + c + 100 * ws'.length
  sub : ∀ y ∈ ws, y ∈ ws'
  top' : ∀ y ∈ ws', y ∈ ws ∨ y ≤ top
  turn : Turn (fun b => P b ∨ W b) w wr
  new : ∀ b, P' b → P b ∨ w.heap.size ≤ b
  apart : ∀ b, Blks sv b → ¬ P' b
  ltW : ∀ b, W b → b < w.heap.size
  ltV : ∀ b, V b → b < w.heap.size
  bas : w0.heap.size ≤ w.heap.size
section
variable {V W : Nat → Prop} {w0 : World} {wp pp : Value} {ds : List Nd} {kn : List Bool} {P : Nat → Prop} {w : World} {ps : List Pc} {ws : List Int} {T : List UInt8} {c m : Nat} {top : Int} {sv : Value} {wr : World} {P' : Nat → Prop} {ps' : List Pc} {a' ws' zs : List Int}
/-- A word was called. -/
theorem BrM.word (h : BrM V W w0 wp pp ds kn P w ps ws T c m top sv wr P' ps' a' ws' zs) {w2 : World} {P2 : Nat → Prop} {ps2 : List Pc} (p1 : PcG P2 w2 pp ps2) (p2 : PExt ps' ps2) (p3 : ps2.length ≤ ps'.length + 1) (p6 : Turn P' wr w2) (p7 : ∀ b, P2 b → P' b ∨ wr.heap.size ≤ b) :
    BrM V W w0 wp pp ds kn P w ps ws T (c + 1) m top sv w2 P2 ps2 a' ws' zs :=
  { sl := Ownv.turn h.sl p6 (fun b hb hp => h.apart b hb hp)
    says := by rw [cat_ext p2 h.isP]; exact h.says
    isP := fun z hz => (h.isP z hz).mono p2.len
    len := h.len
    wg := h.wg.more p1 p2 p6 p7
    ext := h.ext.trans p2
    cnt := by have := h.cnt; omega
    sub := h.sub
    top' := h.top'
    turn := h.turn.trans p6 (fun b hb => (h.new b hb).elim (fun x => .inl (.inl x)) .inr)
    new := fun b hb => (p7 b hb).elim (h.new b) (fun x => .inr (Nat.le_trans h.turn.size x))
    apart := fun b hb hp => (p7 b hp).elim (h.apart b hb) (fun x => by have := (Ownv.lt h.sl hb).1; omega)
    ltW := h.ltW
    ltV := h.ltV
    bas := h.bas }
/-- A pattern was called. -/
theorem BrM.pat (h : BrM V W w0 wp pp ds kn P w ps ws T c m top sv wr P' ps' a' ws' zs) {x : Int} {w2 : World} {P2 : Nat → Prop} {ps2 : List Pc} {a2 ws2 : List Int} (hx : x ≤ top) (g : WrG V P2 W w0 w2 wp pp ds kn ps2 a2 ws2) (p2 : PExt ps' ps2) (p3 : ps2.length + 100 * ws'.length ≤ ps'.length + 0 + 100 * ws2.length) (p4 : ∀ y ∈ ws', y ∈ ws2) (p5 : ∀ y ∈ ws2, y ∈ ws' ∨ y ≤ x) (p6 : Turn (fun b => P' b ∨ W b) wr w2) (p7 : ∀ b, P2 b → P' b ∨ wr.heap.size ≤ b) :
    BrM V W w0 wp pp ds kn P w ps ws T c m top sv w2 P2 ps2 a2 ws2 zs :=
  { sl := Ownv.turn h.sl p6 (fun b hb hp => hp.elim (h.apart b hb) (fun hw => by have := h.ltW b hw; have := (Ownv.lt h.sl hb).2; omega))
    says := by rw [cat_ext p2 h.isP]; exact h.says
    isP := fun z hz => (h.isP z hz).mono p2.len
    len := h.len
    wg := g
    ext := h.ext.trans p2
    cnt := by have := h.cnt; omega
    sub := fun y hy => p4 y (h.sub y hy)
    top' := fun y hy => (p5 y hy).elim (h.top' y) (fun c => .inr (by omega))
    turn := h.turn.trans p6 (fun b hb => hb.elim (fun x => (h.new b x).elim (fun x => .inl (.inl x)) .inr) (fun x => .inl (.inr x)))
    new := fun b hb => (p7 b hb).elim (h.new b) (fun x => .inr (Nat.le_trans h.turn.size x))
    apart := fun b hb hp => (p7 b hp).elim (h.apart b hb) (fun x => by have := (Ownv.lt h.sl hb).1; omega)
    ltW := h.ltW
    ltV := h.ltV
    bas := h.bas }
/-- Memory was added. -/
theorem BrM.kept (h : BrM V W w0 wp pp ds kn P w ps ws T c m top sv wr P' ps' a' ws' zs) {w2 : World} (k : Kept wr w2) : BrM V W w0 wp pp ds kn P w ps ws T c m top sv w2 P' ps' a' ws' zs :=
  { h with sl := Ownv.kept h.sl k, wg := h.wg.keep k, turn := h.turn.kept k }
/-- A piece was put behind the others. -/
theorem BrM.push (h : BrM V W w0 wp pp ds kn P w ps ws T c m top sv wr P' ps' a' ws' zs) {n : Int} (hn : IsP ps'.length n) {w2 : World} {sv2 : Value} (o6 : OwnI w.heap.size w2 sv2 (zs ++ [n])) (t6 : Turn (Blks sv) wr w2) (l6 : ∀ b, Blks sv2 b → Blks sv b ∨ wr.heap.size ≤ b) :
    BrM V W w0 wp pp ds kn P w ps ws (T ++ tx ps' n) c (m + 1) top sv2 w2 P' ps' a' ws' (zs ++ [n]) := by
  have hs : ∀ b, Blks sv b → w.heap.size ≤ b := fun b hb => (Ownv.lt h.sl hb).2
  have hW : ∀ b, W b → ¬ Blks sv b := fun b hb hc => by have := h.ltW b hb; have := hs b hc; omega
  refine { sl := o6, says := by rw [cat_snoc, h.says]; rfl, isP := fun z hz => (List.mem_append.1 hz).elim (h.isP z) (fun e => by rw [List.mem_singleton.1 e]; exact hn), len := by have := h.len; simp; omega, wg := ?_, ext := h.ext, cnt := h.cnt, sub := h.sub, top' := h.top', turn := h.turn.trans t6 (fun b hb => .inr (hs b hb)), new := h.new, apart := fun b hb hp => (l6 b hb).elim (fun c => h.apart b c hp) (fun c => by have := h.wg.pcs.lt b hp; omega), ltW := h.ltW, ltV := h.ltV, bas := h.bas }
  exact h.wg.far t6 (fun b hb hc => by have := h.ltV b hb; have := hs b hc; omega) (fun b hb hc => h.apart b hc hb) hW (fun b hb => Nat.le_trans h.bas (hs b hb))
end
theorem pts_step (one : PO) (a : List Int) {l : List Int} {k : Nat} (hk : k < l.length) : pts one true a (l.take (k + 1)) = ((pts one true a (l.take k)).1 ++ ((if k = 0 then [] else [44]) ++ (one (pts one true a (l.take k)).2 (l.getD k 0)).1), (one (pts one true a (l.take k)).2 (l.getD k 0)).2) := by
  have hx : l.getD k 0 = l[k] := by rw [List.getD_eq_getElem?_getD, List.getElem?_eq_getElem hk]; rfl
  rw [List.take_succ_eq_append_getElem hk, pts_snoc, hx]
  by_cases c : k = 0
  · subst c; simp
  · have hne : ¬ (l.take k = []) := by
      intro e
      have hl : (l.take k).length = k := by rw [List.length_take]; omega
      rw [e] at hl
      exact c hl.symm
    simp [c, hne]

theorem WrG.ptr {V P W : Nat → Prop} {w0 w : World} {wb : Nat} {pp : Value} {ds : List Nd} {kn : List Bool} {ps : List Pc} {a ws : List Int} (h : WrG V P W w0 w (.pointer (some ⟨wb, 0, none⟩)) pp ds kn ps a ws) : w.cell? ⟨wb, 1, none⟩ = some pp := by
  obtain ⟨wb', nb, mb, vp, x, h1, h2, _⟩ := h.own
  simp only [Value.pointer.injEq, Option.some.injEq, Addr.mk.injEq] at h1
  obtain ⟨rfl, _⟩ := h1
  have := h2.cell 1
  simpa using this
/-- The pieces became more, some of whose memory was the caller's. -/
theorem WrG.more2 {V P P' W G : Nat → Prop} {w0 w w' : World} {wp pp : Value} {ds : List Nd} {kn : List Bool} {ps ps' : List Pc} {a ws : List Int} (h : WrG V P W w0 w wp pp ds kn ps a ws) (hp : PcG P' w' pp ps') (he : PExt ps ps') (t : Turn P w w') (hs : ∀ b, P' b → P b ∨ G b ∨ w.heap.size ≤ b)
    (hV : ∀ b, V b → ¬ G b) (hW : ∀ b, W b → ¬ G b) (hB : ∀ b, G b → w0.heap.size ≤ b) : WrG V P' W w0 w' wp pp ds kn ps' a ws := by
  obtain ⟨wb, nb, mb, vp, x, h1, h2, h3, h4, h5, h6, h7, h8, h9, h10⟩ := h.own
  have hn : ∀ b, W b → ¬ P b := fun b hb hp => h.pw b hp hb
  exact ⟨⟨wb, nb, mb, vp, x, h1, h2.turn t (hn _ h8), h3.turn t h.vp, h4.turn t (hn _ h9), h5.turn t (hn _ h10), h6.ext h.good (ExtN.refl _) he, h7, h8, h9, h10⟩, hp,
    fun b hb => Nat.lt_of_lt_of_le (h.ltW b hb) t.size, fun b hv hb => (hs b hb).elim (h.vp b hv) (fun c => c.elim (hV b hv) (fun c => by have := h3.lt b hv; omega)), h.vw, fun b hb hw => (hs b hb).elim (fun c => h.pw b c hw) (fun c => c.elim (hW b hw) (fun c => by have := h.ltW b hw; omega)),
    fun b hb => (hs b hb).elim (h.basP b) (fun c => c.elim (hB b) (fun c => Nat.le_trans h.kept.size c)), h.basW, Turn.keptOf h.kept t h.basP, h.good, h.few, h.tabs, h.nums⟩
theorem BrM.chain {V W : Nat → Prop} {w0 : World} {wp pp : Value} {ds : List Nd} {kn : List Bool} {P : Nat → Prop} {w : World} {ps : List Pc} {ws : List Int} {T : List UInt8} {c m : Nat} {top : Int} {sv : Value} {wr : World} {P' : Nat → Prop} {ps' : List Pc} {a' ws' zs : List Int}
    (h : BrM V W w0 wp pp ds kn P w ps ws T c m top sv wr P' ps' a' ws' zs) {w2 : World} {P2 : Nat → Prop} {ps2 : List Pc} (p1 : PcG P2 w2 pp ps2) (p2 : PExt ps' ps2) (p6 : Turn P' wr w2) (p7 : ∀ b, P2 b → P' b ∨ Blks sv b ∨ wr.heap.size ≤ b) :
    WrG V P2 W w0 w2 wp pp ds kn ps2 a' ws' ∧ PExt ps ps2 ∧ Turn (fun b => P b ∨ W b) w w2 ∧ ∀ b, P2 b → P b ∨ w.heap.size ≤ b := by
  have hs : ∀ b, Blks sv b → w.heap.size ≤ b := fun b hb => (Ownv.lt h.sl hb).2
  refine ⟨h.wg.more2 (G := Blks sv) p1 p2 p6 p7 (fun b hb hc => by have := h.ltV b hb; have := hs b hc; omega) (fun b hb hc => by have := h.ltW b hb; have := hs b hc; omega) (fun b hb => Nat.le_trans h.bas (hs b hb)), h.ext.trans p2, h.turn.trans p6 (fun b hb => (h.new b hb).elim (fun x => .inl (.inl x)) .inr), fun b hb => ?_⟩
  rcases p7 b hb with c | c | c
  · exact h.new b c
  · exact .inr (hs b c)
  · exact .inr (Nat.le_trans h.turn.size c)
end Go.Proofs.YtangbnmgkcmhbaaDoor
end

section
/- bracket. -/
set_option linter.unusedSimpArgs false
set_option linter.unusedVariables false
namespace Go.Proofs.YtangbnmgkcmhbaaDoor
open Go.RowKit Go.Maps

set_option maxHeartbeats 8000000 in
set_option maxRecDepth 100000 in
theorem bracket_any {V W : Nat → Prop} {w0 : World} {wp pp : Value} {ds : List Nd} {kn : List Bool} {l : List Int} {top : Int} {R : Nat} (hR : R ≤ 400000000)
    (hIH : ∀ x ∈ l, ∀ {P : Nat → Prop} {w : World} {ps : List Pc} {a ws : List Int}, WrG V P W w0 w wp pp ds kn ps a ws → ps.length + 100 * (ds.length - ws.length) ≤ R + 70 → Calls Tryd.prog 52 #[wp, .int .i64 x] w (PatPost V P W w0 w wp pp ds kn ps a ws x 0 (pat ds (knB kn) a x)))
    (hlt : ∀ x ∈ l, x ≤ top) (hll : l.length ≤ 64) {P : Nat → Prop} {w : World} {ps : List Pc} {a ws : List Int} (h : WrG V P W w0 w wp pp ds kn ps a ws) {hx : Nat} (hxl : hx < ps.length) {v : Value} (hr : RdI w v l) (hv : ∀ b, VB v b → V b) (room : ps.length + 100 * (ds.length - ws.length) ≤ R) :
    Calls Tryd.prog 76 #[wp, .int .i64 hx, v] w (PatPost V P W w0 w wp pp ds kn ps a ws top 70 (br (tx ps (hx : Int)) (pts (pat ds (knB kn)) true a l))) := by
  have HH := Shut.mk h
  have hVlt : ∀ b, V b → b < w.heap.size := (by obtain ⟨_, _, _, _, _, _, _, hv, _⟩ := h.own; exact hv.lt)
  have HIH : Shut _ := ⟨@hIH⟩
  have hps : ps.length ≤ 1000000000 := by omega
  obtain ⟨wb, nb, mb, vp, xf, rfl, h2, h3, h4, h5, h6, h7, h8, h9, h10⟩ := h.own
  have HW8 := Shut.mk h8
  have c1 := h2.cell 1
  simp only [List.getElem?_cons_succ, List.getElem?_cons_zero] at c1
  have hwo := word_any h.pcs [40] (by decide) (by decide) hps
  obtain ⟨la, lc, rfl, l1, l2, l3⟩ := hr.len
  have l63 : ((l.length : Nat) : Int) ≤ 9223372036854775807 := by omega
  have HR := Shut.mk hr
  have HV := Shut.mk hv
  have HLT := Shut.mk hlt
  have e40 : strB [40] = (⟨#[40]⟩ : ByteArray) := rfl
  rw [e40] at hwo
  clear h hr hv hlt hIH e40
  go_enter Tryd.func76, Tryd.ntmps76
  go_wp2_with (go_at_call 75; (with_reducible refine hwo.mono ?_); rintro e w1 ⟨P1, ps1, n1, rfl, p1, p2, p3, p4, p5, p6, p7⟩)
  have sA : OwnI w.heap.size (w1.alloc (.cells #[.int .i64 (hx : Int), .int .i64 (n1 : Int)] 3)) (.slice (some ⟨w1.heap.size, 0, none⟩) 2 2) [(hx : Int), (n1 : Int)] := Ownv.lit (B := w.heap.size) 3 (w := w1) [.int .i64 (hx : Int), .int .i64 (n1 : Int)] p6.size (by unfold maxLen; simp)
  have kA : Kept w1 (w1.alloc (.cells #[.int .i64 (hx : Int), .int .i64 (n1 : Int)] 3)) := (Kept.refl w1).alloc _
  have hx1 : hx < ps1.length := Nat.lt_of_lt_of_le hxl p2.len
  have ehx : tx ps1 (hx : Int) = tx ps (hx : Int) := tx_ext p2 (by simpa using hxl)
  have st : BrM V W w0 (.pointer (some ⟨wb, 0, none⟩)) pp ds kn P w ps ws (tx ps (hx : Int) ++ 40 :: (pts (pat ds (knB kn)) true a (l.take 0)).1) (1 + 0) (2 + 2 * 0) top (.slice (some ⟨w1.heap.size, 0, none⟩) 2 2) (w1.alloc (.cells #[.int .i64 (hx : Int), .int .i64 (n1 : Int)] 3)) P1 ps1 a ws [(hx : Int), (n1 : Int)] :=
    { sl := sA
      says := by
        rw [cat_cons, cat_cons]
        have e1 : (txs ps1).getD (hx : Int).toNat [] = tx ps (hx : Int) := ehx
        have e2 : (txs ps1).getD (n1 : Int).toNat [] = [40] := p5
        rw [e1, e2]
        simp [cat, pts]
      isP := fun z hz => by
        rcases List.mem_cons.1 hz with rfl | hz
        · exact ⟨by omega, by omega⟩
        · rw [List.mem_singleton.1 hz]; exact ⟨by omega, by omega⟩
      len := by simp
      wg := (HH.out.more p1 p2 p6 p7).keep kA
      ext := p2
      cnt := by omega
      sub := fun y hy => hy
      top' := fun y hy => .inl hy
      turn := (p6.mono (fun b hb => .inl hb)).kept kA
      new := p7
      apart := fun b hb hp => by
        obtain rfl : w1.heap.size = b := by simpa [Blks, Value.ownBlock] using hb
        exact Nat.lt_irrefl _ (p1.lt _ hp)
      ltW := HH.out.ltW
      ltV := hVlt
      bas := HH.out.kept.size }
  generalize w1.alloc (.cells #[.int .i64 (hx : Int), .int .i64 (n1 : Int)] 3) = wA at st ⊢
  clear sA kA ehx p1 p2 p3 p5 p6 p7 hwo
  have HST := Shut.mk st
  clear st
  generalize htx : tx ps (hx : Int) = hd at HST ⊢
  have HTX := Shut.mk htx
  clear htx
  go_loopw [7, 19] (fun sv i wr => ∃ (k : Nat) (P' : Nat → Prop) (ps' : List Pc) (a' ws' zs : List Int), k ≤ l.length ∧ i = .int .i64 k ∧ BrM V W w0 (.pointer (some ⟨wb, 0, none⟩)) pp ds kn P w ps ws (hd ++ 40 :: (pts (pat ds (knB kn)) true a (l.take k)).1) (1 + k) (2 + 2 * k) top sv wr P' ps' a' ws' zs ∧ a' = (pts (pat ds (knB kn)) true a (l.take k)).2) (fun _ i _ => l.length - (intOf i).toNat)
  case atStart => exact ⟨0, _, _, _, _, _, Nat.zero_le _, rfl, HST.out, by simp [pts]⟩
  case round =>
    obtain ⟨k, P', ps', a', ws', zs, hk0, rfl, st, ha'⟩ := hrel
    by_cases hlk : k < l.length
    · have hrw : RdI wr (.slice la l.length lc) l := RdI.turn HR.out st.turn (fun b hb hc => hc.elim (HH.out.vp b (HV.out b hb)) (HH.out.vw b (HV.out b hb)))
      obtain ⟨rb, ro, rc, hrv, _, _, hrb, hcl⟩ := hrw.addr (by omega)
      simp only [Value.slice.injEq] at hrv
      obtain ⟨rfl, _, rfl⟩ := hrv
      have hcw := hcl k hlk
      clear hcl
      have hmem := getD_mem (l := l) hlk
      have HST2 := Shut.mk (pts_step (pat ds (knB kn)) a hlk)
      have hcall := @HIH.out _ hmem
      have hxt := HLT.out _ hmem
      rw [← ha'] at HST2
      generalize l.getD k 0 = x at hcw hcall hxt HST2
      obtain ⟨wb', nb', mb', vp', xf', hwe, g2, g3, g4, g5, g6, _, g8, _, _⟩ := st.wg.own
      simp only [Value.pointer.injEq, Option.some.injEq, Addr.mk.injEq] at hwe
      obtain ⟨rfl, _⟩ := hwe
      have d1 := g2.cell 1
      simp only [List.getElem?_cons_succ, List.getElem?_cons_zero] at d1
      have hwl' := g6.len
      clear g2 g3 g4 g5 g6 g8
      have hcn := st.cnt
      have hwsl : ws.length ≤ ds.length := (by obtain ⟨_, _, _, _, _, _, _, _, _, _, hw, _⟩ := HH.out.own; exact hw.len)
      have hroom : ps'.length + 100 * (ds.length - ws'.length) ≤ R + 66 := by omega
      have hzl := st.len
      have HS := Shut.mk st
      have hltI : (k : Int) < (l.length : Int) := by omega
      have HK63 : ((k : Nat) : Int) ≤ 9223372036854775807 := by omega
      have hB : w.heap.size ≤ wr.heap.size := HS.out.turn.size
      by_cases hz : k = 0
      · have HZ := Shut.mk hz
        have q1 : decide ((k : Int) > 0) = false := decide_eq_false (by omega)
        have q2 : decide ((0 : Int) < (k : Int)) = false := decide_eq_false (by omega)
        have q3 : ¬ (0 : Int) < (k : Int) := by omega
        have q4 : decide (0 < k) = false := decide_eq_false (by omega)
        clear hz
        have hc := hcall HS.out.wg (by omega)
        clear hcall
        go_wp2_with fail
        (with_reducible refine hc.mono ?_)
        clear hc
        rintro e w2 ⟨P2, ps2, a2, ws2, n, rfl, r1, r2, r3, r4, r5, r6, r7, r8, r9⟩
        have st2 := HS.out.pat hxt r1 r2 r5 r6 r7 r8 r9
        have kA : Kept w2 (w2.alloc (.cells #[.int .i64 (n : Int)] 3)) := (Kept.refl w2).alloc _
        have st3 := st2.kept kA
        go_wp2_with (at_builtin; refine go_appi w.heap.size _ zs rfl st3.sl _ [(n : Int)] rfl (OwnI.rd (lit1 w2 n)) (by simp; omega) (Nat.le_trans st2.turn.size kA.size) ?_; intro v6 w6 o6 t6 l6)
        go_roundw
        case rel =>
          have st4 := st3.push (n := (n : Int)) ⟨by omega, by omega⟩ o6 t6 l6
          refine ⟨k + 1, P2, ps2, a2, ws2, zs ++ [(n : Int)], hlk, rfl, ?_, ?_⟩
          · exact { st4 with
              says := by
                rw [st4.says, HST2.out, if_pos HZ.out, ← r4]
                simp
              len := by have := st4.len; omega
              cnt := by have := st4.cnt; omega }
          · rw [HST2.out, ← r4]
        case measure => simp [intOf]; omega
      · have HZ := Shut.mk hz
        have q3 : (0 : Int) < (k : Int) := by omega
        clear hz
        have hwo := word_any HS.out.wg.pcs [44] (by decide) (by decide) (by omega)
        have e44 : strB [44] = (⟨#[44]⟩ : ByteArray) := rfl
        rw [e44] at hwo
        go_wp2_with (first
          | (go_at_call 75; (with_reducible refine hwo.mono ?_); rintro e w2 ⟨P2, ps2, n2, rfl, p1, p2, p3, p4, p5, p6, p7⟩; have st2 := HS.out.word p1 p2 p3 p6 p7; have kA : Kept w2 (w2.alloc (.cells #[.int .i64 (n2 : Int)] 3)) := (Kept.refl w2).alloc _; have st3 := st2.kept kA)
          | (at_builtin; refine go_appi w.heap.size _ zs rfl st3.sl _ [(n2 : Int)] rfl (OwnI.rd (lit1 w2 n2)) (by simp; omega) (Nat.le_trans st2.turn.size kA.size) ?_; intro v6 w6 o6 t6 l6))
        have st4 := st3.push (n := (n2 : Int)) ⟨by omega, by omega⟩ o6 t6 l6
        have hc := hcall st4.wg (by omega)
        clear hcall hwo
        go_wp2_with fail
        (with_reducible refine hc.mono ?_)
        clear hc
        rintro e w7 ⟨P3, ps3, a3, ws3, n3, rfl, r1, r2, r3, r4, r5, r6, r7, r8, r9⟩
        have st5 := st4.pat hxt r1 r2 r5 r6 r7 r8 r9
        have kB : Kept w7 (w7.alloc (.cells #[.int .i64 (n3 : Int)] 3)) := (Kept.refl w7).alloc _
        have st6 := st5.kept kB
        have hz6 := st6.len
        go_wp2_with (at_builtin; refine go_appi w.heap.size _ (zs ++ [(n2 : Int)]) rfl st6.sl _ [(n3 : Int)] rfl (OwnI.rd (lit1 w7 n3)) (by simp; omega) (Nat.le_trans st5.turn.size kB.size) ?_; intro v8 w8 o8 t8 l8)
        go_roundw
        case rel =>
          have st8 := st6.push (n := (n3 : Int)) ⟨by omega, by omega⟩ o8 t8 l8
          refine ⟨k + 1, P3, ps3, a3, ws3, zs ++ [(n2 : Int)] ++ [(n3 : Int)], hlk, rfl, ?_, ?_⟩
          · exact { st8 with
              says := by
                rw [st8.says, HST2.out, if_neg HZ.out, ← r4, p5]
                simp
              len := by have := st8.len; omega
              cnt := by have := st8.cnt; omega }
          · rw [HST2.out, ← r4]
        case measure => simp [intOf]; omega
    · have HS := Shut.mk st
      obtain rfl : k = l.length := by omega
      clear hlk
      have hcn := st.cnt
      have hzl := st.len
      have hpp := st.wg.ptr
      have hwl' := (by obtain ⟨_, _, _, _, _, _, _, _, _, _, hw, _⟩ := st.wg.own; exact hw.len : ws'.length ≤ ds.length)
      have hwsl : ws.length ≤ ds.length := (by obtain ⟨_, _, _, _, _, _, _, _, _, _, hw, _⟩ := HH.out.own; exact hw.len)
      have hp9 : ps'.length ≤ 900000000 := by omega
      clear st
      have hwo : ∀ U, Kept wr U → Calls Tryd.prog 75 #[pp, .string (⟨#[41]⟩ : ByteArray)] U (PPost P' U pp ps' [41] 1) := fun U kU => word_any (HS.out.wg.keep kU).pcs [41] (by decide) (by decide) (by omega)
      have hB : w.heap.size ≤ wr.heap.size := HS.out.turn.size
      have HCN := Shut.mk hcn
      have HTK : Shut (l.take l.length = l) := ⟨List.take_length⟩
      have HA := Shut.mk ha'
      clear hcn ha' hk0
      go_wp2_with fail
      go_region_held3 (fun w' => w'.cell? ⟨wb, 1, none⟩ = some pp) (first | exact hpp | assumption | go_keep)
        ((first
          | (go_at_call 75; (with_reducible refine (hwo _ (by first | exact Kept.refl _ | exact (Kept.refl _).drew | exact (Kept.refl _).drewN _)).mono ?_); rintro e w2 ⟨P2, ps2, n2, rfl, p1, p2, p3, p4, p5, p6, p7⟩; have st2 := (HS.out.kept (by first | exact Kept.refl _ | exact (Kept.refl _).drew | exact (Kept.refl _).drewN _)).word p1 p2 p3 p6 p7; have s2 : w2.cell? ⟨wb, 1, none⟩ = some pp := st2.wg.ptr)
          | (refine step_appi _ _ rfl rfl w.heap.size _ zs rfl (BrM.kept st2 (by first | exact (Kept.refl _).alloc _ | exact ((Kept.refl _).alloc _).drew | exact ((Kept.refl _).drew).alloc _ | exact (((Kept.refl _).drew).alloc _).drew | exact ((Kept.refl _).drewN _).alloc _ | exact (((Kept.refl _).drewN _).alloc _).drew | exact (((Kept.refl _).drewN _).alloc _).drewN _ | exact ((Kept.refl _).alloc _).drewN _)).sl _ [(n2 : Int)] rfl ((OwnI.rd (lit1 _ (n2 : Int))).kept (by first | exact Kept.refl _ | exact (Kept.refl _).drew | exact (Kept.refl _).drewN _)) (by simp; omega) (Nat.le_trans st2.turn.size (by simp)) ?_; intro v6 w6 o6 t6 l6; have st4 := (BrM.kept st2 (by first | exact (Kept.refl _).alloc _ | exact ((Kept.refl _).alloc _).drew | exact ((Kept.refl _).drew).alloc _ | exact (((Kept.refl _).drew).alloc _).drew | exact ((Kept.refl _).drewN _).alloc _ | exact (((Kept.refl _).drewN _).alloc _).drew | exact (((Kept.refl _).drewN _).alloc _).drewN _ | exact ((Kept.refl _).alloc _).drewN _)).push (n := (n2 : Int)) ⟨by omega, by omega⟩ o6 t6 l6; have s6 : w6.cell? ⟨wb, 1, none⟩ = some pp := st4.wg.ptr; have hch := fun U (kU : Kept w6 U) => chain_any (st4.wg.keep kU).tab.tabs (st4.wg.keep kU).pcs (Ownv.kept (Ownv.mono0 o6) kU) (by simp) (by simp; omega) st4.isP (by omega))
          | (go_at_call 88; (with_reducible refine (hch _ (by first | exact Kept.refl _ | exact (Kept.refl _).drew | exact (Kept.refl _).drewN _)).mono ?_); rintro e w7 ⟨P3, ps3, n3, rfl, r1, r2, r3, r4, r5, r6, r7⟩; have fin := (st4.kept (by first | exact Kept.refl _ | exact (Kept.refl _).drew | exact (Kept.refl _).drewN _)).chain r1 r2 r6 r7; have s7 : w7.cell? ⟨wb, 1, none⟩ = some pp := fin.1.ptr)))
      all_goals
        go_wp2
        go_ret
        have hst := st4.says
        have hcc := st4.cnt
        refine ⟨P3, ps3, a', ws', n3, rfl, fin.1, fin.2.1, r4, ?_, by omega, st4.sub, st4.top', fin.2.2.1, fin.2.2.2⟩
        rw [r5, hst, p5, HTK.out, HA.out, HTK.out]
        unfold br
        simp [HTX.out]
end Go.Proofs.YtangbnmgkcmhbaaDoor
end

section
/- pattern. -/
set_option linter.unusedSimpArgs false
set_option linter.unusedVariables false
namespace Go.Proofs.YtangbnmgkcmhbaaDoor
open Go.RowKit Go.Maps

theorem tParts_len {ds : List Nd} {kn : Int → Bool} {t : Int} {l : List Int} (h : tParts ds kn t = some l) : l.length ≤ (nd ds t).l.length := by
  unfold tParts at h
  split at h
  · cases h
  split at h
  · obtain rfl := Option.some.inj h
    exact Nat.le_refl _
  · unfold shownOf at h
    split at h
    · obtain rfl := Option.some.inj h
      rw [List.length_drop]; omega
    · split at h
      · split at h
        · obtain rfl := Option.some.inj h
          rw [List.length_take, List.length_drop]; omega
        · cases h
      · cases h
/-- What of a writer pattern reads and writes. -/
theorem WrG.own' {V P W : Nat → Prop} {w0 w : World} {wb : Nat} {pp : Value} {ds : List Nd} {kn : List Bool} {ps : List Pc} {a ws : List Int} (h : WrG V P W w0 w (.pointer (some ⟨wb, 0, none⟩)) pp ds kn ps a ws) :
    ∃ (mb : Nat) (x : Int → Int), w.cell? ⟨wb, 1, none⟩ = some pp ∧ w.cell? ⟨wb, 3, none⟩ = some (.map (some mb)) ∧ IntMap w mb ws x ∧ Written ds kn a ps ws x ∧ W mb ∧
      ∀ (w' : World) (t : Int) (n : Nat), (∀ g : Int → Int, (∀ y ∈ ws, g y = x y) → g t = (n : Int) → IntMap w' mb (ws ++ [t]) g) → Turn (fun b => b = mb) w w' → IsT ds t → t ∉ ws → n < ps.length → pat ds (knB kn) a t = (tx ps (n : Int), a) →
        WrG V P W w0 w' (.pointer (some ⟨wb, 0, none⟩)) pp ds kn ps a (ws ++ [t]) := by
  obtain ⟨wb', nb, mb, vp, x, h1, h2, h3, h4, h5, h6, h7, h8, h9, h10⟩ := h.own
  simp only [Value.pointer.injEq, Option.some.injEq, Addr.mk.injEq] at h1
  obtain ⟨rfl, _⟩ := h1
  have c1 := h2.cell 1
  have c3 := h2.cell 3
  simp only [List.getElem?_cons_succ, List.getElem?_cons_zero] at c1 c3
  refine ⟨mb, x, c1, c3, h5, h6, h10, fun w' t n hm ht hT hn hx hp => ?_⟩
  have hne : mb ≠ wb := fun e => by
    obtain ⟨D, n, hd, _⟩ := h5
    exact ownsMap_notBlk' hd h2 e.symm
  have hmem : ∀ y ∈ ws, (fun y => if y ∈ ws then x y else (n : Int)) y = x y := fun y hy => if_pos hy
  have hself : (fun y => if y ∈ ws then x y else (n : Int)) t = (n : Int) := if_neg hn
  refine ⟨⟨wb, nb, mb, vp, fun y => if y ∈ ws then x y else (n : Int), rfl, h2.turn ht hne.symm, h3.turn ht (fun b hv e => h.vw b hv (by rw [show b = mb from e]; exact h10)), h4.turn ht h7, hm _ hmem hself, ⟨?_, ?_⟩, h7, h8, h9, h10⟩, h.pcs.turn ht (fun b hp e => h.pw b hp (by rw [show b = mb from e]; exact h10)), fun b hb => Nat.lt_of_lt_of_le (h.ltW b hb) ht.size, h.vp, h.vw, h.pw, h.basP, h.basW, Turn.keptOf h.kept ht (fun b hb => h.basW b (by rw [show b = mb from hb]; exact h10)), h.good, h.few, h.tabs, h.nums⟩
  · rw [List.nodup_append]
    exact ⟨h6.1, by simp, fun y hy z hz e => hn (by rw [List.mem_singleton.1 hz] at e; exact e ▸ hy)⟩
  · intro y hy
    rcases List.mem_append.1 hy with hy | hy
    · obtain ⟨q1, q2, q3⟩ := h6.2 y hy
      have e := hmem y hy
      simp only at e ⊢
      rw [e]
      exact ⟨q1, q2, q3⟩
    · rw [List.mem_singleton.1 hy]
      simp only at hself ⊢
      rw [hself]
      exact ⟨hT, ⟨by omega, by omega⟩, hp⟩

set_option maxHeartbeats 8000000 in
set_option maxRecDepth 100000 in
theorem pattern_any {V W : Nat → Prop} {w0 : World} {wp pp : Value} {ds : List Nd} {kn : List Bool} : ∀ (N : Nat) (t : Int), t.toNat < N → IsT ds t → ∀ {P : Nat → Prop} {w : World} {ps : List Pc} {a ws : List Int}, WrG V P W w0 w wp pp ds kn ps a ws → ps.length + 100 * (ds.length - ws.length) + 100 * t.toNat ≤ 300000000 →
    Calls Tryd.prog 52 #[wp, .int .i64 t] w (PatPost V P W w0 w wp pp ds kn ps a ws t 0 (pat ds (knB kn) a t)) := by
  intro N
  induction N with
  | zero => intro t h; omega
  | succ N ih =>
    intro t hN ht P w ps a ws h room
    have HIH : Shut _ := ⟨@ih⟩
    clear ih
    have HH := Shut.mk h
    have hfew := h.few
    have t64 : I64 t := ⟨by have := ht.1; omega, by have := ht.2; omega⟩
    have hwp : ∃ wb, wp = .pointer (some ⟨wb, 0, none⟩) := by
      obtain ⟨wb, nb, mb, vp, x, e, _⟩ := h.own
      exact ⟨wb, e⟩
    obtain ⟨wb, rfl⟩ := hwp
    obtain ⟨mb, x, c1, c3, m1, wr1, wm1, _⟩ := h.own'
    have hwl := wr1.len
    by_cases hin : t ∈ ws
    · obtain ⟨e1, e2, e3⟩ := wr1.2 t hin
      obtain ⟨xn, hxn⟩ := Int.eq_ofNat_of_zero_le e2.1
      have hx2 := e2.2
      rw [hxn] at e3 hx2
      have HE3 := Shut.mk e3
      have HXN := Shut.mk hxn
      clear h e3 hxn wr1 e1 e2
      go_enter Tryd.func52, Tryd.ntmps52
      go_wp2_with (at_lookup; refine go_im_look rfl _ _ rfl mb ws _ rfl m1 t t64 rfl true (by simp [hin]) ?_; intro c hc; obtain rfl := hc rfl)
      go_ret
      exact ⟨P, ps, a, ws, xn, by rw [HXN.out]; rfl, HH.out, PExt.refl _, by omega, HE3.out.symm, by omega, fun y hy => hy, fun y hy => .inl hy, (Kept.refl w).turn _, fun b hb => .inl hb⟩
    · have htold := told_any h ht
      have HE := pat_eq h.good (knB kn) ht a
      rw [pstep_told] at HE
      have hne := tHead_ne h.good (knB kn) a ht
      have hlen := tHead_len h.good h.few (knB kn) h.nums ht
      have hmay := (h.good.mayT ht).len64
      have hpl := fun l => @tParts_len ds (knB kn) t l
      have hps := fun l => @tParts_sub ds (knB kn) t l
      have hless := h.good.lessT ht
      have hpartT := h.good.partT ht
      have HT := Shut.mk ht
      have HN := Shut.mk hin
      have hps0 : ps.length ≤ 300000000 := by omega
      generalize tHead ds (knB kn) a t = hd at htold HE hne hlen
      generalize tNums ds (knB kn) a t = a1 at htold HE
      generalize tParts ds (knB kn) t = parts at htold HE hpl hps
      clear h wr1 ht
      cases parts with
      | none =>
        have HE' := Shut.mk HE
        clear HE hpl hps hless hpartT hmay
        have htold' : Calls Tryd.prog 74 #[.pointer (some ⟨wb, 0, none⟩), .int .i64 t] w (fun e w' => ∃ pv, e = .returned (.tuple #[.string (strB hd), pv, .bool false]) ∧ WrG V P W w0 w' (.pointer (some ⟨wb, 0, none⟩)) pp ds kn ps a1 ws ∧ Turn W w w') := htold.mono (fun e w' ⟨pv, h1, h2, h3, h4⟩ => ⟨pv, h1, h3, h4⟩)
        clear htold
        go_enter Tryd.func52, Tryd.ntmps52
        go_wp2_with (first
          | (at_lookup; refine go_im_look rfl _ _ rfl mb ws _ rfl m1 t t64 rfl false (by simp [hin]) ?_; intro c hc)
          | (go_at_call 74; (with_reducible refine htold'.mono ?_); rintro e w1 ⟨pv, rfl, t2, t3⟩; have d1 := t2.ptr; have hwo := word_any t2.pcs hd hne (by omega) (by omega))
          | (go_at_call 75; (with_reducible refine hwo.mono ?_); rintro e w2 ⟨P2, ps2, n2, rfl, p1, p2, p3, p4, p5, p6, p7⟩; have g2 := t2.more p1 p2 p6 p7; obtain ⟨mb2, x2, z1, z3, z4, z5, z6, z7⟩ := g2.own')
          | (at_mapUpdate; refine go_im_put rfl _ _ _ rfl mb2 ws _ rfl z4 (by omega) t t64 HN.out rfl (n2 : Int) ⟨by omega, by omega⟩ rfl ?_; intro w3 y1 y2))
        go_ret
        have e0 : pat ds (knB kn) a t = (tx ps2 (n2 : Int), a1) := by rw [HE'.out, p5]
        have e1 : pat ds (knB kn) a1 t = (tx ps2 (n2 : Int), a1) := by
          have := pat_again HH.out.good (knB kn) HT.out (a := a) (c := a1) (by rw [e0]; exact ExtN.refl _)
          rw [this, e0]
        have fin := z7 w3 t n2 y1 y2 HT.out HN.out p4 e1
        refine ⟨P2, ps2, a1, ws ++ [t], n2, rfl, fin, p2, p4, e0.symm, by simp; omega, fun y hy => List.mem_append_left _ hy, fun y hy => (List.mem_append.1 hy).elim .inl (fun c => .inr (by rw [List.mem_singleton.1 c]; exact Int.le_refl _)), ?_, fun b hb => (p7 b hb).elim .inl (fun c => .inr (Nat.le_trans t3.size c))⟩
        exact ((t3.mono (fun b hb => .inr hb)).trans p6 (fun b hb => .inl (.inl hb))).trans y2 (fun b hb => .inl (.inr (by rw [show b = mb2 from hb]; exact z6)))
      | some l =>
        have HE' := Shut.mk HE
        have hll : l.length ≤ 64 := Nat.le_trans (hpl l rfl) hmay
        have HLX : Shut (∀ x ∈ l, IsT ds x ∧ 0 ≤ x ∧ x < t) := ⟨fun x hx => ⟨hpartT x (hps l rfl x hx), hless x (hps l rfl x hx)⟩⟩
        clear HE hpl hps hless hpartT hmay
        have htold' : Calls Tryd.prog 74 #[.pointer (some ⟨wb, 0, none⟩), .int .i64 t] w (fun e w' => ∃ pv, e = .returned (.tuple #[.string (strB hd), pv, .bool true]) ∧ RdI w' pv l ∧ (∀ b, VB pv b → V b) ∧ WrG V P W w0 w' (.pointer (some ⟨wb, 0, none⟩)) pp ds kn ps a1 ws ∧ Turn W w w') := htold.mono (fun e w' ⟨pv, h1, h2, h3, h4⟩ => ⟨pv, h1, (h2 l rfl).1, (h2 l rfl).2, h3, h4⟩)
        clear htold
        have hbr : ∀ {P2 : Nat → Prop} {w2 : World} {ps2 : List Pc} {n2 : Nat} {pv : Value}, WrG V P2 W w0 w2 (.pointer (some ⟨wb, 0, none⟩)) pp ds kn ps2 a1 ws → ps2.length ≤ ps.length + 1 → n2 < ps2.length → RdI w2 pv l → (∀ b, VB pv b → V b) →
            Calls Tryd.prog 76 #[.pointer (some ⟨wb, 0, none⟩), .int .i64 n2, pv] w2 (PatPost V P2 W w0 w2 (.pointer (some ⟨wb, 0, none⟩)) pp ds kn ps2 a1 ws (t - 1) 70 (br (tx ps2 (n2 : Int)) (pts (pat ds (knB kn)) true a1 l))) := by
          intro P2 w2 ps2 n2 pv g2 hl2 hn2 hr2 hv2
          refine bracket_any (R := ps.length + 1 + 100 * (ds.length - ws.length)) (by omega) (fun x hx P3 w3 ps3 a3 ws3 g3 r3 => ?_) (fun x hx => by have := (HLX.out x hx).2.2; omega) hll g2 hn2 hr2 hv2 (by omega)
          obtain ⟨q1, q2, q3⟩ := HLX.out x hx
          exact HIH.out x (by omega) q1 g3 (by omega)
        have HBR : Shut _ := ⟨@hbr⟩
        clear hbr
        go_enter Tryd.func52, Tryd.ntmps52
        go_wp2_with (first
          | (at_lookup; refine go_im_look rfl _ _ rfl mb ws _ rfl m1 t t64 rfl false (by simp [hin]) ?_; intro c hc)
          | (go_at_call 74; (with_reducible refine htold'.mono ?_); rintro e w1 ⟨pv, rfl, t0, t1, t2, t3⟩; have d1 := t2.ptr; have hwo := word_any t2.pcs hd hne (by omega) (by omega))
          | (go_at_call 75; (with_reducible refine hwo.mono ?_); rintro e w2 ⟨P2, ps2, n2, rfl, p1, p2, p3, p4, p5, p6, p7⟩; have g2 := t2.more p1 p2 p6 p7; have hbc := HBR.out g2 p3 p4 (t0.turn p6 (fun b hb => t2.vp b (t1 b hb))) t1)
          | (go_at_call 76; (with_reducible refine hbc.mono ?_); rintro e w3 ⟨P3, ps3, a3, ws3, n3, rfl, r1, r2, r3, r4, r5, r6, r7, r8, r9⟩; obtain ⟨mb3, x3, z1, z3, z4, z5, z6, z7⟩ := r1.own'; have z8 := z5.len; have z9 : t ∉ ws3 := fun hy => (r7 t hy).elim HN.out (fun c => by omega))
          | (at_mapUpdate; refine go_im_put rfl _ _ _ rfl mb3 ws3 _ rfl z4 (by omega) t t64 z9 rfl (n3 : Int) ⟨by omega, by omega⟩ rfl ?_; intro w4 y1 y2))
        go_ret
        have e0 : pat ds (knB kn) a t = (tx ps3 (n3 : Int), a3) := by rw [HE'.out, r4, p5]
        have e1 : pat ds (knB kn) a3 t = (tx ps3 (n3 : Int), a3) := by
          have := pat_again HH.out.good (knB kn) HT.out (a := a) (c := a3) (by rw [e0]; exact ExtN.refl _)
          rw [this, e0]
        have fin := z7 w4 t n3 y1 y2 HT.out z9 r3 e1
        refine ⟨P3, ps3, a3, ws3 ++ [t], n3, rfl, fin, p2.trans r2, r3, e0.symm, by simp; omega, fun y hy => List.mem_append_left _ (r6 y hy), fun y hy => (List.mem_append.1 hy).elim (fun c => (r7 y c).elim .inl (fun c => .inr (by omega))) (fun c => .inr (by rw [List.mem_singleton.1 c]; exact Int.le_refl _)), ?_, ?_⟩
        · have q1 : Turn (fun b => P b ∨ W b) w w2 := (t3.mono (fun b hb => .inr hb)).trans p6 (fun b hb => .inl (.inl hb))
          have q2 : Turn (fun b => P b ∨ W b) w w3 := q1.trans r8 (fun b hb => hb.elim (fun c => (p7 b c).elim (fun c => .inl (.inl c)) (fun c => .inr (Nat.le_trans t3.size c))) (fun c => .inl (.inr c)))
          exact q2.trans y2 (fun b hb => .inl (.inr (by rw [show b = mb3 from hb]; exact z6)))
        · intro b hb
          rcases r9 b hb with c | c
          · exact (p7 b c).elim .inl (fun c => .inr (Nat.le_trans t3.size c))
          · exact .inr (Nat.le_trans (Nat.le_trans t3.size p6.size) c)
end Go.Proofs.YtangbnmgkcmhbaaDoor
end

section
/- What terms are made of: how it is marked from behind; what is known of it. Plain facts. -/
set_option linter.unusedSimpArgs false
set_option linter.unusedVariables false
namespace Go.Proofs.YtangbnmgkcmhbaaDoor
open Go

/-- t is one of l, or one that these are made of. -/
inductive Inn (ds : List Nd) (l : List Int) : Int → Prop
  | base {t : Int} : t ∈ l → Inn ds l t
  | part {t u : Int} : Inn ds l u → t ∈ (nd ds u).l → Inn ds l t
theorem Inn.isT {ds : List Nd} (hg : Good ds) {l : List Int} (hl : ∀ x ∈ l, IsT ds x) {t : Int} (h : Inn ds l t) : IsT ds t := by
  induction h with
  | base h => exact hl _ h
  | part h1 h2 ih => exact hg.partT ih _ h2
theorem Inn.mono {ds : List Nd} {l m : List Int} (h : ∀ x ∈ l, Inn ds m x) {t : Int} (k : Inn ds l t) : Inn ds m t := by
  induction k with
  | base h1 => exact h _ h1
  | part _ h2 ih => exact .part ih h2

def mark (bs : List Bool) (l : List Int) : List Bool := l.foldl (fun b t => b.set t.toNat true) bs
theorem mark_len (bs : List Bool) (l : List Int) : (mark bs l).length = bs.length := by
  induction l generalizing bs with
  | nil => rfl
  | cons a l ih => show (mark (bs.set a.toNat true) l).length = _; rw [ih, List.length_set]
theorem mark_take (bs : List Bool) (l : List Int) (k : Nat) (h : k < l.length) : mark bs (l.take (k + 1)) = (mark bs (l.take k)).set (l.getD k 0).toNat true := by
  unfold mark
  rw [List.take_succ_eq_append_getElem h, List.foldl_append, List.getD_eq_getElem?_getD, List.getElem?_eq_getElem h]
  rfl
theorem mark_at (bs : List Bool) (l : List Int) (hl : ∀ x ∈ l, 0 ≤ x ∧ x < (bs.length : Int)) (i : Nat) : (mark bs l).getD i false = true ↔ bs.getD i false = true ∨ (i : Int) ∈ l := by
  induction l generalizing bs with
  | nil => simp [mark]
  | cons a l ih =>
    have ha := hl a List.mem_cons_self
    show (mark (bs.set a.toNat true) l).getD i false = true ↔ _
    rw [ih (bs.set a.toNat true) (fun x hx => by rw [List.length_set]; exact hl x (List.mem_cons_of_mem _ hx)), getD_set_b, List.mem_cons]
    by_cases c : a.toNat = i
    · rw [if_pos ⟨c, by omega⟩]
      have : (i : Int) = a := by omega
      simp [this]
    · rw [if_neg (fun e => c e.1)]
      have : ¬ (i : Int) = a := by omega
      simp [this]
/-- One round: the parts of t, if it is marked. -/
def mstep (ds : List Nd) (bs : List Bool) (t : Nat) : List Bool := if bs.getD t false = true then mark bs (ds.getD t nd0).l else bs
/-- Behind k rounds, from behind. -/
def mrounds (ds : List Nd) (bs : List Bool) : Nat → List Bool
  | 0 => bs
  | k + 1 => mstep ds (mrounds ds bs k) (ds.length - 1 - k)
def marks0 (ds : List Nd) (l : List Int) : List Bool := mark (List.replicate ds.length false) l
theorem mstep_len (ds : List Nd) (bs : List Bool) (t : Nat) : (mstep ds bs t).length = bs.length := by
  unfold mstep
  split
  · exact mark_len _ _
  · rfl
theorem mrounds_len (ds : List Nd) (bs : List Bool) (k : Nat) : (mrounds ds bs k).length = bs.length := by
  induction k with
  | zero => rfl
  | succ k ih => show (mstep ds _ _).length = _; rw [mstep_len, ih]
theorem marks0_len (ds : List Nd) (l : List Int) : (marks0 ds l).length = ds.length := by unfold marks0; rw [mark_len, List.length_replicate]
/-- What is marked behind k rounds: what is in l, and closed from n - k on. -/
theorem mrounds_inv {ds : List Nd} (hg : Good ds) {l : List Int} (hl : ∀ x ∈ l, IsT ds x) : ∀ k, k ≤ ds.length →
    (∀ i : Nat, (mrounds ds (marks0 ds l) k).getD i false = true → Inn ds l (i : Int)) ∧ (∀ x ∈ l, (mrounds ds (marks0 ds l) k).getD x.toNat false = true) ∧
    (∀ u : Nat, ds.length - k ≤ u → u < ds.length → (mrounds ds (marks0 ds l) k).getD u false = true → ∀ y ∈ (ds.getD u nd0).l, (mrounds ds (marks0 ds l) k).getD y.toNat false = true) := by
  have hz : ∀ i : Nat, (List.replicate ds.length false).getD i false = false := fun i => by
    rw [List.getD_eq_getElem?_getD, List.getElem?_replicate]; split <;> rfl
  have hm0 := mark_at (List.replicate ds.length false) l (fun x hx => by rw [List.length_replicate]; exact hl x hx)
  intro k
  induction k with
  | zero =>
    intro _
    refine ⟨fun i hi => ?_, fun x hx => ?_, fun u h1 h2 => by omega⟩
    · rcases (hm0 i).1 hi with c | c
      · rw [hz] at c; cases c
      · exact .base c
    · refine (hm0 x.toNat).2 (.inr ?_)
      have := (hl x hx).1
      rw [show (x.toNat : Int) = x by omega]
      exact hx
  | succ k ih =>
    intro hk
    obtain ⟨a, b, c⟩ := ih (by omega)
    generalize hbs : mrounds ds (marks0 ds l) k = bs at a b c
    have hlen : bs.length = ds.length := by rw [← hbs, mrounds_len, marks0_len]
    have ht : ds.length - 1 - k < ds.length := by omega
    have hpl := hg.lesser ht
    have e : mrounds ds (marks0 ds l) (k + 1) = mstep ds (mrounds ds (marks0 ds l) k) (ds.length - 1 - k) := rfl
    rw [e]
    rw [hbs]
    unfold mstep
    split
    · rename_i hb
      have hma := mark_at bs (ds.getD (ds.length - 1 - k) nd0).l (fun x hx => by have := hpl x hx; omega)
      refine ⟨fun i hi => ?_, fun x hx => (hma _).2 (.inl (b x hx)), fun u h1 h2 hu y hy => ?_⟩
      · rcases (hma i).1 hi with d | d
        · exact a i d
        · exact .part (a _ hb) (by rw [nd_of]; exact d)
      · by_cases e : u = ds.length - 1 - k
        · subst e
          have := hpl y hy
          exact (hma _).2 (.inr (by rw [show (y.toNat : Int) = y by omega]; exact hy))
        · rcases (hma u).1 hu with d | d
          · exact (hma _).2 (.inl (c u (by omega) h2 d y hy))
          · have := hpl _ d; omega
    · rename_i hb
      refine ⟨a, b, fun u h1 h2 hu y hy => ?_⟩
      by_cases e : u = ds.length - 1 - k
      · subst e; exact absurd hu hb
      · exact c u (by omega) h2 hu y hy
/-- At the end: all that they are made of. -/
theorem within_all {ds : List Nd} (hg : Good ds) {l : List Int} (hl : ∀ x ∈ l, IsT ds x) (t : Nat) (ht : t < ds.length) : (mrounds ds (marks0 ds l) ds.length).getD t false = true ↔ Inn ds l (t : Int) := by
  obtain ⟨a, b, c⟩ := mrounds_inv hg hl ds.length (Nat.le_refl _)
  refine ⟨a t, fun h => ?_⟩
  have key : ∀ x, Inn ds l x → (mrounds ds (marks0 ds l) ds.length).getD x.toNat false = true := by
    intro x hx
    induction hx with
    | base h => exact b _ h
    | part h1 h2 ih =>
      obtain ⟨n, rfl, hn⟩ := isT_nat (h1.isT hg hl)
      rw [Int.toNat_natCast] at ih
      rw [nd_of] at h2
      exact c n (by omega) hn ih _ h2
  have := key _ h
  rwa [Int.toNat_natCast] at this

/-! ## what is known -/
/-- Those that are marked and can be derived, rising. -/
def knownB (ins kn : List Bool) (k : Nat) : List Int := ((List.range k).filter fun t => ins.getD t false && kn.getD t false).map fun t : Nat => (t : Int)
theorem knownB_succ (ins kn : List Bool) (k : Nat) : knownB ins kn (k + 1) = knownB ins kn k ++ (if (ins.getD k false && kn.getD k false) = true then [(k : Int)] else []) := by
  unfold knownB
  rw [List.range_succ, List.filter_append, List.map_append]
  congr 1
  by_cases h : (ins.getD k false && kn.getD k false) = true
  · rw [if_pos h, List.filter_cons, if_pos h]; rfl
  · rw [if_neg h, List.filter_cons, if_neg h]; rfl
theorem knownB_len (ins kn : List Bool) (k : Nat) : (knownB ins kn k).length ≤ k := by
  unfold knownB
  rw [List.length_map]
  exact Nat.le_trans (List.length_filter_le _ _) (by simp)
/-- What Known tells. -/
structure Knows (ds : List Nd) (l us : List Int) : Prop where
  rise : us.Pairwise (· < ·)
  mem : ∀ t, t ∈ us ↔ Inn ds l t ∧ Der ds l t
theorem knows_of {ds : List Nd} (hg : Good ds) {l : List Int} (hl : ∀ x ∈ l, IsT ds x) {ins kn : List Bool} (hi : ∀ t : Nat, t < ds.length → (ins.getD t false = true ↔ Inn ds l (t : Int))) (hk : ∀ t : Nat, t < ds.length → (kn.getD t false = true ↔ Der ds l (t : Int))) : Knows ds l (knownB ins kn ds.length) := by
  refine ⟨?_, fun t => ?_⟩
  · unfold knownB
    rw [List.pairwise_map]
    refine List.Pairwise.filter _ ?_
    exact (List.pairwise_lt_range).imp (fun h => by omega)
  · unfold knownB
    rw [List.mem_map]
    constructor
    · rintro ⟨n, hn, rfl⟩
      obtain ⟨h1, h2⟩ := List.mem_filter.1 hn
      have hn := List.mem_range.1 h1
      simp only [Bool.and_eq_true] at h2
      exact ⟨(hi n hn).1 h2.1, (hk n hn).1 h2.2⟩
    · rintro ⟨h1, h2⟩
      obtain ⟨n, rfl, hn⟩ := isT_nat (h1.isT hg hl)
      exact ⟨n, List.mem_filter.2 ⟨List.mem_range.2 hn, by simp only [Bool.and_eq_true]; exact ⟨(hi n hn).2 h1, (hk n hn).2 h2⟩⟩, rfl⟩
theorem pairwise_ext {l m : List Int} (hl : l.Pairwise (· < ·)) (hm : m.Pairwise (· < ·)) (h : ∀ x, x ∈ l ↔ x ∈ m) : l = m := by
  induction l generalizing m with
  | nil =>
    cases m with
    | nil => rfl
    | cons b m => have := (h b).2 List.mem_cons_self; cases this
  | cons a l ih =>
    cases m with
    | nil => have := (h a).1 List.mem_cons_self; cases this
    | cons b m =>
      have h1 := List.pairwise_cons.1 hl
      have h2 := List.pairwise_cons.1 hm
      have e : a = b := by
        rcases List.mem_cons.1 ((h a).1 List.mem_cons_self) with c | c
        · exact c
        · rcases List.mem_cons.1 ((h b).2 List.mem_cons_self) with d | d
          · exact d.symm
          · have := h1.1 b d; have := h2.1 a c; omega
      subst e
      congr 1
      refine ih h1.2 h2.2 fun x => ⟨fun hx => ?_, fun hx => ?_⟩
      · rcases List.mem_cons.1 ((h x).1 (List.mem_cons_of_mem _ hx)) with c | c
        · have := h1.1 x hx; omega
        · exact c
      · rcases List.mem_cons.1 ((h x).2 (List.mem_cons_of_mem _ hx)) with c | c
        · have := h2.1 x hx; omega
        · exact c
theorem Knows.unique {ds : List Nd} {l us vs : List Int} (h : Knows ds l us) (k : Knows ds l vs) : us = vs := pairwise_ext h.rise k.rise fun x => (h.mem x).trans (k.mem x).symm

/-! ## what follows (P5.3) -/
theorem Knows.more {ds : List Nd} {l m us vs : List Int} (h : Knows ds l us) (k : Knows ds (l ++ m) vs) : ∀ t ∈ us, t ∈ vs := fun t ht => by
  obtain ⟨a, b⟩ := (h.mem t).1 ht
  exact (k.mem t).2 ⟨a.mono (fun x hx => .base (List.mem_append_left _ hx)), b.mono (fun x hx => .base (List.mem_append_left _ hx))⟩
theorem Knows.adds {ds : List Nd} {l us vs : List Int} (h : Knows ds l us) (k : Knows ds (l ++ us) vs) : us = vs := by
  refine pairwise_ext h.rise k.rise fun t => ?_
  rw [h.mem, k.mem]
  refine ⟨fun ⟨a, b⟩ => ⟨a.mono (fun x hx => .base (List.mem_append_left _ hx)), b.mono (fun x hx => .base (List.mem_append_left _ hx))⟩, fun ⟨a, b⟩ => ⟨a.mono fun x hx => ?_, b.mono fun x hx => ?_⟩⟩
  · rcases List.mem_append.1 hx with c | c
    · exact .base c
    · exact ((h.mem x).1 c).1
  · rcases List.mem_append.1 hx with c | c
    · exact .base c
    · exact ((h.mem x).1 c).2
theorem Knows.same {ds : List Nd} {l us : List Int} (h : Knows ds l us) (t : Int) : Der ds l t ↔ Der ds us t :=
  ⟨fun a => a.mono fun x hx => .base ((h.mem x).2 ⟨.base hx, .base hx⟩), fun a => a.mono fun x hx => ((h.mem x).1 hx).2⟩
end Go.Proofs.YtangbnmgkcmhbaaDoor
end
