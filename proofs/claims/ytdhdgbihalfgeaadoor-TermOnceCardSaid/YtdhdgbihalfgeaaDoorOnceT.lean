/- The walk of TermOnce. -/
import Derived.Test.YtdhdgbihalfgeaaDoorTermN
import Derived.Test.YtdhdgbihalfgeaaDoorTermK
import Derived.Deep.RegionHeld3
set_option linter.unusedSimpArgs false
set_option linter.unusedVariables false
namespace Go.Proofs.YtdhdgbihalfgeaaDoor
open Go.RowKit Go.Maps

/-- The terms that were told are there. -/
def Has (ds ls : List Nd) (ts : List Int) : Prop := ∀ i, i < ts.length → 0 ≤ ts.getD i 0 → ts.getD i 0 < ds.length ∧ ds.getD (ts.getD i 0).toNat nd0 = ls.getD i nd0
theorem Has.more {ds ls : List Nd} {ts : List Int} (h : Has ds ls ts) (r : List Nd) : Has (ds ++ r) ls ts := fun i hi h0 => by
  obtain ⟨a, b⟩ := h i hi h0
  exact ⟨by rw [List.length_append]; omega, by rw [getD_app (by omega)]; exact b⟩
theorem getD_snoc_i (l : List Int) (x : Int) (i : Nat) : (l ++ [x]).getD i 0 = if i < l.length then l.getD i 0 else if i = l.length then x else 0 := by
  simp only [List.getD_eq_getElem?_getD]
  by_cases h : i < l.length
  · rw [if_pos h, List.getElem?_append_left h]
  · rw [if_neg h, List.getElem?_append_right (by omega)]
    by_cases h2 : i = l.length
    · simp [h2]
    · rw [if_neg h2, List.getElem?_eq_none (by simp; omega)]; rfl
theorem Has.snoc {ds ls : List Nd} {ts : List Int} (h : Has ds ls ts) {t : Int} (ht : 0 ≤ t → t < ds.length ∧ ds.getD t.toNat nd0 = ls.getD ts.length nd0) : Has ds ls (ts ++ [t]) := fun i hi h0 => by
  rw [List.length_append, List.length_singleton] at hi
  rw [getD_snoc_i] at h0 ⊢
  by_cases c : i < ts.length
  · rw [if_pos c] at h0 ⊢; exact h i c h0
  · obtain rfl : i = ts.length := by omega
    rw [if_neg c, if_pos rfl] at h0 ⊢; exact ht h0

theorem kept_cell {a b : World} {p : Addr} {v : Value} (k : Kept a b) (h : a.cell? p = some v) : b.cell? p = some v := (Below.cell k (World.block_lt_of_cell? _ _ h)).trans h

set_option maxHeartbeats 8000000 in
set_option maxRecDepth 100000 in
theorem once_walk {w : World} {v : Value} {ls : List Nd} (hv : RdNs w v ls) (hok : ∀ d ∈ ls, NdOk d) (ht : Tabs w) :
    Calls Tryd.prog 5 #[v] w fun e w' => e = .returned (.bool true) ∧ Kept w w' := by
  obtain ⟨na, ncap, rfl, n1, n2, _⟩ := hv.len
  have n63 : ((ls.length : Nat) : Int) ≤ 9223372036854775807 := by unfold maxLen at n2; omega
  go_enter Tryd.func5, Tryd.ntmps5
  go_wp2_with fail
  refine (live_any ht).mono ?_
  rintro e w1 ⟨rfl, k1⟩
  go_wp2_with fail
  refine (few_any (hv.kept k1)).mono ?_
  rintro e w2 ⟨b, rfl, hfew, k2⟩
  have k02 := k1.trans k2
  cases b with
  | false =>
    go_wp2
    go_ret
    exact ⟨rfl, k02⟩
  | true =>
    have hf := hfew rfl
    clear hfew
    by_cases h60 : 60 < ls.length
    · go_wp2
      go_ret
      exact ⟨rfl, k02⟩
    · go_wp2_with fail
      refine (new_any w2).mono ?_
      rintro e w3 ⟨F0, p, rfl, ha, k3, hF0, rfl⟩
      have k03 := k02.trans k3
      have hF0' : ∀ b, F0 b → w.heap.size ≤ b := fun b hb => Nat.le_trans k02.size (hF0 b hb)
      go_wp2
      go_loopw [5, 31] (fun av i wr => ∃ (k : Nat) (F : Nat → Prop) (ds : List Nd) (ts : List Int), k ≤ ls.length ∧ i = .int .i64 k ∧ Ar F wr (.pointer (some ⟨w2.heap.size + 1, 0, none⟩)) ds ∧ (∀ b, F b → w.heap.size ≤ b) ∧ OwnI 0 wr av ts ∧ (∀ b, Blks av b → w.heap.size ≤ b ∧ ¬ F b) ∧ ts.length = k ∧ Has ds ls ts ∧ Kept w wr) (fun _ i _ => ls.length - (intOf i).toNat)
      case atStart => exact ⟨0, F0, [], [], Nat.zero_le _, rfl, ha, hF0', OwnI.nil _ _, (fun b hb => by cases hb), rfl, (fun i hi => by simp at hi), k03⟩
      case round =>
        obtain ⟨k, F, ds, ts, hk0, rfl, har, hF, ho, hb, htl, hhas, hk⟩ := hrel
        have HH := Shut.mk hhas
        have HT := Shut.mk htl
        clear hhas htl
        by_cases hlt : k < ls.length
        · obtain ⟨nb, noff, ncap', la, lc, hv', hcl, hlr⟩ := hv.at hlt
          simp only [Value.slice.injEq] at hv'
          obtain ⟨rfl, _, rfl⟩ := hv'
          obtain ⟨y0, y1, y2, y3⟩ := hcl wr hk
          have hdk : NdOk (ls.getD k nd0) := hok _ (by rw [List.getD_eq_getElem?_getD, List.getElem?_eq_getElem hlt]; exact List.getElem_mem _)
          clear hcl
          generalize hd : ls.getD k nd0 = d at y0 y1 y2 y3 hlr hdk
          have HD := Shut.mk hd
          clear hd
          have hd1 : ∀ W, Kept w W → RdN W (.agg #[.int .i64 d.op, .int .i64 d.n, .string (strB d.s), .slice la d.l.length lc]) d := fun W k => ⟨_, rfl, hlr.kept k⟩
          have ka : Kept wr (wr.alloc (.cells #[.int .i64 d.op, .int .i64 d.n, .string (strB d.s), .slice la d.l.length lc] 31)) := (Kept.refl wr).alloc _
          have hmk := make_any (ArG.kept har ka) (ht.kept (hk.trans ka)) (hd1 _ (hk.trans ka)) hdk
          have hat := mk_at (ds := ds) (d := d)
          have hext := mk_ext ds d
          generalize mk ds d = m at hmk hat hext
          obtain ⟨ds2, t2, e2⟩ := m
          simp only at hmk hat hext
          have HAT := Shut.mk hat
          obtain ⟨r, rfl⟩ := hext
          clear hat
          have oa : OwnI 0 _ u5 ts := Ownv.kept ho ka
          by_cases he : e2 = 0
          · have hd0 : (e2 != 0) = false := by simpa using he
            obtain ⟨q1, q2, q3⟩ := HAT.out he
            have HQ := Shut.mk q3
            clear q3 he
            go_wp2_with (first
              | (go_at_call 13; refine hmk.mono ?_; rintro e w4 ⟨F', rfl, r1, r2, r3⟩;
                 have o4 : OwnI 0 w4 u5 ts := Ownv.turn oa r2 (fun b h1 h2 => (hb b h1).2 h2);
                 have k4 : Kept w w4 := Turn.keptOf (hk.trans ka) r2 hF)
              | (at_builtin; refine go_appi 0 u5 ts rfl (Ownv.kept o4 ((Kept.refl w4).alloc _)) _ [t2] rfl (OwnI.rd (OwnI.lit1 w4 t2)) (by have := HT.out; simp; omega) (Nat.zero_le _) ?_; intro v6 w6 o6 t6 l6))
            have k44 : Kept w4 (w4.alloc (.cells #[.int .i64 t2] 3)) := (Kept.refl w4).alloc _
            have hdis : ∀ b, F' b → ¬ Blks u5 b := fun b h1 h2 => (r3 b h1).elim (hb b h2).2 (fun c => by have := (Ownv.lt oa h2).1; omega)
            go_roundw
            case rel =>
              refine ⟨k + 1, F', ds ++ r, ts ++ [t2], hlt, rfl, ArG.turn (ArG.kept r1 k44) t6 hdis, fun b h1 => (r3 b h1).elim (hF b) (fun c => Nat.le_trans (hk.trans ka).size c), o6, fun b h1 => ?_, by rw [List.length_append, HT.out]; rfl, (HH.out.more r).snoc (fun _ => ⟨q2, by rw [HT.out, HD.out]; exact HQ.out⟩), Turn.keptOf (k4.trans k44) t6 (fun b h1 => (hb b h1).1)⟩
              rcases l6 b h1 with c | c
              · exact ⟨(hb b c).1, fun e => hdis b e c⟩
              · exact ⟨Nat.le_trans (k4.trans k44).size c, fun e => by have := r1.lt b e; have := k44.size; omega⟩
            case measure => simp [intOf]; omega
          · have hd0 : (e2 != 0) = true := by simpa using he
            clear he
            go_wp2_with (first
              | (go_at_call 13; refine hmk.mono ?_; rintro e w4 ⟨F', rfl, r1, r2, r3⟩;
                 have o4 : OwnI 0 w4 u5 ts := Ownv.turn oa r2 (fun b h1 h2 => (hb b h1).2 h2);
                 have k4 : Kept w w4 := Turn.keptOf (hk.trans ka) r2 hF)
              | (at_builtin; refine go_appi 0 u5 ts rfl (Ownv.kept o4 ((Kept.refl w4).alloc _)) _ [-1] rfl (OwnI.rd (OwnI.lit1 w4 (-1))) (by have := HT.out; simp; omega) (Nat.zero_le _) ?_; intro v6 w6 o6 t6 l6))
            have k44 : Kept w4 (w4.alloc (.cells #[.int .i64 (-1)] 3)) := (Kept.refl w4).alloc _
            have hdis : ∀ b, F' b → ¬ Blks u5 b := fun b h1 h2 => (r3 b h1).elim (hb b h2).2 (fun c => by have := (Ownv.lt oa h2).1; omega)
            go_roundw
            case rel =>
              refine ⟨k + 1, F', ds ++ r, ts ++ [-1], hlt, rfl, ArG.turn (ArG.kept r1 k44) t6 hdis, fun b h1 => (r3 b h1).elim (hF b) (fun c => Nat.le_trans (hk.trans ka).size c), o6, fun b h1 => ?_, by rw [List.length_append, HT.out]; rfl, (HH.out.more r).snoc (fun h => by omega), Turn.keptOf (k4.trans k44) t6 (fun b h1 => (hb b h1).1)⟩
              rcases l6 b h1 with c | c
              · exact ⟨(hb b c).1, fun e => hdis b e c⟩
              · exact ⟨Nat.le_trans (k4.trans k44).size c, fun e => by have := r1.lt b e; have := k44.size; omega⟩
            case measure => simp [intOf]; omega
        · obtain rfl : k = ls.length := by omega
          have hlen := arg_len har
          obtain ⟨oa0, oc0, hu5, _, _, _⟩ := (OwnI.rd ho).len
          subst hu5
          rw [HT.out] at ho hb ⊢
          go_wp2_with (go_at_call 15; refine hlen.mono ?_; rintro e w' ⟨rfl, rfl⟩)
          obtain ⟨many, hmany⟩ : ∃ many, many = ds.length := ⟨_, rfl⟩
          have HMANY := Shut.mk hmany
          rw [← hmany]
          clear hmany hlen
          have hfew := har.few
          have HFEW := Shut.mk (show many ≤ 100000 by rw [HMANY.out]; exact hfew)
          clear hfew
          go_loopw [52] (fun i wr' => ∃ (k : Nat) (F : Nat → Prop) (ds : List Nd), k ≤ ls.length ∧ i = .int .i64 k ∧ Ar F wr' (.pointer (some ⟨w2.heap.size + 1, 0, none⟩)) ds ∧ (∀ b, F b → w.heap.size ≤ b) ∧ OwnI 0 wr' (.slice oa0 ls.length oc0) ts ∧ (∀ b, Blks (.slice oa0 ls.length oc0) b → w.heap.size ≤ b ∧ ¬ F b) ∧ Has ds ls ts ∧ many ≤ ds.length ∧ Kept w wr') (fun i _ => ls.length - (intOf i).toNat)
          case atStart => exact ⟨0, F, ds, Nat.zero_le _, rfl, har, hF, ho, hb, HH.out, by rw [HMANY.out]; exact Nat.le_refl _, hk⟩
          case round =>
            clear har hF ho hb hk HH hlt hk0
            obtain ⟨k, F2, es, hk0, rfl, har, hF, ho, hb, hhas, hmn, hk⟩ := hrel
            have HH := Shut.mk hhas
            have HMN := Shut.mk hmn
            clear hhas hmn
            by_cases hlt : k < ls.length
            · obtain ⟨nb, noff, ncap', la, lc, hv', hcl, hlr⟩ := hv.at hlt
              simp only [Value.slice.injEq] at hv'
              obtain ⟨rfl, _, rfl⟩ := hv'
              obtain ⟨rb, ro, rc, hrv, _, _, hrb, hrc⟩ := (OwnI.rd ho).addr (by have := HT.out; omega)
              simp only [Value.slice.injEq] at hrv
              obtain ⟨rfl, hdrop, rfl⟩ := hrv
              clear hdrop
              obtain ⟨y0, y1, y2, y3⟩ := hcl _ hk
              have hrk := hrc k (by have := HT.out; omega)
              have hdk : NdOk (ls.getD k nd0) := hok _ (by rw [List.getD_eq_getElem?_getD, List.getElem?_eq_getElem hlt]; exact List.getElem_mem _)
              have HCL := Shut.mk hcl
              have HRC := Shut.mk hrc
              clear hcl hrc
              generalize hd : ls.getD k nd0 = d at y0 y1 y2 y3 hlr hdk
              have HD := Shut.mk hd
              clear hd
              have hd1 : ∀ W, Kept w W → RdN W (.agg #[.int .i64 d.op, .int .i64 d.n, .string (strB d.s), .slice la d.l.length lc]) d := fun W k => ⟨_, rfl, hlr.kept k⟩
              have ka := (Kept.refl _).alloc (.cells #[.int .i64 d.op, .int .i64 d.n, .string (strB d.s), .slice la d.l.length lc] 31) (w := wr)
              have hmk := make_any (ArG.kept har ka) (ht.kept (hk.trans ka)) (hd1 _ (hk.trans ka)) hdk
              have oa : OwnI 0 _ _ ts := Ownv.kept ho ka
              have bx := Blk.new wr [.int .i64 d.op, .int .i64 d.n, .string (strB d.s), .slice la d.l.length lc] 31
              by_cases hneg : ts.getD k 0 < 0
              · have hext := mk_ext es d
                generalize mk es d = m at hmk hext
                obtain ⟨ds2, t2, e2⟩ := m
                simp only at hmk hext
                obtain ⟨r, rfl⟩ := hext
                generalize htk : ts.getD k 0 = tk at hrk hneg
                go_wp2_with (first
                | (go_at_call 13; refine hmk.mono ?_; rintro e w4 ⟨F', rfl, r1, r2, r3⟩;
                   have o4 : OwnI 0 w4 (.slice (some ⟨rb, ro, none⟩) ls.length oc0) ts := Ownv.turn oa r2 (fun b h1 h2 => (hb b h1).2 h2);
                   have k4 : Kept w w4 := Turn.keptOf (hk.trans ka) r2 hF;
                   have hrk4 : w4.cell? ⟨rb, ro + k, none⟩ = some (.int .i64 tk) := (World.cell?_of_block (r2.block rb (by have := ka.size; show rb < _; omega) (hb rb rfl).2)).trans (kept_cell ka hrk)))
                go_roundw
                case rel =>
                  refine ⟨k + 1, F', es ++ r, hlt, rfl, r1, fun b h1 => (r3 b h1).elim (hF b) (fun c => Nat.le_trans (hk.trans ka).size c), o4, fun b h1 => ⟨(hb b h1).1, fun h2 => (r3 b h2).elim (hb b h1).2 (fun c => by have := (Ownv.lt oa h1).1; omega)⟩, HH.out.more r, ?_, k4⟩
                  rw [List.length_append]
                  have := HMN.out
                  omega
                case measure => simp [intOf]; omega
              · have hpos : 0 ≤ ts.getD k 0 := by omega
                obtain ⟨hq1, hq2⟩ := HH.out k (by have := HT.out; omega) hpos
                obtain ⟨q, hq⟩ := Int.eq_ofNat_of_zero_le hpos
                rw [hq] at hq1 hq2 hrk
                rw [Int.toNat_natCast, HD.out] at hq2
                have hql : q < es.length := by omega
                rw [mk_again har.good hql hq2] at hmk
                have hless := har.good.lesser hql
                rw [hq2] at hless
                have HLESS := Shut.mk hless
                have HQ := Shut.mk hq
                have HQ2 := Shut.mk hq2
                have HGOOD := Shut.mk har.good
                clear hless hq hq2 hneg hpos hq1
                go_wp2_with (first
                | (go_at_call 13; refine hmk.mono ?_; rintro e w4 ⟨F', rfl, r1, r2, r3⟩;
                   have o4 : OwnI 0 w4 (.slice (some ⟨rb, ro, none⟩) ls.length oc0) ts := Ownv.turn oa r2 (fun b h1 h2 => (hb b h1).2 h2);
                   have k4 : Kept w w4 := Turn.keptOf (hk.trans ka) r2 hF;
                   have hrk4 : w4.cell? ⟨rb, ro + k, none⟩ = some (.int .i64 (q : Int)) := (World.cell?_of_block (r2.block rb (by have := ka.size; show rb < _; omega) (hb rb rfl).2)).trans (kept_cell ka hrk)))
                have bx4 : Blk w4 wr.heap.size 31 [.int .i64 d.op, .int .i64 d.n, .string (strB d.s), .slice la d.l.length lc] := bx.turn r2 (fun e => by have := har.lt _ e; omega)
                have hrb4 : ∀ j, j < ls.length → w4.cell? ⟨rb, ro + j, none⟩ = some (.int .i64 (ts.getD j 0)) := fun j hj => (World.cell?_of_block (r2.block rb (by have := ka.size; show rb < _; omega) (hb rb rfl).2)).trans (kept_cell ka (HRC.out j (by have := HT.out; omega)))
                have HRB := Shut.mk hrb4
                clear hrb4 hmk
                generalize wr.heap.size = qb at bx4 ⊢
                go_loopw [79] (fun i wr5 => ∃ j : Nat, j ≤ k ∧ i = .int .i64 j ∧ Kept w4 wr5) (fun i _ => k - (intOf i).toNat)
                case atStart => exact ⟨0, Nat.zero_le _, rfl, Kept.refl _⟩
                case round =>
                  obtain ⟨j, hj0, rfl, hk5⟩ := hrel
                  by_cases hjk : j < k
                  · have hjl : j < ls.length := by omega
                    have hrj := kept_cell hk5 (HRB.out j hjl)
                    have j0 : (0 : Int) ≤ (j : Int) := by omega
                    have j1 : (j : Int) < (ls.length : Int) := by omega
                    generalize htj : ts.getD j 0 = tj at hrj
                    have HTJ := Shut.mk htj
                    clear htj
                    by_cases hneg : tj < 0
                    · have hd : decide (0 ≤ tj) = false := decide_eq_false (by omega)
                      go_wp2
                      go_quiet (fail)
                      go_wp2
                      go_roundw
                      case rel => exact ⟨j + 1, hjk, rfl, hk5.drewN _⟩
                      case measure => simp [intOf]; omega
                    · have hd : decide (0 ≤ tj) = true := decide_eq_true (by omega)
                      obtain ⟨nb2, noff2, ncap2, la2, lc2, hv2, hcl2, hlr2⟩ := hv.at hjl
                      simp only [Value.slice.injEq] at hv2
                      obtain ⟨hv3, hdrop, hv4⟩ := hv2
                      simp only [Option.some.injEq, Addr.mk.injEq] at hv3
                      obtain ⟨rfl, rfl, _⟩ := hv3
                      subst hv4
                      clear hdrop
                      obtain ⟨z0, z1, z2, z3⟩ := hcl2 _ (k4.trans hk5)
                      clear hcl2
                      have hhj := HH.out j (by have := HT.out; omega) (by rw [HTJ.out]; omega)
                      rw [HTJ.out] at hhj
                      obtain ⟨t1, t2⟩ := hhj
                      generalize hc : ls.getD j nd0 = c at z0 z1 z2 z3 hlr2 t2
                      have hiff : tj = (q : Int) ↔ c = d := by
                        constructor
                        · intro e
                          rw [← t2, e, Int.toNat_natCast, HQ2.out]
                        · intro e
                          have := HGOOD.out.once tj.toNat q (by omega) hql (by rw [t2, e, HQ2.out])
                          omega
                      have hbb : (!((tj == (q : Int)) == decide (c = d))) = false := by
                        by_cases e : c = d
                        · have := hiff.2 e
                          simp [this, e]
                        · have : ¬ tj = (q : Int) := fun x => e (hiff.1 x)
                          simp [this, e]
                      have HHJ := Shut.mk t2
                      clear t1 t2 hiff hc
                      have bx5 := bx4.kept hk5
                      have x0 := bx5.cell 0
                      have x1 := bx5.cell 1
                      have x2 := bx5.cell 2
                      have x3 := bx5.cell 3
                      simp only [List.getElem?_cons_succ, List.getElem?_cons_zero] at x0 x1 x2 x3
                      have hk45 := k4.trans hk5
                      have hrn : ∀ W, Kept w W → RdN W (.agg #[.int .i64 c.op, .int .i64 c.n, .string (strB c.s), .slice la2 c.l.length lc2]) c := fun W k => ⟨_, rfl, hlr2.kept k⟩
                      clear HH HT HD HCL HRC HLESS HQ HQ2 HGOOD HHJ HTJ HMANY HFEW HMN bx bx4 hdk oa o4 r1 r2 r3 har hF ho hb hlr hlr2 bx5
                      go_wp2
                      go_region_held3 (fun w' => w'.cell? ⟨rb, ro + j, none⟩ = some (.int .i64 tj) ∧ w'.cell? ⟨nb, noff + j * 4, none⟩ = some (.int .i64 c.op) ∧ w'.cell? ⟨nb, noff + j * 4 + 1, none⟩ = some (.int .i64 c.n) ∧ w'.cell? ⟨nb, noff + j * 4 + 2, none⟩ = some (.string (strB c.s)) ∧ w'.cell? ⟨nb, noff + j * 4 + 3, none⟩ = some (.slice la2 c.l.length lc2) ∧
                          w'.cell? ⟨qb, 0, none⟩ = some (.int .i64 d.op) ∧ w'.cell? ⟨qb, 1, none⟩ = some (.int .i64 d.n) ∧ w'.cell? ⟨qb, 2, none⟩ = some (.string (strB d.s)) ∧ w'.cell? ⟨qb, 3, none⟩ = some (.slice la d.l.length lc))
                        (first
                          | go_keep
                          | (go_split_ands
                             refine ⟨kept_cell k6 ?_, kept_cell k6 ?_, kept_cell k6 ?_, kept_cell k6 ?_, kept_cell k6 ?_, kept_cell k6 ?_, kept_cell k6 ?_, kept_cell k6 ?_, kept_cell k6 ?_⟩ <;> assumption))
                        ((go_at_call 19; refine (sameNode_any (hrn _ (by first | exact hk45 | exact hk45.drew | exact hk45.drewN _)) (hd1 _ (by first | exact hk45 | exact hk45.drew | exact hk45.drewN _))).mono ?_; rintro e w6 ⟨rfl, k6⟩))
                      go_wp2
                      go_roundw
                      case rel => exact ⟨j + 1, hjk, rfl, hk5.drew.trans k6⟩
                      case measure => simp [intOf]; omega
                  · obtain rfl : j = k := by omega
                    have bx5 := bx4.kept hk5
                    have x3 := bx5.cell 3
                    simp only [List.getElem?_cons_succ, List.getElem?_cons_zero] at x3
                    have hdl63 : ((d.l.length : Nat) : Int) ≤ 9223372036854775807 := by
                      obtain ⟨_, _, hv9, _, hm9, _⟩ := hlr.len
                      simp only [Value.slice.injEq] at hv9
                      unfold maxLen at hm9
                      omega
                    go_wp2
                    go_loop [106] (fun i => ∃ m : Nat, m ≤ d.l.length ∧ i = .int .i64 m) (fun i => d.l.length - (intOf i).toNat)
                    case atStart => exact ⟨0, Nat.zero_le _, rfl⟩
                    case round =>
                      obtain ⟨m, hm0, rfl⟩ := hrel
                      by_cases hml : m < d.l.length
                      · obtain ⟨lb, lo, lcc, hlv, _, _, hlb, hlc⟩ := hlr.addr (by omega)
                        simp only [Value.slice.injEq] at hlv
                        obtain ⟨rfl, hdrop, rfl⟩ := hlv
                        clear hdrop
                        have hcw := (k4.trans hk5).cell (p := ⟨lb, lo + m, none⟩) hlb |>.trans (hlc m hml)
                        have hless := HLESS.out _ (mem_getD hml)
                        clear hlc
                        generalize d.l.getD m 0 = y at hcw hless
                        have hyq : y < (q : Int) := hless.2
                        go_wp2
                        go_round
                        case rel => exact ⟨m + 1, hml, rfl⟩
                        case measure => simp [intOf]; omega
                      · obtain rfl : m = d.l.length := by omega
                        go_wp2
                        go_roundw
                        case rel =>
                          refine ⟨j + 1, F', es, hlt, rfl, ArG.kept r1 hk5, fun b h1 => (r3 b h1).elim (hF b) (fun c => Nat.le_trans (hk.trans ka).size c), Ownv.kept o4 hk5, fun b h1 => ⟨(hb b h1).1, fun h2 => (r3 b h2).elim (hb b h1).2 (fun c => by have := (Ownv.lt oa h1).1; omega)⟩, HH.out, HMN.out, k4.trans hk5⟩
                        case measure => simp [intOf]; omega
            · obtain rfl : k = ls.length := by omega
              have hlen := arg_len har
              have hd : decide ((many : Int) ≤ (es.length : Int)) = true := by have := HMN.out; exact decide_eq_true (by omega)
              go_wp2_with (go_at_call 15; refine hlen.mono ?_; rintro e w' ⟨rfl, rfl⟩)
              go_ret
              exact ⟨by show Ending.returned (.bool (decide (many ≤ es.length))) = _; rw [decide_eq_true HMN.out], hk⟩
end Go.Proofs.YtdhdgbihalfgeaaDoor
