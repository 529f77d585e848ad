/- The walk of TermBelow. -/
import Derived.Test.YtdhdgbihalfgeaaDoorTermN
import Derived.Test.YtdhdgbihalfgeaaDoorTermQ
set_option linter.unusedSimpArgs false
set_option linter.unusedVariables false
namespace Go.Proofs.YtdhdgbihalfgeaaDoor
open Go.RowKit Go.Maps

theorem mem_getN {ls : List Nd} {k : Nat} (h : k < ls.length) : ls.getD k nd0 ∈ ls := by
  rw [List.getD_eq_getElem?_getD, List.getElem?_eq_getElem h]; exact List.getElem_mem _

set_option maxHeartbeats 8000000 in
set_option maxRecDepth 1000000 in
theorem below_walk {w : World} {v u : Value} {ls ms : List Nd} (hv : RdNs w v ls) (hok : ∀ d ∈ ls, NdOk d) (hu : RdNs w u ms) (hok2 : ∀ d ∈ ms, NdOk d) (ht : Tabs w) :
    Calls Tryd.prog 7 #[v, u] w fun e w' => e = .returned (.bool true) ∧ Kept w w' := by
  obtain ⟨na, ncap, rfl, n1, n2, _⟩ := hv.len
  obtain ⟨ma, mcap, rfl, m1, m2, _⟩ := hu.len
  have n63 : ((ls.length : Nat) : Int) ≤ 9223372036854775807 := by unfold maxLen at n2; omega
  have m63 : ((ms.length : Nat) : Int) ≤ 9223372036854775807 := by unfold maxLen at m2; omega
  go_enter Tryd.func7, Tryd.ntmps7
  go_wp2_with fail
  refine (live_any ht).mono ?_
  rintro e w1 ⟨rfl, k1⟩
  go_wp2_with fail
  refine (few_any (hv.kept k1)).mono ?_
  rintro e w2 ⟨b, rfl, hfew, k2⟩
  have k02 := k1.trans k2
  cases b with
  | false =>
    go_wp2
    go_ret
    exact ⟨rfl, k02⟩
  | true =>
  have hf := (hfew rfl).1
  clear hfew
  go_wp2_with fail
  refine (few_any (hu.kept k02)).mono ?_
  rintro e w3 ⟨b, rfl, hfew2, k3⟩
  have k03 := k02.trans k3
  cases b with
  | false =>
    go_wp2
    go_ret
    exact ⟨rfl, k03⟩
  | true =>
  have hf2 := (hfew2 rfl).1
  clear hfew2
  go_wp2_with fail
  refine (new_any w3).mono ?_
  rintro e w4 ⟨Fa, pa, rfl, ha, k4, hFa, hpa⟩
  clear hpa
  have k04 := k03.trans k4
  go_wp2_with fail
  refine (new_any w4).mono ?_
  rintro e w5 ⟨Fb, pb, rfl, hb, k5, hFb, hpb⟩
  clear hpb
  have k05 := k04.trans k5
  have ha5 : Ar Fa w5 pa [] := ArG.kept ha k5
  have hdis : ∀ x, Fa x → ¬ Fb x := fun x h1 h2 => by have := ha.lt x h1; have := hFb x h2; omega
  have hFa' : ∀ x, Fa x → w.heap.size ≤ x := fun x h => Nat.le_trans k03.size (hFa x h)
  have hFb' : ∀ x, Fb x → w.heap.size ≤ x := fun x h => Nat.le_trans k04.size (hFb x h)
  go_wp2
  go_loopw [33] (fun i wr => ∃ (k : Nat) (F G : Nat → Prop) (ds : List Nd), k ≤ ls.length ∧ i = .int .i64 k ∧ Ar F wr pa ds ∧ Ar G wr pb ds ∧ (∀ x, F x → ¬ G x) ∧ (∀ x, F x → w.heap.size ≤ x) ∧ (∀ x, G x → w.heap.size ≤ x) ∧ ds.length ≤ k ∧ Kept w wr) (fun i _ => ls.length - (intOf i).toNat)
  case atStart => exact ⟨0, Fa, Fb, [], Nat.zero_le _, rfl, ha5, hb, hdis, hFa', hFb', Nat.le_refl _, k05⟩
  case round =>
    clear ha5 hb hdis hFa' hFb' ha hFa hFb
    obtain ⟨k, F, G, ds, hk0, rfl, har, hbr, hd, hF, hG, hdl, hk⟩ := hrel
    by_cases hlt : k < ls.length
    · obtain ⟨nb, noff, ncap', la, lc, hv', hcl, hlr⟩ := hv.at hlt
      simp only [Value.slice.injEq] at hv'
      obtain ⟨rfl, hdrop, rfl⟩ := hv'
      clear hdrop
      obtain ⟨y0, y1, y2, y3⟩ := hcl wr hk
      have hdk : NdOk (ls.getD k nd0) := hok _ (mem_getN hlt)
      clear hcl
      generalize ls.getD k nd0 = d at y0 y1 y2 y3 hlr hdk
      have hd1 : ∀ W, Kept w W → RdN W (.agg #[.int .i64 d.op, .int .i64 d.n, .string (strB d.s), .slice la d.l.length lc]) d := fun W k => ⟨_, rfl, hlr.kept k⟩
      have ka : Kept wr (wr.alloc (.cells #[.int .i64 d.op, .int .i64 d.n, .string (strB d.s), .slice la d.l.length lc] 31)) := (Kept.refl wr).alloc _
      have bx := Blk.new wr [.int .i64 d.op, .int .i64 d.n, .string (strB d.s), .slice la d.l.length lc] 31
      have hmk := make_any (ArG.kept har ka) (ht.kept (hk.trans ka)) (hd1 _ (hk.trans ka)) hdk
      have hbk := ArG.kept hbr ka
      have hlm := mk_le ds d
      have hmb : ∀ W, Kept w W → ∀ G' , Ar G' W pb ds → Calls Tryd.prog 13 #[pb, .agg #[.int .i64 d.op, .int .i64 d.n, .string (strB d.s), .slice la d.l.length lc]] W fun e w' => ∃ F' : Nat → Prop, e = .returned (.tuple #[.int .i64 (mk ds d).2.1, .int .i64 (mk ds d).2.2]) ∧ Ar F' w' pb (mk ds d).1 ∧ Turn G' W w' ∧ (∀ b, F' b → G' b ∨ W.heap.size ≤ b) :=
        fun W kk G' hh => make_any hh (ht.kept kk) (hd1 W kk) hdk
      generalize mk ds d = m at hmk hmb hlm
      obtain ⟨ds2, t2, e2⟩ := m
      simp only at hmk hmb hlm
      go_wp2_with fail
      refine hmk.mono ?_
      rintro e w6 ⟨F', rfl, r1, r2, r3⟩
      have k6 : Kept w w6 := Turn.keptOf (hk.trans ka) r2 hF
      have b6 : Ar G w6 pb ds := ArG.turn hbk r2 (fun x h1 h2 => hd x h2 h1)
      have bx6 : Blk w6 wr.heap.size 31 [.int .i64 d.op, .int .i64 d.n, .string (strB d.s), .slice la d.l.length lc] := bx.turn r2 (fun e => by have := har.lt _ e; omega)
      have x0 := bx6.cell 0
      have x1 := bx6.cell 1
      have x2 := bx6.cell 2
      have x3 := bx6.cell 3
      simp only [List.getElem?_cons_succ, List.getElem?_cons_zero] at x0 x1 x2 x3
      go_wp2_with fail
      refine (hmb w6 k6 G b6).mono ?_
      rintro e w7 ⟨G', rfl, s1, s2, s3⟩
      have hd' : ∀ x, F' x → ¬ G x := fun x h1 h2 => (r3 x h1).elim (fun h => hd x h h2) (fun h => by have := hbk.lt x h2; omega)
      go_wp2
      go_roundw
      case rel =>
        exact ⟨k + 1, F', G', ds2, hlt, rfl, ArG.turn r1 s2 hd', s1, fun x h1 h2 => (s3 x h2).elim (hd' x h1) (fun h => by have := r1.lt x h1; omega), fun x h => (r3 x h).elim (hF x) (fun c => Nat.le_trans (hk.trans ka).size c), fun x h => (s3 x h).elim (hG x) (fun c => Nat.le_trans k6.size c), by omega, Turn.keptOf k6 s2 hG⟩
      case measure => simp [intOf]; omega
    · obtain rfl : k = ls.length := by omega
      have HA := Shut.mk har
      go_wp2
      go_loopw [46] (fun i wr5 => ∃ (k2 : Nat) (G2 : Nat → Prop) (r : List Nd), k2 ≤ ms.length ∧ i = .int .i64 k2 ∧ Ar F wr5 pa ds ∧ Ar G2 wr5 pb (ds ++ r) ∧ (∀ x, F x → ¬ G2 x) ∧ (∀ x, G2 x → w.heap.size ≤ x) ∧ r.length ≤ k2 ∧ Kept w wr5) (fun i _ => ms.length - (intOf i).toNat)
      case atStart => exact ⟨0, G, [], Nat.zero_le _, rfl, har, by rw [List.append_nil]; exact hbr, hd, hG, Nat.le_refl _, hk⟩
      case round =>
        clear har hbr hd hG hlt HA hk
        obtain ⟨k, G, r, hk0, rfl, har, hbr, hd, hG, hrl, hk⟩ := hrel
        by_cases hlt : k < ms.length
        · obtain ⟨nb, noff, ncap', la, lc, hv', hcl, hlr⟩ := hu.at hlt
          simp only [Value.slice.injEq] at hv'
          obtain ⟨rfl, hdrop, rfl⟩ := hv'
          clear hdrop
          obtain ⟨y0, y1, y2, y3⟩ := hcl _ hk
          have hdk : NdOk (ms.getD k nd0) := hok2 _ (mem_getN hlt)
          clear hcl
          generalize ms.getD k nd0 = d at y0 y1 y2 y3 hlr hdk
          have hd1 : ∀ W, Kept w W → RdN W (.agg #[.int .i64 d.op, .int .i64 d.n, .string (strB d.s), .slice la d.l.length lc]) d := fun W k => ⟨_, rfl, hlr.kept k⟩
          have ka := (Kept.refl wr).alloc (.cells #[.int .i64 d.op, .int .i64 d.n, .string (strB d.s), .slice la d.l.length lc] 31)
          have hmk := make_any (ArG.kept hbr ka) (ht.kept (hk.trans ka)) (hd1 _ (hk.trans ka)) hdk
          have hak := ArG.kept har ka
          have hlm := mk_le (ds ++ r) d
          have hext := mk_ext (ds ++ r) d
          generalize mk (ds ++ r) d = m at hmk hlm hext
          obtain ⟨ds2, t2, e2⟩ := m
          simp only at hmk hlm hext
          obtain ⟨q, rfl⟩ := hext
          rw [List.append_assoc] at hmk hlm
          simp only [List.length_append] at hlm
          go_wp2_with fail
          refine hmk.mono ?_
          rintro e w6 ⟨G', rfl, r1, r2, r3⟩
          have k6 : Kept w w6 := Turn.keptOf (hk.trans ka) r2 hG
          go_wp2
          go_roundw
          case rel =>
            exact ⟨k + 1, G', r ++ q, hlt, rfl, ArG.turn hak r2 hd, r1, fun x h1 h2 => (r3 x h2).elim (hd x h1) (fun h => by have := hak.lt x h1; omega), fun x h => (r3 x h).elim (hG x) (fun c => Nat.le_trans (hk.trans ka).size c), by simp only [List.length_append]; omega, k6⟩
          case measure => simp [intOf]; omega
        · obtain rfl : k = ms.length := by omega
          obtain ⟨N, hN⟩ : ∃ N, N = (ds ++ r).length := ⟨_, rfl⟩
          have hla := arg_len har
          have hlb := arg_len hbr
          rw [← hN] at hlb
          have hNd : ds.length ≤ N := by rw [hN, List.length_append]; omega
          have dN : decide ((N : Int) < (ds.length : Int)) = false := decide_eq_false (by omega)
          have few := har.few
          have gd := har.good
          have gd2 := hbr.good
          have HA := Shut.mk har
          have HB := Shut.mk hbr
          have HG := Shut.mk gd
          have HG2 := Shut.mk gd2
          have l63 : ((ds.length : Nat) : Int) ≤ 9223372036854775807 := by omega
          have l62 : ds.length ≤ 4611686018427387904 := by omega
          clear har hbr gd gd2 hN hd hG hF few
          go_wp2_with fail
          refine hlb.mono ?_
          rintro e w' ⟨rfl, rfl⟩
          go_wp2_with fail
          refine hla.mono ?_
          rintro e w' ⟨rfl, rfl⟩
          go_wp2_with fail
          refine hla.mono ?_
          rintro e w' ⟨rfl, rfl⟩
          go_wp2
          obtain ⟨w9, rfl⟩ : ∃ w9, w9 = wr := ⟨_, rfl⟩
          go_loopw [61] (fun i wr6 => ∃ (t : Nat), t ≤ ds.length ∧ i = .int .i64 t ∧ Kept w9 wr6) (fun i _ => ds.length - (intOf i).toNat)
          case atStart => exact ⟨0, Nat.zero_le _, rfl, Kept.refl _⟩
          case round =>
            clear hla hlb
            obtain ⟨t, ht0, rfl, kr⟩ := hrel
            by_cases hlt2 : t < ds.length
            · have l61 : ((t : Nat) : Int) < (ds.length : Int) := by omega
              have l60 : ((t : Nat) : Int) + 1 ≤ 9223372036854775807 := by omega
              have hE1 : ndE ds (t : Int) = 0 := by unfold ndE; rw [if_pos (by omega)]
              have hN1 : ndAt ds (t : Int) = ds.getD t nd0 := by unfold ndAt; rw [if_pos (by omega), Int.toNat_natCast]
              have hE2 : ndE (ds ++ r) (t : Int) = 0 := by unfold ndE; rw [if_pos (by rw [List.length_append]; omega)]
              have hN2 : ndAt (ds ++ r) (t : Int) = ds.getD t nd0 := by
                unfold ndAt
                rw [if_pos (by rw [List.length_append]; omega), Int.toNat_natCast]
                simp only [List.getD_eq_getElem?_getD]
                rw [List.getElem?_append_left hlt2]
              have hna : ∀ W, Kept w9 W → Calls Tryd.prog 17 #[pa, .int .i64 t] W fun e w' => ∃ v, e = .returned (.tuple #[v, .int .i64 0]) ∧ RdN w' v (ds.getD t nd0) ∧ Kept W w' := fun W k => by
                have := node_any (ArG.kept HA.out k) (t : Int)
                rwa [hE1, hN1] at this
              have hnb : ∀ W, Kept w9 W → Calls Tryd.prog 17 #[pb, .int .i64 t] W fun e w' => ∃ v, e = .returned (.tuple #[v, .int .i64 0]) ∧ RdN w' v (ds.getD t nd0) ∧ Kept W w' := fun W k => by
                have := node_any (ArG.kept HB.out k) (t : Int)
                rwa [hE2, hN2] at this
              have t64 : I64 (t : Int) := by unfold I64; omega
              have hsa : ∀ W, Kept w9 W → Calls Tryd.prog 22 #[pa, .int .i64 t] W fun e w' => e = .returned (.int .i64 (sizeT ds t)) ∧ Kept W w' := fun W k => size_fn (ArG.kept HA.out k) t64
              have hsb : ∀ W, Kept w9 W → Calls Tryd.prog 22 #[pb, .int .i64 t] W fun e w' => e = .returned (.int .i64 (sizeT ds t)) ∧ Kept W w' := fun W k => by
                have := size_fn (ArG.kept HB.out k) t64
                rwa [sizeT_more HG.out r HG2.out (by omega)] at this
              have s1 := sizeT_pos HG.out (t := (t : Int)) (by omega) (by omega)
              have s2 := sizeT_le HG.out (t := (t : Int)) (by omega)
              have hparts : ∀ x ∈ (ds.getD t nd0).l, 0 ≤ x ∧ x < (t : Int) ∧ sizeT ds x < sizeT ds t := fun x hx =>
                ⟨(HG.out.lesser hlt2 x hx).1, (HG.out.lesser hlt2 x hx).2, sizeT_part HG.out (by omega) (by omega) (by rw [Int.toNat_natCast]; exact hx)⟩
              generalize sizeT ds (t : Int) = S at hsa hsb s1 s2 hparts
              generalize ds.getD t nd0 = d at hna hnb hparts
              have HP := Shut.mk hparts
              have d1 : decide ((t : Int) + 1 < (S : Int)) = false := decide_eq_false (by omega)
              have d2 : decide ((S : Int) < 1) = false := decide_eq_false (by omega)
              have s63 : (S : Int) ≤ 9223372036854775807 := by omega
              clear hE1 hN1 hE2 hN2 hparts t64
              go_wp2_with fail
              refine (hna _ kr).mono ?_
              rintro e w6 ⟨v, rfl, ⟨la, rfl, rd1⟩, q6⟩
              have kr6 := kr.trans q6
              obtain ⟨aa, ac, rfl, hc1, hc2, _⟩ := rd1.len
              have dl63 : ((d.l.length : Nat) : Int) ≤ 9223372036854775807 := by unfold maxLen at hc2; omega
              clear hc1 hc2
              have bx := Blk.new w6 [.int .i64 d.op, .int .i64 d.n, .string (strB d.s), .slice aa d.l.length ac] 31
              have ka := (Kept.refl w6).alloc (.cells #[.int .i64 d.op, .int .i64 d.n, .string (strB d.s), .slice aa d.l.length ac] 31)
              have rd1' := rd1.kept ka
              have kr7 := kr6.trans ka
              go_wp2_with fail
              refine (hnb _ kr7).mono ?_
              rintro e w7 ⟨v, rfl, ⟨lb, rfl, rd2⟩, q7⟩
              obtain ⟨ba, bc, rfl, _, _, _⟩ := rd2.len
              have kr8 := kr7.trans q7
              have bx7 := bx.kept q7
              have by7 := Blk.new w7 [.int .i64 d.op, .int .i64 d.n, .string (strB d.s), .slice ba d.l.length bc] 31
              have kb := (Kept.refl w7).alloc (.cells #[.int .i64 d.op, .int .i64 d.n, .string (strB d.s), .slice ba d.l.length bc] 31)
              have bx8 := bx7.kept kb
              have kr9 := kr8.trans kb
              have rn1 : RdN (w7.alloc (.cells #[.int .i64 d.op, .int .i64 d.n, .string (strB d.s), .slice ba d.l.length bc] 31)) (.agg #[.int .i64 d.op, .int .i64 d.n, .string (strB d.s), .slice aa d.l.length ac]) d := ⟨_, rfl, rd1'.kept (q7.trans kb)⟩
              have rn2 : RdN (w7.alloc (.cells #[.int .i64 d.op, .int .i64 d.n, .string (strB d.s), .slice ba d.l.length bc] 31)) (.agg #[.int .i64 d.op, .int .i64 d.n, .string (strB d.s), .slice ba d.l.length bc]) d := ⟨_, rfl, rd2.kept kb⟩
              have x0 := bx8.cell 0
              have x1 := bx8.cell 1
              have x2 := bx8.cell 2
              have x3 := bx8.cell 3
              have y0 := by7.cell 0
              have y1 := by7.cell 1
              have y2 := by7.cell 2
              have y3 := by7.cell 3
              simp only [List.getElem?_cons_succ, List.getElem?_cons_zero] at x0 x1 x2 x3 y0 y1 y2 y3
              have hsn := sameNode_any rn1 rn2
              rw [show decide (d = d) = true from decide_eq_true rfl] at hsn
              go_wp2_with fail
              refine hsn.mono ?_
              rintro e w10 ⟨rfl, q10⟩
              have kr10 := kr9.trans q10
              go_wp2_with fail
              refine (hsa _ kr10).mono ?_
              rintro e w11 ⟨rfl, q11⟩
              have kr11 := kr10.trans q11
              go_wp2_with fail
              refine (hsb _ kr11).mono ?_
              rintro e w12 ⟨rfl, q12⟩
              have kr12 := kr11.trans q12
              go_wp2_with fail
              refine (hsa _ kr12).mono ?_
              rintro e w13 ⟨rfl, q13⟩
              have kr13 := kr12.trans q13
              go_wp2_with fail
              refine (hsa _ kr13).mono ?_
              rintro e w14 ⟨rfl, q14⟩
              have kr14 := kr13.trans q14
              have bx14 := bx8.kept (((q10.trans q11).trans (q12.trans q13)).trans q14)
              have z3 := bx14.cell 3
              simp only [List.getElem?_cons_succ, List.getElem?_cons_zero] at z3
              have rd14 := rd1'.kept ((q7.trans kb).trans (((q10.trans q11).trans (q12.trans q13)).trans q14))
              have HRD := Shut.mk rd14
              clear rd14 bx14 bx8 bx7 by7 bx rd1 rd1' rd2 rn1 rn2 hsn hna hnb hsb x0 x1 x2 x3 y0 y1 y2 y3
              go_wp2
              go_loopw [114] (fun i wr7 => ∃ (m : Nat), m ≤ d.l.length ∧ i = .int .i64 m ∧ Kept w14 wr7) (fun i _ => d.l.length - (intOf i).toNat)
              case atStart => exact ⟨0, Nat.zero_le _, rfl, Kept.refl _⟩
              case round =>
                obtain ⟨m, hm0, rfl, ks⟩ := hrel
                by_cases hml : m < d.l.length
                · obtain ⟨eb, eo, ec, hlv, _, _, hlb, hlc⟩ := HRD.out.addr (by omega)
                  simp only [Value.slice.injEq] at hlv
                  obtain ⟨rfl, hdrop, rfl⟩ := hlv
                  clear hdrop
                  have hcw := ks.cell (p := ⟨eb, eo + m, none⟩) hlb |>.trans (hlc m hml)
                  have hless := HP.out _ (mem_getD hml)
                  clear hlc
                  generalize d.l.getD m 0 = y at hcw hless
                  obtain ⟨y0, y1, y2⟩ := hless
                  have dy : decide ((t : Int) ≤ y) = false := decide_eq_false (by omega)
                  have y64 : I64 y := by unfold I64; omega
                  have hsy := size_fn (ArG.kept HA.out (kr14.trans ks)) y64
                  have hst := fun W k => hsa W (kr14.trans k)
                  clear hsa y64
                  generalize sizeT ds y = Y at hsy y2
                  have dS : decide (S ≤ Y) = false := decide_eq_false (by omega)
                  clear y0 y1 y2
                  go_wp2_with fail
                  refine hsy.mono ?_
                  rintro e w15 ⟨rfl, q15⟩
                  go_wp2_with fail
                  refine (hst _ (ks.trans q15)).mono ?_
                  rintro e w16 ⟨rfl, q16⟩
                  clear d1 d2 dN z3 hst hsy hcw HP
                  go_wp2
                  go_roundw
                  case rel => exact ⟨m + 1, hml, rfl, (ks.trans q15).trans q16⟩
                  case measure => simp [intOf]; omega
                · obtain rfl : m = d.l.length := by omega
                  go_wp2
                  go_roundw
                  case rel => exact ⟨t + 1, hlt2, rfl, kr14.trans ks⟩
                  case measure => simp [intOf]; omega
            · obtain rfl : t = ds.length := by omega
              go_wp2
              go_ret
              exact ⟨rfl, hk.trans kr⟩
end Go.Proofs.YtdhdgbihalfgeaaDoor
