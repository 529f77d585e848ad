/- The walk of TermParts. -/
import Derived.Test.YtdhdgbihalfgeaaDoorTermN
import Derived.Test.YtdhdgbihalfgeaaDoorRefZ
set_option linter.unusedSimpArgs false
set_option linter.unusedVariables false
namespace Go.Proofs.YtdhdgbihalfgeaaDoor
open Go.RowKit Go.Maps

set_option maxHeartbeats 8000000 in
set_option maxRecDepth 1000000 in
theorem parts_walk {w : World} {v : Value} {ls : List Nd} (hv : RdNs w v ls) (hok : ∀ d ∈ ls, NdOk d) {t : Int} (ht64 : I64 t) (ht : Tabs w) :
    Calls Tryd.prog 4 #[v, .int .i64 t] w fun e w' => e = .returned (.bool true) ∧ Kept w w' := by
  obtain ⟨na, ncap, rfl, n1, n2, _⟩ := hv.len
  have n63 : ((ls.length : Nat) : Int) ≤ 9223372036854775807 := by unfold maxLen at n2; omega
  go_enter Tryd.func4, Tryd.ntmps4
  go_wp2_with fail
  refine (live_any ht).mono ?_
  rintro e w1 ⟨rfl, k1⟩
  go_wp2_with fail
  refine (few_any (hv.kept k1)).mono ?_
  rintro e w2 ⟨b, rfl, hfew, k2⟩
  have k02 := k1.trans k2
  cases b with
  | false =>
    go_wp2
    go_ret
    exact ⟨rfl, k02⟩
  | true =>
  have hf := (hfew rfl).1
  clear hfew
  go_wp2_with fail
  refine (new_any w2).mono ?_
  rintro e w4 ⟨Fa, pa, rfl, ha, k4, hFa, hpa⟩
  clear hpa
  have k04 := k02.trans k4
  go_wp2_with fail
  refine (newR_any w4).mono ?_
  rintro e w5 ⟨Fb, pb, rfl, hb, k5, hFb, hpb⟩
  clear hpb
  have k05 := k04.trans k5
  have ha5 : Ar Fa w5 pa [] := ArG.kept ha k5
  have hdis : ∀ x, Fa x → ¬ Fb x := fun x h1 h2 => by have := ha.lt x h1; have := hFb x h2; omega
  have hFa' : ∀ x, Fa x → w.heap.size ≤ x := fun x h => Nat.le_trans k02.size (hFa x h)
  have hFb' : ∀ x, Fb x → w.heap.size ≤ x := fun x h => Nat.le_trans k04.size (hFb x h)
  go_wp2
  go_loopw [25] (fun i wr => ∃ (k : Nat) (F G : Nat → Prop) (ds : List Nd), k ≤ ls.length ∧ i = .int .i64 k ∧ Ar F wr pa ds ∧ ArR G wr pb ds ∧ (∀ x, F x → ¬ G x) ∧ (∀ x, F x → w.heap.size ≤ x) ∧ (∀ x, G x → w.heap.size ≤ x) ∧ ds.length ≤ k ∧ Kept w wr) (fun i _ => ls.length - (intOf i).toNat)
  case atStart => exact ⟨0, Fa, Fb, [], Nat.zero_le _, rfl, ha5, hb, hdis, hFa', hFb', Nat.le_refl _, k05⟩
  case round =>
    clear ha5 hb hdis hFa' hFb' ha hFa hFb
    obtain ⟨k, F, G, ds, hk0, rfl, har, hbr, hd, hF, hG, hdl, hk⟩ := hrel
    by_cases hlt : k < ls.length
    · obtain ⟨nb, noff, ncap', la, lc, hv', hcl, hlr⟩ := hv.at hlt
      simp only [Value.slice.injEq] at hv'
      obtain ⟨rfl, hdrop, rfl⟩ := hv'
      clear hdrop
      obtain ⟨y0, y1, y2, y3⟩ := hcl wr hk
      have hdk : NdOk (ls.getD k nd0) := hok _ (by rw [List.getD_eq_getElem?_getD, List.getElem?_eq_getElem hlt]; exact List.getElem_mem _)
      clear hcl
      generalize ls.getD k nd0 = d at y0 y1 y2 y3 hlr hdk
      have hd1 : ∀ W, Kept w W → RdN W (.agg #[.int .i64 d.op, .int .i64 d.n, .string (strB d.s), .slice la d.l.length lc]) d := fun W k => ⟨_, rfl, hlr.kept k⟩
      have ka : Kept wr (wr.alloc (.cells #[.int .i64 d.op, .int .i64 d.n, .string (strB d.s), .slice la d.l.length lc] 31)) := (Kept.refl wr).alloc _
      have bx := Blk.new wr [.int .i64 d.op, .int .i64 d.n, .string (strB d.s), .slice la d.l.length lc] 31
      have hmk := make_any (ArG.kept har ka) (ht.kept (hk.trans ka)) (hd1 _ (hk.trans ka)) hdk
      have hbk := ArG.kept hbr ka
      have hlm := mk_le ds d
      have hmb : ∀ W, Kept w W → ∀ G' , ArR G' W pb ds → Calls Tryd.prog 14 #[pb, .agg #[.int .i64 d.op, .int .i64 d.n, .string (strB d.s), .slice la d.l.length lc]] W fun e w' => ∃ F' : Nat → Prop, e = .returned (.tuple #[.int .i64 (mk ds d).2.1, .int .i64 (mk ds d).2.2]) ∧ ArR F' w' pb (mk ds d).1 ∧ Turn G' W w' ∧ (∀ b, F' b → G' b ∨ W.heap.size ≤ b) :=
        fun W kk G' hh => makeR_any hh (hd1 W kk) hdk
      generalize mk ds d = m at hmk hmb hlm
      obtain ⟨ds2, t2, e2⟩ := m
      simp only at hmk hmb hlm
      go_wp2_with fail
      refine hmk.mono ?_
      rintro e w6 ⟨F', rfl, r1, r2, r3⟩
      have k6 : Kept w w6 := Turn.keptOf (hk.trans ka) r2 hF
      have b6 : ArR G w6 pb ds := ArG.turn hbk r2 (fun x h1 h2 => hd x h2 h1)
      have bx6 : Blk w6 wr.heap.size 31 [.int .i64 d.op, .int .i64 d.n, .string (strB d.s), .slice la d.l.length lc] := bx.turn r2 (fun e => by have := har.lt _ e; omega)
      have x0 := bx6.cell 0
      have x1 := bx6.cell 1
      have x2 := bx6.cell 2
      have x3 := bx6.cell 3
      simp only [List.getElem?_cons_succ, List.getElem?_cons_zero] at x0 x1 x2 x3
      go_wp2_with fail
      refine (hmb w6 k6 G b6).mono ?_
      rintro e w7 ⟨G', rfl, s1, s2, s3⟩
      have hd' : ∀ x, F' x → ¬ G x := fun x h1 h2 => (r3 x h1).elim (fun h => hd x h h2) (fun h => by have := hbk.lt x h2; omega)
      go_wp2
      go_roundw
      case rel =>
        exact ⟨k + 1, F', G', ds2, hlt, rfl, ArG.turn r1 s2 hd', s1, fun x h1 h2 => (s3 x h2).elim (hd' x h1) (fun h => by have := r1.lt x h1; omega), fun x h => (r3 x h).elim (hF x) (fun c => Nat.le_trans (hk.trans ka).size c), fun x h => (s3 x h).elim (hG x) (fun c => Nat.le_trans k6.size c), by omega, Turn.keptOf k6 s2 hG⟩
      case measure => simp [intOf]; omega
    · obtain rfl : k = ls.length := by omega
      have hlb := lenR hbr
      have hdl3 : ds.length ≤ 300 := by omega
      have hdl4 : ((ds.length : Nat) : Int) ≤ 300 := by omega
      clear hlt hdl
      go_wp2_with (go_at_call 16; refine hlb.mono ?_; rintro e w' ⟨rfl, rfl⟩)
      have hrd : RdI (wr.alloc (.cells #[.int .i64 t, .int .i64 ((ds.length : Int) - 1), .int .i64 ((ds.length : Int) / 2)] 3)) (.slice (some ⟨wr.heap.size, 0, none⟩) 3 3) [t, (ds.length : Int) - 1, (ds.length : Int) / 2] :=
        (Ownv.lit (B := wr.heap.size) 3 (w := wr) [.int .i64 t, .int .i64 ((ds.length : Int) - 1), .int .i64 ((ds.length : Int) / 2)] (Nat.le_refl _) (by unfold maxLen; simp)).rdv
      have kq : Kept wr (wr.alloc (.cells #[.int .i64 t, .int .i64 ((ds.length : Int) - 1), .int .i64 ((ds.length : Int) / 2)] 3)) := (Kept.refl wr).alloc _
      generalize wr.alloc (.cells #[.int .i64 t, .int .i64 ((ds.length : Int) - 1), .int .i64 ((ds.length : Int) / 2)] 3) = wq at hrd kq ⊢
      have hx64 : ∀ j, j < 3 → I64 ([t, (ds.length : Int) - 1, (ds.length : Int) / 2].getD j 0) := fun j hj => by
        have : j = 0 ∨ j = 1 ∨ j = 2 := by omega
        rcases this with rfl | rfl | rfl
        · exact ht64
        · exact i64_lit (by simp; omega)
        · exact i64_lit (by simp; omega)
      have harq := ArG.kept har kq
      have hbrq := ArG.kept hbr kq
      have hkq := hk.trans kq
      clear har hbr hk kq hlb hd hF hG
      generalize hxs : [t, (ds.length : Int) - 1, (ds.length : Int) / 2] = xs at hrd hx64
      have hxl : xs.length = 3 := by rw [← hxs]; rfl
      have HXL := Shut.mk hxl
      clear hxs hxl
      obtain ⟨wv, rfl⟩ : ∃ wv : World, wv = wr := ⟨_, rfl⟩
      go_loopw [45] (fun i wx => ∃ (j : Nat), j ≤ 3 ∧ i = .int .i64 j ∧ Kept wq wx) (fun i _ => 3 - (intOf i).toNat)
      case atStart => exact ⟨0, by omega, rfl, Kept.refl _⟩
      case round =>
        obtain ⟨j, hj0, rfl, kx⟩ := hrel
        by_cases hjl : j < 3
        · obtain ⟨rb, ro, rc, hrv, _, _, hrb, hcell⟩ := hrd.addr (by rw [HXL.out]; omega)
          simp only [Value.slice.injEq, Option.some.injEq, Addr.mk.injEq] at hrv
          obtain ⟨⟨rfl, rfl, _⟩, hdrop, rfl⟩ := hrv
          clear hdrop
          have hc := kx.cell (p := ⟨wv.heap.size, 0 + j, none⟩) hrb |>.trans (hcell j (by rw [HXL.out]; exact hjl))
          rw [Nat.zero_add] at hc
          have hx := hx64 j hjl
          clear hcell
          generalize xs.getD j 0 = x at hc hx
          have hA := ArG.kept harq kx
          have hB := ArG.kept hbrq kx
          have hwx := hkq.trans kx
          have h1 := show_any hA (ht.kept hwx) x
          have h2 : ∀ W, Kept wr W → Calls Tryd.prog 21 #[pb, .int .i64 x] W fun e w' => e = .returned (.tuple #[.string (strB (shT ds x)), .int .i64 (shE ds x)]) ∧ Kept W w' := fun W k => showTopR (ArG.kept hB k) x
          have h3 : ∀ W, Kept wr W → Calls Tryd.prog 22 #[pa, .int .i64 x] W fun e w' => e = .returned (.int .i64 (sizeT ds x)) ∧ Kept W w' := fun W k => size_fn (ArG.kept hA k) hx
          have h4 : ∀ W, Kept wr W → Calls Tryd.prog 23 #[pb, .int .i64 x] W fun e w' => e = .returned (.int .i64 (sizeT ds x)) ∧ Kept W w' := fun W k => sizeR (ArG.kept hB k) hx
          have h5 : ∀ W, Kept wr W → _ := fun W k => atoms_any (ArG.kept hA k) hx
          have h6 : ∀ W, Kept wr W → _ := fun W k => atomsR (ArG.kept hB k) hx
          generalize strB (shT ds x) = S at h1 h2
          generalize shE ds x = ee at h1 h2
          generalize sizeT ds x = sz at h3 h4
          go_wp2_with fail
          refine h1.mono ?_
          rintro e w11 ⟨rfl, k11⟩
          go_wp2_with fail
          refine (h2 w11 k11).mono ?_
          rintro e w12 ⟨rfl, k12⟩
          go_wp2_with fail
          refine (h3 w12 (k11.trans k12)).mono ?_
          rintro e w13 ⟨rfl, k13⟩
          have k13' := (k11.trans k12).trans k13
          go_wp2_with fail
          refine (h4 w13 k13').mono ?_
          rintro e w14 ⟨rfl, k14⟩
          have k14' := k13'.trans k14
          go_wp2_with fail
          refine (h5 w14 k14').mono ?_
          rintro e w15 ⟨v1, l1, rfl, r1, a1, k15, _⟩
          have k15' := k14'.trans k15
          go_wp2_with fail
          refine (h6 w15 k15').mono ?_
          rintro e w16 ⟨v2, l2, rfl, r2, a2, k16⟩
          have k16' := k15'.trans k16
          have heq := a1.unique a2
          have hsame := (sameInts_any (r1.kept k16) r2).mono (fun e w' ⟨a, b⟩ => (⟨by rw [a, decide_eq_true heq], b⟩ : e = Ending.returned (Value.bool true) ∧ Kept w16 w'))
          clear heq
          go_wp2_with fail
          refine hsame.mono ?_
          rintro e w17 ⟨rfl, k17⟩
          go_wp2
          go_roundw
          case rel => exact ⟨j + 1, hjl, rfl, kx.trans (k16'.trans k17)⟩
          case measure => simp [intOf]; omega
        · obtain rfl : j = 3 := by omega
          go_wp2
          go_ret
          exact ⟨rfl, hkq.trans kx⟩
end Go.Proofs.YtdhdgbihalfgeaaDoor
