/- The walk of TermMakes. -/
import Derived.Test.YtdhdgbihalfgeaaDoorTermN
import Derived.Test.YtdhdgbihalfgeaaDoorRefP
import Derived.Laws.OwnMore
set_option linter.unusedSimpArgs false
set_option linter.unusedVariables false
namespace Go.Proofs.YtdhdgbihalfgeaaDoor
open Go.RowKit Go.Maps

theorem OwnI.set {B : Nat} {w : World} {g c : Nat} {zs : List Int} (h : OwnI B w (.slice (some ⟨g, 0, none⟩) zs.length c) zs) (j : Nat) (z : Int) :
    OwnI B (w.setCell ⟨g, j, none⟩ (.int .i64 z)) (.slice (some ⟨g, 0, none⟩) (zs.set j z).length c) (zs.set j z) := by
  have := (World.ownsRow.stored h j (.int .i64 z)).1
  unfold OwnI Ownv
  rw [List.length_set, List.map_set]
  exact this
theorem ndAt_eq {ds : List Nd} {i : Nat} (h : i < ds.length) : ndAt ds (i : Int) = ds.getD i nd0 ∧ ndE ds (i : Int) = 0 := by
  unfold ndAt ndE
  rw [if_pos (by omega), if_pos (by omega)]
  simp

set_option maxHeartbeats 8000000 in
set_option maxRecDepth 1000000 in
theorem makes_walk {w : World} {v : Value} {ls : List Nd} (hv : RdNs w v ls) (hok : ∀ d ∈ ls, NdOk d) {t : Int} (ht64 : I64 t) (ht : Tabs w) :
    Calls Tryd.prog 3 #[v, .int .i64 t] w fun e w' => e = .returned (.bool true) ∧ Kept w w' := by
  obtain ⟨na, ncap, rfl, n1, n2, _⟩ := hv.len
  have n63 : ((ls.length : Nat) : Int) ≤ 9223372036854775807 := by unfold maxLen at n2; omega
  go_enter Tryd.func3, Tryd.ntmps3
  go_wp2_with fail
  refine (live_any ht).mono ?_
  rintro e w1 ⟨rfl, k1⟩
  go_wp2_with fail
  refine (few_any (hv.kept k1)).mono ?_
  rintro e w2 ⟨b, rfl, hfew, k2⟩
  have k02 := k1.trans k2
  cases b with
  | false =>
    go_wp2
    go_ret
    exact ⟨rfl, k02⟩
  | true =>
  have hf := (hfew rfl).1
  have hff := Shut.mk (hfew rfl).2
  clear hfew
  go_wp2_with fail
  refine (new_any w2).mono ?_
  rintro e w4 ⟨Fa, pa, rfl, ha, k4, hFa, hpa⟩
  clear hpa
  have k04 := k02.trans k4
  go_wp2_with fail
  refine (newR_any w4).mono ?_
  rintro e w5 ⟨Fb, pb, rfl, hb, k5, hFb, hpb⟩
  clear hpb
  have k05 := k04.trans k5
  have ha5 : Ar Fa w5 pa [] := ArG.kept ha k5
  have hdis : ∀ x, Fa x → ¬ Fb x := fun x h1 h2 => by have := ha.lt x h1; have := hFb x h2; omega
  have hFa' : ∀ x, Fa x → w.heap.size ≤ x := fun x h => Nat.le_trans k02.size (hFa x h)
  have hFb' : ∀ x, Fb x → w.heap.size ≤ x := fun x h => Nat.le_trans k04.size (hFb x h)
  go_wp2
  go_loopw [34] (fun i wr => ∃ (k : Nat) (F G : Nat → Prop) (ds : List Nd), k ≤ ls.length ∧ i = .int .i64 k ∧ Ar F wr pa ds ∧ ArR G wr pb ds ∧ (∀ x, F x → ¬ G x) ∧ (∀ x, F x → w.heap.size ≤ x) ∧ (∀ x, G x → w.heap.size ≤ x) ∧ ds.length ≤ k ∧ Kept w wr) (fun i _ => ls.length - (intOf i).toNat)
  case atStart => exact ⟨0, Fa, Fb, [], Nat.zero_le _, rfl, ha5, hb, hdis, hFa', hFb', Nat.le_refl _, k05⟩
  case round =>
    clear ha5 hb hdis hFa' hFb' ha hFa hFb
    obtain ⟨k, F, G, ds, hk0, rfl, har, hbr, hd, hF, hG, hdl, hk⟩ := hrel
    by_cases hlt : k < ls.length
    · obtain ⟨nb, noff, ncap', la, lc, hv', hcl, hlr⟩ := hv.at hlt
      simp only [Value.slice.injEq] at hv'
      obtain ⟨rfl, hdrop, rfl⟩ := hv'
      clear hdrop
      obtain ⟨y0, y1, y2, y3⟩ := hcl wr hk
      have hdk : NdOk (ls.getD k nd0) := hok _ (by rw [List.getD_eq_getElem?_getD, List.getElem?_eq_getElem hlt]; exact List.getElem_mem _)
      have hl80 := (hff.out k hlt).2
      clear hcl
      generalize ls.getD k nd0 = d at y0 y1 y2 y3 hlr hdk hl80
      have hd1 : ∀ W, Kept w W → RdN W (.agg #[.int .i64 d.op, .int .i64 d.n, .string (strB d.s), .slice la d.l.length lc]) d := fun W k => ⟨_, rfl, hlr.kept k⟩
      have ka : Kept wr (wr.alloc (.cells #[.int .i64 d.op, .int .i64 d.n, .string (strB d.s), .slice la d.l.length lc] 31)) := (Kept.refl wr).alloc _
      have ka2 : Kept wr ((wr.alloc (.cells #[.int .i64 d.op, .int .i64 d.n, .string (strB d.s), .slice la d.l.length lc] 31)).alloc (.cells #[.int .i64 d.op, .int .i64 d.n, .string (strB d.s), .slice la d.l.length lc] 31)) := ka.alloc _
      have bx : Blk ((wr.alloc (.cells #[.int .i64 d.op, .int .i64 d.n, .string (strB d.s), .slice la d.l.length lc] 31)).alloc (.cells #[.int .i64 d.op, .int .i64 d.n, .string (strB d.s), .slice la d.l.length lc] 31)) wr.heap.size 31 [.int .i64 d.op, .int .i64 d.n, .string (strB d.s), .slice la d.l.length lc] := (Blk.new wr [.int .i64 d.op, .int .i64 d.n, .string (strB d.s), .slice la d.l.length lc] 31).kept ((Kept.refl _).alloc _)
      have by' := Blk.new (wr.alloc (.cells #[.int .i64 d.op, .int .i64 d.n, .string (strB d.s), .slice la d.l.length lc] 31)) [.int .i64 d.op, .int .i64 d.n, .string (strB d.s), .slice la d.l.length lc] 31
      rw [alloc_size] at by'
      have hsz2 : ((wr.alloc (.cells #[.int .i64 d.op, .int .i64 d.n, .string (strB d.s), .slice la d.l.length lc] 31)).alloc (.cells #[.int .i64 d.op, .int .i64 d.n, .string (strB d.s), .slice la d.l.length lc] 31)).heap.size = wr.heap.size + 2 := by rw [alloc_size, alloc_size]
      have hrl : RdI _ _ d.l := hlr.kept (hk.trans ka2)
      have HSZ := Shut.mk hsz2
      clear hsz2
      have hlm := mk_le ds d
      have hmk : ∀ W, Kept w W → ∀ (F : Nat → Prop) u, Ar F W pa ds → RdN W u d → Calls Tryd.prog 13 #[pa, u] W fun e w' => ∃ F' : Nat → Prop, e = .returned (.tuple #[.int .i64 (mk ds d).2.1, .int .i64 (mk ds d).2.2]) ∧ Ar F' w' pa (mk ds d).1 ∧ Turn F W w' ∧ (∀ b, F' b → F b ∨ W.heap.size ≤ b) :=
        fun W kk F u hh hu => make_any hh (ht.kept kk) hu hdk
      have hmb : ∀ W, Kept w W → ∀ G', ArR G' W pb ds → Calls Tryd.prog 14 #[pb, .agg #[.int .i64 d.op, .int .i64 d.n, .string (strB d.s), .slice la d.l.length lc]] W fun e w' => ∃ F' : Nat → Prop, e = .returned (.tuple #[.int .i64 (mk ds d).2.1, .int .i64 (mk ds d).2.2]) ∧ ArR F' w' pb (mk ds d).1 ∧ Turn G' W w' ∧ (∀ b, F' b → G' b ∨ W.heap.size ≤ b) :=
        fun W kk G' hh => makeR_any hh (hd1 W kk) hdk
      generalize mk ds d = m at hmk hmb hlm
      obtain ⟨ds2, t2, e2⟩ := m
      simp only at hmk hmb hlm
      go_wp2_with (at_builtin; refine go_appi wr.heap.size _ [] rfl (OwnI.nil _ _) _ d.l rfl hrl (by simp; omega) ka2.size ?_; intro v6 w6 o6 t6 l6; obtain ⟨a6, cap6, rfl, _, _, _⟩ := (OwnI.rd o6).len; have k6 := Turn.keptOf ka2 t6 (fun x hx => by simp only [Blks] at hx; cases hx); have b6 := by'.turn t6 (fun hx => by simp only [Blks] at hx; cases hx); have x6 := bx.turn t6 (fun hx => by simp only [Blks] at hx; cases hx); have z6 := b6.frozen 3; have z60 := b6.cell 0; have z61 := b6.cell 1; have z62 := b6.cell 2; have z63 := b6.cell 3; simp only [List.getElem?_cons_succ, List.getElem?_cons_zero] at z60 z61 z62 z63)
      have b7 : Blk (w6.setCell ⟨wr.heap.size + 1, 3, none⟩ (.slice a6 d.l.length cap6)) (wr.heap.size + 1) 31 [.int .i64 d.op, .int .i64 d.n, .string (strB d.s), .slice a6 d.l.length cap6] := b6.set 3 _
      have x7 := x6.turn (turn_setCell w6 ⟨wr.heap.size + 1, 3, none⟩ (.slice a6 d.l.length cap6)) (fun e => by simp only at e; omega)
      have o7 : OwnI wr.heap.size (w6.setCell ⟨wr.heap.size + 1, 3, none⟩ (.slice a6 d.l.length cap6)) (.slice a6 d.l.length cap6) d.l := Ownv.setCell o6 (Ownv.notBlk o6 b6 (by decide)) _
      have k7 : Kept wr (w6.setCell ⟨wr.heap.size + 1, 3, none⟩ (.slice a6 d.l.length cap6)) := k6.setCell (Nat.le_succ _) _
      generalize w6.setCell ⟨wr.heap.size + 1, 3, none⟩ (.slice a6 d.l.length cap6) = w7 at b7 x7 o7 k7 ⊢
      clear b6 x6 z6 z60 z61 z62 z63 o6 t6 l6 k6
      refine (hmk w7 (hk.trans k7) F _ (ArG.kept har k7) ⟨_, rfl, OwnI.rd o7⟩).mono ?_
      rintro e w8 ⟨F', rfl, r1, r2, r3⟩
      have hnF : ∀ b, F b → b < wr.heap.size := har.lt
      have x8 := x7.turn r2 (fun e => by have := hnF _ e; omega)
      have b8 := b7.turn r2 (fun e => by have := hnF _ e; omega)
      have o8 : OwnI wr.heap.size w8 _ d.l := Ownv.turn o7 r2 (fun b h1 h2 => by have := (Ownv.lt o7 h1).2; have := hnF _ h2; omega)
      have k8 : Kept w w8 := Turn.keptOf (hk.trans k7) r2 hF
      have g8 : ArR G w8 pb ds := ArG.turn (ArG.kept hbr k7) r2 (fun x h1 h2 => hd x h2 h1)
      have q0 := x8.cell 0
      have q1 := x8.cell 1
      have q2 := x8.cell 2
      have q3 := x8.cell 3
      simp only [List.getElem?_cons_succ, List.getElem?_cons_zero] at q0 q1 q2 q3
      go_wp2_with fail
      refine (hmb w8 k8 G g8).mono ?_
      rintro e w9 ⟨G', rfl, s1, s2, s3⟩
      have hnG : ∀ b, G b → b < wr.heap.size := hbr.lt
      have b9 := b8.turn s2 (fun e => by have := hnG _ e; omega)
      have o9 : OwnI wr.heap.size w9 _ d.l := Ownv.turn o8 s2 (fun b h1 h2 => by have := (Ownv.lt o8 h1).2; have := hnG _ h2; omega)
      have k9 : Kept w w9 := Turn.keptOf k8 s2 hG
      have hd' : ∀ x, F' x → ¬ G' x := fun x h1 h2 => (s3 x h2).elim (fun h => (r3 x h1).elim (fun h' => hd x h' h) (fun h' => by have := hnG x h; have := k7.size; omega)) (fun h => by have := r1.lt x h1; omega)
      have f9 : Ar F' w9 pa ds2 := ArG.turn r1 s2 (fun x h1 h2 => (r3 x h1).elim (fun h' => hd x h' h2) (fun h' => by have := hnG x h2; have := k7.size; omega))
      have q0 := b9.cell 0
      have q1 := b9.cell 1
      have q2 := b9.cell 2
      have q3 := b9.cell 3
      simp only [List.getElem?_cons_succ, List.getElem?_cons_zero] at q0 q1 q2 q3
      have l63 : ((d.l.length : Nat) : Int) ≤ 9223372036854775807 := by omega
      have hnb : ∀ b, Blks (.slice a6 d.l.length cap6) b → ¬ F' b ∧ ¬ G' b ∧ wr.heap.size ≤ b := fun b hb => by
        have h7 := Ownv.lt o7 hb
        have h8 := Ownv.lt o8 hb
        exact ⟨fun h => (r3 b h).elim (fun h => by have := hnF b h; omega) (fun h => by omega), fun h => (s3 b h).elim (fun h => by have := hnG b h; omega) (fun h => by have := k8.size; have := r2.size; omega), h7.2⟩
      have hk2 := hk.size
      have hF' : ∀ x, F' x → w.heap.size ≤ x := fun x h => (r3 x h).elim (hF x) (fun c => by have := k7.size; omega)
      have hG' : ∀ x, G' x → w.heap.size ≤ x := fun x h => (s3 x h).elim (hG x) (fun c => Nat.le_trans k8.size c)
      clear r1 r2 r3 s2 s3 x8 b8 o8 g8 x7 b7 o7 k8 hnF hnG hmk hmb hF hG hd har hbr bx by' hrl ka ka2 k7
      obtain ⟨wq, rfl⟩ : ∃ wq : World, wq = wr := ⟨_, rfl⟩
      go_wp2
      clear q0 q1 q2 q3
      go_loopw [58] (fun i wx => ∃ (j : Nat) (zs : List Int), j ≤ d.l.length ∧ i = .int .i64 j ∧ Ar F' wx pa ds2 ∧ ArR G' wx pb ds2 ∧ Blk wx (wq.heap.size + 1) 31 [.int .i64 d.op, .int .i64 d.n, .string (strB d.s), .slice a6 d.l.length cap6] ∧ Shut (zs.length = d.l.length) ∧ OwnI wq.heap.size wx (.slice a6 d.l.length cap6) zs ∧ Kept w wx) (fun i _ => d.l.length - (intOf i).toNat)
      case atStart => exact ⟨0, d.l, Nat.zero_le _, rfl, f9, s1, b9, ⟨rfl⟩, o9, k9⟩
      case round =>
        clear f9 s1 b9 o9 k9
        obtain ⟨j, zs, hj0, rfl, f9, s1, b9, hzl, o9, k9⟩ := hrel
        have q0 := b9.cell 0
        have q1 := b9.cell 1
        have q2 := b9.cell 2
        have q3 := b9.cell 3
        simp only [List.getElem?_cons_succ, List.getElem?_cons_zero] at q0 q1 q2 q3
        by_cases hjl : j < d.l.length
        · obtain ⟨g, rfl, hcj, hfj⟩ : ∃ g, a6 = some ⟨g, 0, none⟩ ∧ wr.cell? ⟨g, j, none⟩ = some (.int .i64 (zs.getD j 0)) ∧ wr.frozen? ⟨g, j, none⟩ = false := by
            obtain ⟨g, c, hv, _, _⟩ := World.ownsRow.form o9 (by have := hzl.out; omega)
            simp only [Value.slice.injEq] at hv
            obtain ⟨rfl, hl, rfl⟩ := hv
            have o10 : OwnI wq.heap.size wr (.slice (some ⟨g, 0, none⟩) zs.length cap6) zs := by rw [← hl]; exact o9
            have := World.ownsRow.cells o10 rfl j (.int .i64 (zs.getD j 0)) (by simp [List.getD, List.getElem?_eq_getElem (show j < zs.length by rw [hzl.out]; exact hjl)])
            rw [Addr.add_lit, Nat.zero_add] at this
            exact ⟨g, rfl, this, World.ownsRow.frozenAt o10 j⟩
          have hng := hnb g rfl
          go_wp2
          have o11 : OwnI wq.heap.size (wr.setCell ⟨g, j, none⟩ (.int .i64 0)) (.slice (some ⟨g, 0, none⟩) d.l.length cap6) (zs.set j 0) := by
            have o10 : OwnI wq.heap.size wr (.slice (some ⟨g, 0, none⟩) zs.length cap6) zs := by rw [hzl.out]; exact o9
            have := o10.set j 0
            rwa [List.length_set, hzl.out] at this
          have b11 := b9.turn (turn_setCell wr ⟨g, j, none⟩ (.int .i64 0)) (fun e => Ownv.notBlk o9 b9 (by decide) (show Blks _ _ by rw [e]; rfl))
          have f11 : Ar F' _ pa ds2 := ArG.turn f9 (turn_setCell wr ⟨g, j, none⟩ (.int .i64 0)) (fun x h1 h2 => hng.1 (by simp only at h2; rw [← h2]; exact h1))
          have s11 : ArR G' _ pb ds2 := ArG.turn s1 (turn_setCell wr ⟨g, j, none⟩ (.int .i64 0)) (fun x h1 h2 => hng.2.1 (by simp only at h2; rw [← h2]; exact h1))
          have k11 : Kept w (wr.setCell ⟨g, j, none⟩ (.int .i64 0)) := k9.setCell (by have := hng.2.2; simp only; omega) _
          go_roundw
          case rel => exact ⟨j + 1, zs.set j 0, hjl, rfl, f11, s11, b11, ⟨by rw [List.length_set]; exact hzl.out⟩, o11, k11⟩
          case measure => simp [intOf]; omega
        · obtain rfl : j = d.l.length := by omega
          have hla := arg_len f9
          have hlb := lenR s1
          go_wp2_with (first | (go_at_call 15; refine hla.mono ?_; rintro e w' ⟨rfl, rfl⟩) | (go_at_call 16; refine hlb.mono ?_; rintro e w' ⟨rfl, rfl⟩))
          go_roundw
          case rel => exact ⟨k + 1, F', G', ds2, hlt, rfl, f9, s1, hd', hF', hG', by omega, k9⟩
          case measure => simp [intOf]; omega
    · obtain rfl : k = ls.length := by omega
      have hla := arg_len har
      have hlb := lenR hbr
      have hdl3 : ds.length ≤ 300 := by omega
      clear hlt hdl
      go_wp2_with (go_at_call 16; refine hlb.mono ?_; rintro e w' ⟨rfl, rfl⟩)
      clear hla hlb
      obtain ⟨wq, rfl⟩ : ∃ wq : World, wq = wr := ⟨_, rfl⟩
      go_loopw [84] (fun i wx => ∃ (j : Nat), j ≤ ds.length ∧ i = .int .i64 j ∧ Kept wq wx) (fun i _ => ds.length - (intOf i).toNat)
      case atStart => exact ⟨0, Nat.zero_le _, rfl, Kept.refl _⟩
      case round =>
        obtain ⟨j, hj0, rfl, kx⟩ := hrel
        have hA := ArG.kept har kx
        have hB := ArG.kept hbr kx
        by_cases hjl : j < ds.length
        · obtain ⟨en, ee⟩ := ndAt_eq hjl
          have h1 := node_any hA (j : Int)
          rw [en, ee] at h1
          have h2 : ∀ W, Kept wr W → Calls Tryd.prog 18 #[pb, .int .i64 (j : Int)] W fun e w' => ∃ v, e = .returned (.tuple #[v, .int .i64 0]) ∧ RdN w' v (ds.getD j nd0) ∧ Kept W w' := fun W k => by
            have := nodeR_any (ArG.kept hB k) (j : Int)
            rwa [en, ee] at this
          clear en ee
          generalize ds.getD j nd0 = d at h1 h2
          go_wp2_with fail
          refine h1.mono ?_
          rintro e w10 ⟨v1, rfl, rd1, k10⟩
          obtain ⟨lv1, rfl, rl1⟩ := rd1
          obtain ⟨la1, lc1, rfl, _, _, _⟩ := rl1.len
          have kb := (Kept.refl w10).alloc (.cells #[.int .i64 d.op, .int .i64 d.n, .string (strB d.s), .slice la1 d.l.length lc1] 31)
          have bA := Blk.new w10 [.int .i64 d.op, .int .i64 d.n, .string (strB d.s), .slice la1 d.l.length lc1] 31
          go_wp2_with fail
          generalize w10.alloc (.cells #[.int .i64 d.op, .int .i64 d.n, .string (strB d.s), .slice la1 d.l.length lc1] 31) = w11 at kb bA ⊢
          have k11 : Kept wr w11 := k10.trans kb
          refine (h2 w11 k11).mono ?_
          rintro e w12 ⟨v2, rfl, rd2, k12⟩
          obtain ⟨lv2, rfl, rl2⟩ := rd2
          obtain ⟨la2, lc2, rfl, _, _, _⟩ := rl2.len
          have kc := (Kept.refl w12).alloc (.cells #[.int .i64 d.op, .int .i64 d.n, .string (strB d.s), .slice la2 d.l.length lc2] 31)
          have bA2 := (bA.kept k12).kept kc
          have bB := Blk.new w12 [.int .i64 d.op, .int .i64 d.n, .string (strB d.s), .slice la2 d.l.length lc2] 31
          have q0 := bA2.cell 0
          have q1 := bA2.cell 1
          have q2 := bA2.cell 2
          have q3 := bA2.cell 3
          simp only [List.getElem?_cons_succ, List.getElem?_cons_zero] at q0 q1 q2 q3
          have hsn := sameNode_any (w := w12.alloc (.cells #[.int .i64 d.op, .int .i64 d.n, .string (strB d.s), .slice la2 d.l.length lc2] 31)) (c := d) (d := d) ⟨_, rfl, rl1.kept ((kb.trans k12).trans kc)⟩ ⟨_, rfl, rl2.kept kc⟩
          have hsn2 := hsn.mono (fun e w' ⟨a, b⟩ => (⟨by rw [a, decide_eq_true rfl], b⟩ : e = Ending.returned (Value.bool true) ∧ Kept _ w'))
          clear hsn
          go_wp2_with fail
          refine hsn2.mono ?_
          rintro e w13 ⟨rfl, k13⟩
          go_wp2
          go_roundw
          case rel => exact ⟨j + 1, hjl, rfl, kx.trans (((k11.trans k12).trans kc).trans k13)⟩
          case measure => simp [intOf]; omega
        · obtain rfl : j = ds.length := by omega
          have h1 := node_any hA t
          have h2 : ∀ W, Kept wr W → Calls Tryd.prog 18 #[pb, .int .i64 t] W fun e w' => ∃ v, e = .returned (.tuple #[v, .int .i64 (ndE ds t)]) ∧ RdN w' v (ndAt ds t) ∧ Kept W w' := fun W k => nodeR_any (ArG.kept hB k) t
          generalize ndAt ds t = d at h1 h2
          generalize ndE ds t = ee at h1 h2
          go_wp2_with fail
          refine h1.mono ?_
          rintro e w10 ⟨v1, rfl, rd1, k10⟩
          obtain ⟨lv1, rfl, rl1⟩ := rd1
          obtain ⟨la1, lc1, rfl, _, _, _⟩ := rl1.len
          have kb := (Kept.refl w10).alloc (.cells #[.int .i64 d.op, .int .i64 d.n, .string (strB d.s), .slice la1 d.l.length lc1] 31)
          go_wp2_with fail
          generalize w10.alloc (.cells #[.int .i64 d.op, .int .i64 d.n, .string (strB d.s), .slice la1 d.l.length lc1] 31) = w11 at kb ⊢
          have k11 : Kept wr w11 := k10.trans kb
          refine (h2 w11 k11).mono ?_
          rintro e w12 ⟨v2, rfl, rd2, k12⟩
          obtain ⟨lv2, rfl, rl2⟩ := rd2
          obtain ⟨la2, lc2, rfl, _, _, _⟩ := rl2.len
          have kc := (Kept.refl w12).alloc (.cells #[.int .i64 d.op, .int .i64 d.n, .string (strB d.s), .slice la2 d.l.length lc2] 31)
          go_wp2
          go_ret
          exact ⟨rfl, hk.trans (kx.trans ((k11.trans k12).trans kc))⟩
end Go.Proofs.YtdhdgbihalfgeaaDoor
