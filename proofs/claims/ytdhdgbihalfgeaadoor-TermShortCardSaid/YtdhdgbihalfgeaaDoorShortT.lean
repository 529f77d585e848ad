/- The walk of TermShort. -/
import Derived.Test.YtdhdgbihalfgeaaDoorTermN
import Derived.Test.YtdhdgbihalfgeaaDoorTermQ
import Derived.Test.YtdhdgbihalfgeaaDoorRising
set_option linter.unusedSimpArgs false
set_option linter.unusedVariables false
namespace Go.Proofs.YtdhdgbihalfgeaaDoor
open Go.RowKit Go.Maps

theorem mk_twice {ds : List Nd} (hg : Good ds) (d : Nd) : mk (mk ds d).1 d = mk ds d := by
  by_cases hm : May ds d
  · cases hf : find ds d with
    | some i => rw [mk_old hm hf]; exact mk_old hm hf
    | none =>
      by_cases hl : 100000 ≤ ds.length
      · rw [mk_full hm hf hl]; exact mk_full hm hf hl
      · rw [mk_new hm hf hl]
        have := mk_again (hg.snoc hm hf) (d := d) (i := ds.length) (by simp) (by rw [getD_snoc, if_neg (by omega), if_pos rfl])
        exact this
  · rw [mk_bad hm]; exact mk_bad hm
theorem may_text (ds : List Nd) (s : List UInt8) : May ds ⟨2, 0, s, []⟩ ↔ s.length ≤ 200 := by
  refine ⟨fun h => h.s0, fun h => ⟨by simp, by simp, by simp, .inl rfl, h, .inr rfl, by simp [kLeast, kTab], by simp [kMost, kTab], (fun x hx => by cases hx), (fun h => by simp at h)⟩⟩
theorem mk_text {ds : List Nd} (hl : ds.length < 100000) (s : List UInt8) : (s.length ≤ 200 ∧ (mk ds ⟨2, 0, s, []⟩).2.2 = 0) ∨ (200 < s.length ∧ (mk ds ⟨2, 0, s, []⟩).2.2 = 1) := by
  by_cases h : s.length ≤ 200
  · refine .inl ⟨h, ?_⟩
    have hm := (may_text ds s).2 h
    cases hf : find ds ⟨2, 0, s, []⟩ with
    | some i => rw [mk_old hm hf]
    | none => rw [mk_new hm hf (by omega)]
  · refine .inr ⟨by omega, ?_⟩
    rw [mk_bad (fun hm => h ((may_text ds s).1 hm))]
theorem reach_node {ds : List Nd} (hg : Good ds) {x y : Int} (h : Reach ds x y) : y = x ∨ ∃ p ∈ (ds.getD x.toNat nd0).l, Reach ds p y := by
  induction h with
  | refl _ _ => exact .inl rfl
  | step h1 h2 ih =>
    rcases ih with rfl | ⟨p, hp, hr⟩
    · have hb := h1.bound hg
      have := hg.lesser (i := _) (by omega) _ h2
      exact .inr ⟨_, h2, .refl this.1 (by omega)⟩
    · exact .inr ⟨p, hp, .step hr h2⟩
theorem Atoms.len {ds : List Nd} (hg : Good ds) {t : Int} {l : List Int} (h : Atoms ds t l) : l.length ≤ ds.length := by
  have hn : l.Nodup := h.1.imp fun h => by omega
  have := nodup_sub l (ds.map fun d => d.n) hn fun n hn => by
    obtain ⟨x, h1, h2, h3⟩ := (h.2 n).1 hn
    have hb := h1.bound hg
    rw [← h3]
    exact List.mem_map.2 ⟨_, by rw [List.getD_eq_getElem?_getD, List.getElem?_eq_getElem (show x.toNat < ds.length by omega)]; exact List.getElem_mem _, rfl⟩
  simpa using this
/-- The atoms of all of some terms. -/
def AtomsAll (ds : List Nd) (ps : List Int) (k : Nat) (zs : List Int) : Prop := ∀ n, n ∈ zs ↔ ∃ j, j < k ∧ ∃ x, Reach ds (ps.getD j 0) x ∧ (ds.getD x.toNat nd0).op = 1 ∧ (ds.getD x.toNat nd0).n = n
theorem AtomsAll.snoc {ds : List Nd} {ps : List Int} {k : Nat} {zs l : List Int} (h : AtomsAll ds ps k zs) (ha : Atoms ds (ps.getD k 0) l) : AtomsAll ds ps (k + 1) (zs ++ l) := fun n => by
  rw [List.mem_append, h n, ha.2 n]
  constructor
  · rintro (⟨j, h1, h2⟩ | h)
    · exact ⟨j, by omega, h2⟩
    · exact ⟨k, by omega, h⟩
  · rintro ⟨j, h1, h2⟩
    by_cases c : j < k
    · exact .inl ⟨j, c, h2⟩
    · obtain rfl : j = k := by omega
      exact .inr h2
theorem atoms_list {ds : List Nd} (hg : Good ds) {x : Int} {ps zs l us : List Int} (h0 : 0 ≤ x) (h1 : x < ds.length) (hx : ds.getD x.toNat nd0 = ⟨3, 0, [], ps⟩) (ha : Atoms ds x l) (hz : AtomsAll ds ps ps.length zs) (hu : us.Pairwise (· < ·)) (hm : ∀ n, n ∈ us ↔ n ∈ zs) : l = us := by
  refine sorted_unique ha.1 hu fun n => ?_
  rw [hm n, hz n, ha.2 n]
  constructor
  · rintro ⟨y, hy, ho, hn⟩
    rcases reach_node hg hy with rfl | ⟨p, hp, hr⟩
    · rw [hx] at ho; simp at ho
    · rw [hx] at hp
      obtain ⟨j, hj, e⟩ := List.mem_iff_getElem.1 hp
      exact ⟨j, hj, y, by rw [List.getD_eq_getElem?_getD, List.getElem?_eq_getElem hj, Option.getD_some, e]; exact hr, ho, hn⟩
  · rintro ⟨j, hj, y, hy, ho, hn⟩
    refine ⟨y, ?_, ho, hn⟩
    refine Reach.trans (.step (.refl h0 h1) (?_ : ps.getD j 0 ∈ _)) hy
    rw [hx]
    exact mem_getD hj

set_option maxHeartbeats 8000000 in
set_option maxRecDepth 1000000 in
theorem short_walk {w : World} {v : Value} {ls : List Nd} (hv : RdNs w v ls) (hok : ∀ d ∈ ls, NdOk d) {u : Value} {ps : List Int} (hu : RdI w u ps) (hpk : ∀ x ∈ ps, I64 x) (S : ByteArray) (hS : S.size ≤ 9223372036854775807) (ht : Tabs w) :
    Calls Tryd.prog 6 #[v, u, .string S] w fun e w' => e = .returned (.bool true) ∧ Kept w w' := by
  obtain ⟨s, rfl⟩ : ∃ s, S = strB s := ⟨S.data.toList, by simp [strB]⟩
  have es := strB_size s
  rw [es] at hS
  obtain ⟨na, ncap, rfl, n1, n2, _⟩ := hv.len
  obtain ⟨pa, pcap, rfl, p1, p2, _⟩ := hu.len
  have n63 : ((ls.length : Nat) : Int) ≤ 9223372036854775807 := by unfold maxLen at n2; omega
  have p63 : ((ps.length : Nat) : Int) ≤ 9223372036854775807 := by unfold maxLen at p2; omega
  go_enter Tryd.func6, Tryd.ntmps6
  go_wp2_with fail
  refine (live_any ht).mono ?_
  rintro e w1 ⟨rfl, k1⟩
  go_wp2_with fail
  refine (few_any (hv.kept k1)).mono ?_
  rintro e w2 ⟨b, rfl, hfew, k2⟩
  have k02 := k1.trans k2
  cases b with
  | false =>
    go_wp2
    go_ret
    exact ⟨rfl, k02⟩
  | true =>
  have hf := (hfew rfl).1
  clear hfew
  by_cases h100 : 100 < ps.length
  · go_wp2
    go_ret
    exact ⟨rfl, k02⟩
  by_cases h300 : 300 < s.length
  · go_wp2
    go_ret
    exact ⟨rfl, k02⟩
  go_wp2_with fail
  refine (new_any w2).mono ?_
  rintro e w3 ⟨F0, p, rfl, ha, k3, hF0, hp⟩
  clear hp
  have k03 := k02.trans k3
  have hF0' : ∀ b, F0 b → w.heap.size ≤ b := fun b hb => Nat.le_trans k02.size (hF0 b hb)
  go_wp2
  go_loopw [40] (fun i wr => ∃ (k : Nat) (F : Nat → Prop) (ds : List Nd), k ≤ ls.length ∧ i = .int .i64 k ∧ Ar F wr p ds ∧ (∀ x, F x → w.heap.size ≤ x) ∧ ds.length ≤ k ∧ Kept w wr) (fun i _ => ls.length - (intOf i).toNat)
  case atStart => exact ⟨0, F0, [], Nat.zero_le _, rfl, ha, hF0', Nat.le_refl _, k03⟩
  case round =>
    clear ha hF0 hF0'
    obtain ⟨k, F, ds, hk0, rfl, har, hF, hdl, hk⟩ := hrel
    by_cases hlt : k < ls.length
    · obtain ⟨nb, noff, ncap', la, lc, hv', hcl, hlr⟩ := hv.at hlt
      simp only [Value.slice.injEq] at hv'
      obtain ⟨rfl, hdrop, rfl⟩ := hv'
      clear hdrop
      obtain ⟨y0, y1, y2, y3⟩ := hcl wr hk
      have hdk : NdOk (ls.getD k nd0) := hok _ (by rw [List.getD_eq_getElem?_getD, List.getElem?_eq_getElem hlt]; exact List.getElem_mem _)
      clear hcl
      generalize ls.getD k nd0 = d at y0 y1 y2 y3 hlr hdk
      have hd1 : ∀ W, Kept w W → RdN W (.agg #[.int .i64 d.op, .int .i64 d.n, .string (strB d.s), .slice la d.l.length lc]) d := fun W k => ⟨_, rfl, hlr.kept k⟩
      have ka : Kept wr (wr.alloc (.cells #[.int .i64 d.op, .int .i64 d.n, .string (strB d.s), .slice la d.l.length lc] 31)) := (Kept.refl wr).alloc _
      have hmk := make_any (ArG.kept har ka) (ht.kept (hk.trans ka)) (hd1 _ (hk.trans ka)) hdk
      have hlm := mk_le ds d
      generalize mk ds d = m at hmk hlm
      obtain ⟨ds2, t2, e2⟩ := m
      simp only at hmk hlm
      go_wp2_with fail
      refine hmk.mono ?_
      rintro e w6 ⟨F', rfl, r1, r2, r3⟩
      have k6 : Kept w w6 := Turn.keptOf (hk.trans ka) r2 hF
      go_wp2
      go_roundw
      case rel => exact ⟨k + 1, F', ds2, hlt, rfl, r1, fun x h => (r3 x h).elim (hF x) (fun c => Nat.le_trans (hk.trans ka).size c), by omega, k6⟩
      case measure => simp [intOf]; omega
    · obtain rfl : k = ls.length := by omega
      have hds : ds.length ≤ 300 := by omega
      clear hdl hlt
      -- List, and Make of it
      have hm1 := mk_twice har.good ⟨3, 0, [], ps⟩
      have hg1 := good_mk har.good ⟨3, 0, [], ps⟩
      have hl1 := (mk_le ds ⟨3, 0, [], ps⟩).2
      have hx1 := mk_t64 ds ⟨3, 0, [], ps⟩ (by omega)
      have he1 := mk_e ds ⟨3, 0, [], ps⟩
      have hat := mk_at (ds := ds) (d := ⟨3, 0, [], ps⟩)
      have hlist := list_any har (ht.kept hk) (hu.kept hk) hpk
      generalize mk ds ⟨3, 0, [], ps⟩ = m at hm1 hg1 hl1 hx1 he1 hat hlist
      obtain ⟨ds1, x, e1⟩ := m
      simp only at hm1 hg1 hl1 hx1 he1 hat hlist
      have HAT := Shut.mk hat
      have HM1 := Shut.mk hm1
      clear hat hm1
      go_wp2_with fail
      refine hlist.mono ?_
      rintro e w6 ⟨F1, rfl, r1, r2, r3⟩
      have k6 : Kept w w6 := Turn.keptOf hk r2 hF
      have hF1 : ∀ b, F1 b → w.heap.size ≤ b := fun x h => (r3 x h).elim (hF x) (fun c => Nat.le_trans hk.size c)
      go_wp2_with fail
      refine (make_any r1 (ht.kept k6) (d := ⟨3, 0, [], ps⟩) ⟨_, rfl, hu.kept k6⟩ ⟨i64_lit (by simp), i64_lit (by simp), by simp, hpk⟩).mono ?_
      rintro e w7 ⟨F2, rfl, s1, s2, s3⟩
      rw [HM1.out] at s1 ⊢
      simp only at s1 ⊢
      have k7 : Kept w w7 := Turn.keptOf k6 s2 hF1
      have hF2 : ∀ b, F2 b → w.heap.size ≤ b := fun x h => (s3 x h).elim (hF1 x) (fun c => Nat.le_trans k6.size c)
      -- Text, and Make of it
      have hm2 := mk_twice hg1 ⟨2, 0, s, []⟩
      have hg2 := good_mk hg1 ⟨2, 0, s, []⟩
      have hl2 := (mk_le ds1 ⟨2, 0, s, []⟩).2
      have hte := mk_text (ds := ds1) (by omega) s
      have hext := mk_ext ds1 ⟨2, 0, s, []⟩
      have htext := mtext_any s1 (ht.kept k7) s (by unfold maxLen; omega)
      generalize mk ds1 ⟨2, 0, s, []⟩ = m at hm2 hg2 hl2 hte hext htext
      obtain ⟨ds2, z, e2⟩ := m
      simp only at hm2 hg2 hl2 hte hext htext
      have HM2 := Shut.mk hm2
      have HEX := Shut.mk hext
      clear hm2 hext
      go_wp2_with fail
      refine htext.mono ?_
      rintro e w8 ⟨F3, rfl, q1, q2, q3⟩
      have k8 : Kept w w8 := Turn.keptOf k7 q2 hF2
      have hF3 : ∀ b, F3 b → w.heap.size ≤ b := fun x h => (q3 x h).elim (hF2 x) (fun c => Nat.le_trans k7.size c)
      go_wp2_with fail
      refine (make_any q1 (ht.kept k8) (d := ⟨2, 0, s, []⟩) ⟨_, rfl, RdI.nil _⟩ ⟨i64_lit (by simp), i64_lit (by simp), by unfold maxLen; simp; omega, fun x hx => by cases hx⟩).mono ?_
      rintro e w9 ⟨F4, rfl, o1, o2, o3⟩
      rw [HM2.out] at o1 ⊢
      simp only at o1 ⊢
      have k9 : Kept w w9 := Turn.keptOf k8 o2 hF3
      have hF4 : ∀ b, F4 b → w.heap.size ≤ b := fun x h => (o3 x h).elim (hF3 x) (fun c => Nat.le_trans k8.size c)
      clear r1 r2 r3 s1 s2 s3 q1 q2 q3 o2 o3 hF hF1 hF2 hF3 hlist htext har hk k6 k7 k8
      by_cases he : e1 = 0
      · obtain ⟨x0, xl, hxn⟩ := HAT.out he
        have HXN : Shut (ds2.getD x.toNat nd0 = ⟨3, 0, [], ps⟩ ∧ x < ds2.length) := by
          obtain ⟨r, hr⟩ := HEX.out
          subst hr
          exact ⟨⟨by rw [getD_app (by omega)]; exact hxn, by rw [List.length_append]; omega⟩⟩
        clear hxn
        subst he
        have es2 : ((s.length : Int) ≤ 200 ∧ e2 = 0) ∨ (200 < (s.length : Int) ∧ e2 = 1) := by omega
        rcases es2 with ⟨sl, rfl⟩ | ⟨sl, rfl⟩
        all_goals
          go_wp2
          go_loopw [19, 105] (fun av i wr => ∃ (k : Nat) (zs : List Int), k ≤ ps.length ∧ i = .int .i64 k ∧ Ar F4 wr p ds2 ∧ OwnI 0 wr av zs ∧ (∀ b, Blks av b → w.heap.size ≤ b ∧ ¬ F4 b) ∧ zs.length ≤ k * 100000 ∧ AtomsAll ds2 ps k zs ∧ Kept w wr) (fun _ i _ => ps.length - (intOf i).toNat)
          case atStart => exact ⟨0, [], Nat.zero_le _, rfl, o1, OwnI.nil _ _, (fun b hb => by cases hb), Nat.zero_le _, (fun n => ⟨(fun h => by cases h), fun ⟨j, h, _⟩ => absurd h (Nat.not_lt_zero _)⟩), k9⟩
          case round =>
            clear o1
            obtain ⟨k, zs, hk0, rfl, har, ho, hb, hzl, hall, hk⟩ := hrel
            have HALL := Shut.mk hall
            clear hall
            by_cases hlt : k < ps.length
            · obtain ⟨rb, ro, rc, hrv, _, _, hrb, hcell⟩ := hu.addr (by omega)
              simp only [Value.slice.injEq] at hrv
              obtain ⟨rfl, hdrop, rfl⟩ := hrv
              clear hdrop
              have hcw : _root_.Go.World.cell? _ ⟨rb, ro + k, none⟩ = some (.int .i64 (ps.getD k 0)) := hk.cell (p := ⟨rb, ro + k, none⟩) hrb |>.trans (hcell k hlt)
              clear hcell
              have hp64 : I64 (ps.getD k 0) := hpk _ (mem_getD hlt)
              have HSN := Shut.mk (fun l => HALL.out.snoc (l := l))
              generalize ps.getD k 0 = y at hcw hp64 HSN
              go_wp2_with fail
              refine (atoms_any har hp64).mono ?_
              rintro e w10 ⟨lv, l, rfl, rl, hal, k10, hnew⟩
              have hal2 := hal.len har.good
              obtain ⟨la, lc, rfl, l1, l2, l3⟩ := rl.len
              have ho10 : OwnI 0 w10 _ zs := Ownv.kept ho k10
              go_wp2_with (at_builtin; refine go_appi 0 _ zs rfl ho10 _ l rfl rl (by omega) (Nat.zero_le _) ?_; intro v11 w11 o11 t11 l11)
              go_roundw
              case rel =>
                refine ⟨k + 1, zs ++ l, hlt, rfl, ArG.turn (ArG.kept har k10) t11 (fun b h1 h2 => (hb b h2).2 h1), o11, fun b h1 => ?_, by rw [List.length_append]; have := har.few; omega, HSN.out l hal, Turn.keptOf (hk.trans k10) t11 (fun b h1 => (hb b h1).1)⟩
                rcases l11 b h1 with c | c
                · exact hb b c
                · exact ⟨Nat.le_trans (hk.trans k10).size c, fun h => by have := har.lt b h; have := k10.size; omega⟩
              case measure => simp [intOf]; omega
            · obtain rfl : k = ps.length := by omega
              have hz2 : zs.length ≤ 1000000000 := by omega
              have hx64 : I64 x := i64_lit (by omega)
              have hsz := sizeT_pos har.good x0 HXN.out.2
              obtain ⟨za, zc, rfl, _, _, _⟩ := (OwnI.rd ho).len
              go_wp2_with fail
              refine (atoms_any har hx64).mono ?_
              rintro e w10 ⟨lv, l, rfl, rl, hal, k10, hnew⟩
              go_wp2_with fail
              refine (rising_any ((OwnI.rd ho).kept k10) hz2).mono ?_
              rintro e w11 ⟨uv, us, rfl, ru, hus, hum, k11⟩
              have heq := atoms_list har.good x0 HXN.out.2 HXN.out.1 hal HALL.out hus hum
              have hsame := (sameInts_any (rl.kept k11) ru).mono (fun e w' ⟨a, b⟩ => (⟨by rw [a, decide_eq_true heq], b⟩ : e = Ending.returned (Value.bool true) ∧ Kept w11 w'))
              clear heq
              go_wp2_with fail
              refine hsame.mono ?_
              rintro e w12 ⟨rfl, k12⟩
              have har12 := ArG.kept har ((k10.trans k11).trans k12)
              have hszf := size_fn har12 hx64
              have hd1 : decide ((1 : Int) ≤ (sizeT ds2 x : Int)) = true := decide_eq_true (by omega)
              generalize sizeT ds2 x = sz at hsz hszf hd1
              go_wp2_with fail
              refine hszf.mono ?_
              rintro e w13 ⟨rfl, k13⟩
              go_wp2
              go_ret
              exact ⟨rfl, (((hk.trans k10).trans k11).trans k12).trans k13⟩
      · have hd0 : (e1 != 0) = true := by simpa using he
        have es2 : ((s.length : Int) ≤ 200 ∧ e2 = 0) ∨ (200 < (s.length : Int) ∧ e2 = 1) := by omega
        rcases es2 with ⟨sl, rfl⟩ | ⟨sl, rfl⟩
        all_goals
          go_wp2
          go_ret
          exact ⟨rfl, k9⟩
end Go.Proofs.YtdhdgbihalfgeaaDoor
