/- Walks of package term: Make, List, Text. -/
import Derived.Test.YtihagkeljhgomaaDoorTermF
import Derived.Test.YtihagkeljhgomaaDoorTermD
set_option linter.unusedSimpArgs false
set_option linter.unusedVariables false
namespace Go.Proofs.YtihagkeljhgomaaDoor
open Go.RowKit Go.Maps

theorem zeroInt (w : World) : (zeroValue 3).run Tryd.prog w = .ok (.int .i64 0) w := by kernel_rfl

theorem idx_has {H : Type} {ky : Nd → List UInt8} {ds : List Nd} {D : DataW H} (h : Idx ky ds D) (hg : Good ds) {d : Nd} (hinj : ∀ i, i < ds.length → ky (ds.getD i nd0) = ky d → ds.getD i nd0 = d) :
    (Maps.has D (.string (ky d)) = false ∧ find ds d = none) ∨ ∃ i, i < ds.length ∧ Maps.has D (.string (ky d)) = true ∧ D.atKey (.string (ky d)) (.lit (.int .i64 0)) = .lit (.int .i64 i) ∧ find ds d = some i := by
  cases hh : Maps.has D (.string (ky d)) with
  | false =>
    refine .inl ⟨rfl, ?_⟩
    cases hf : find ds d with
    | none => rfl
    | some i =>
      obtain ⟨h1, h2⟩ := find_some hf
      have := (h.1 i h1).1
      rw [h2, hh] at this
      cases this
  | true =>
    obtain ⟨i, hi, he⟩ := h.2 _ hh
    have := hinj i hi he
    refine .inr ⟨i, hi, rfl, ?_, hg.findAt hi this⟩
    have := (h.1 i hi).2
    rw [he] at this
    exact this

set_option maxRecDepth 100000 in
set_option maxHeartbeats 4000000 in
theorem make_any {F : Nat → Prop} {w : World} {p : Value} {ds : List Nd} (h : Ar F w p ds) (ht : Tabs w) {v : Value} {d : Nd} (hd : RdN w v d) (hok : NdOk d) :
    Calls Tryd.prog 29 #[p, v] w fun e w' => ∃ F' : Nat → Prop, e = .returned (.tuple #[.int .i64 (mk ds d).2.1, .int .i64 (mk ds d).2.2]) ∧ Ar F' w' p (mk ds d).1 ∧ Turn F w w' ∧ (∀ b, F' b → F b ∨ w.heap.size ≤ b) := by
  obtain ⟨pb, mb, n, nv, lvs, D, rfl, h2, h3, h4, h5, h6, h7, h8, h9, h10, h11, h12⟩ := h.rep
  obtain ⟨lv, rfl, hr⟩ := hd
  obtain ⟨op, nn, s, l⟩ := d
  simp only at hr ⊢
  have hd1 : ∀ W, Kept w W → RdN W (.agg #[.int .i64 op, .int .i64 nn, .string (strB s), lv]) ⟨op, nn, s, l⟩ := fun W k => ⟨lv, rfl, hr.kept k⟩
  obtain ⟨la, lc, rfl, l1, l2, l3⟩ := hr.len
  have HH := Shut.mk h
  clear h
  go_enter Tryd.func29, Tryd.ntmps29
  go_wp2_with fail
  have k0 : Kept w (w.alloc (.cells #[.int .i64 op, .int .i64 nn, .string (strB s), .slice la l.length lc] 56)) := (Kept.refl w).alloc _
  have b0 := Blk.new w [.int .i64 op, .int .i64 nn, .string (strB s), .slice la l.length lc] 56
  generalize w.alloc (.cells #[.int .i64 op, .int .i64 nn, .string (strB s), .slice la l.length lc] 56) = w0 at k0 b0 ⊢
  refine (allows_any (ArG.kept HH.out k0) (ht.kept k0) (hd1 w0 k0)).mono ?_
  rintro e w1 ⟨b, rfl, hb, k1⟩
  have k01 := k0.trans k1
  have b1 := b0.kept k1
  cases b with
  | false =>
    have hng : ¬ May ds ⟨op, nn, s, l⟩ := fun m => by have := hb.2 m; cases this
    go_wp2
    go_ret2
    rw [mk_bad hng]
    exact ⟨F, rfl, ArG.kept HH.out k01, k01.turn F, fun b hb => .inl hb⟩
  | true =>
    have hm : May ds ⟨op, nn, s, l⟩ := hb.1 rfl
    have HM := Shut.mk hm
    have hs2 := hm.s0
    have hlen := hm.len64
    have hkl := key_len hok hs2 hlen
    have x0 := b1.cell 0
    have x1 := b1.cell 1
    have x2 := b1.cell 2
    have x3 := b1.cell 3
    simp only [List.getElem?_cons_succ, List.getElem?_cons_zero] at x0 x1 x2 x3
    clear hm hb
    go_wp2_with fail
    refine (text_any (ht.kept k01) (hd1 w1 k01) ⟨HM.out.op1, HM.out.op12⟩ hok hs2 hlen).mono ?_
    rintro e w2 ⟨rfl, k2⟩
    have k02 := k01.trans k2
    have b2 := b1.kept k2
    have m2 := ownsMap_kept h6 k02
    have q0 := (h2.kept k02).cell 0
    have q1 := (h2.kept k02).cell 1
    have y0 := b2.cell 0
    have y1 := b2.cell 1
    have y2 := b2.cell 2
    have y3 := b2.cell 3
    simp only [List.getElem?_cons_succ, List.getElem?_cons_zero] at q0 q1 y0 y1 y2 y3
    clear x0 x1 x2 x3
    obtain ⟨na, ncap, rfl, n1, n2, n3, n4, n5⟩ := h3.rdv
    have hkey : keyOf Tryd.prog 9 (.string (strB (key ⟨op, nn, s, l⟩))) = some (.string (key ⟨op, nn, s, l⟩)) := WideMaps.keyOf_string_mk Tryd.underlying9 (by rw [strB_size]; unfold maxLen; omega)
    have hlaw : Keyed Tryd.prog 9 := string_keyed Tryd.underlying9
    have hix := idx_has h8 HH.out.good (d := ⟨op, nn, s, l⟩) (fun i hi e => key_inj (HH.out.good.may' hi) HM.out e)
    have HKEY := Shut.mk hkey
    clear hkey
    generalize hKY : Value.string (strB (key ⟨op, nn, s, l⟩)) = KY at HKEY
    have HKY := Shut.mk hKY
    clear hKY
    rcases hix with ⟨hx1, hx2⟩ | ⟨i, hi, hx1, hx2, hx3⟩
    · have HX2 := Shut.mk hx2
      clear hx2
      by_cases hbig : 100000 ≤ ds.length
      · have HB := Shut.mk hbig
        have hdb : decide ((100000 : Int) ≤ (ds.length : Int)) = true := decide_eq_true (by omega)
        clear hbig
        go_wp2_with (at_lookup; refine wpList_lookup_own_ok_int _ rfl _ _ 51 rfl 9 3 .i64 hlaw Tryd.underlying51 Tryd.underlying3 (zeroInt _) mb n D rfl m2 _ _ rfl HKEY.out ?_; intro c hat hwc; rw [hx1])
        go_ret2
        rw [mk_full HM.out HX2.out HB.out]
        exact ⟨F, rfl, ArG.kept HH.out k02, k02.turn F, fun b hb => .inl hb⟩
      · have HB := Shut.mk hbig
        have hdb : decide ((100000 : Int) ≤ (ds.length : Int)) = false := decide_eq_false (by omega)
        clear hbig
        go_wp2_with (first | (at_lookup; refine wpList_lookup_own_ok_int _ rfl _ _ 51 rfl 9 3 .i64 hlaw Tryd.underlying51 Tryd.underlying3 (zeroInt _) mb n D rfl m2 _ _ rfl HKEY.out ?_; intro c hat hwc; rw [hx1]) | fail)
        rw [← HKY.out]
        refine (keep_any (ArG.kept HH.out k02) (hd1 w2 k02) hok HM.out HX2.out HB.out).mono ?_
        rintro e w3 ⟨F', rfl, r1, r2, r3⟩
        go_wp2
        go_ret2
        rw [mk_new HM.out HX2.out HB.out]
        have := k02.size
        exact ⟨F', rfl, r1, (k02.turn F).trans r2 (fun x hx => .inl hx), fun b hb => (r3 b hb).imp id (fun c => by omega)⟩
    · have HX3 := Shut.mk hx3
      clear hx3
      go_wp2_with (at_lookup; refine wpList_lookup_own_ok_int _ rfl _ _ 51 rfl 9 3 .i64 hlaw Tryd.underlying51 Tryd.underlying3 (zeroInt _) mb n D rfl m2 _ _ rfl HKEY.out ?_; intro c hat hwc; rw [hx1])
      rw [hx2] at hat
      simp only [DataW.lit.injEq, Lit.int.injEq, true_and] at hat
      go_ret2
      rw [mk_old HM.out HX3.out]
      exact ⟨F, by rw [← hat]; rfl, ArG.kept HH.out k02, k02.turn F, fun b hb => .inl hb⟩

theorem i64_lit {n : Int} (h : -9223372036854775808 ≤ n ∧ n ≤ 9223372036854775807) : I64 n := h
theorem list_any {F : Nat → Prop} {w : World} {p : Value} {ds : List Nd} (h : Ar F w p ds) (ht : Tabs w) {v : Value} {l : List Int} (hd : RdI w v l) (hok : ∀ x ∈ l, I64 x) :
    Calls Tryd.prog 34 #[p, v] w fun e w' => ∃ F' : Nat → Prop, e = .returned (.tuple #[.int .i64 (mk ds ⟨3, 0, [], l⟩).2.1, .int .i64 (mk ds ⟨3, 0, [], l⟩).2.2]) ∧ Ar F' w' p (mk ds ⟨3, 0, [], l⟩).1 ∧ Turn F w w' ∧ (∀ b, F' b → F b ∨ w.heap.size ≤ b) := by
  obtain ⟨la, lc, rfl, l1, l2, l3⟩ := hd.len
  have hmk := make_any h ht (v := .agg #[.int .i64 3, .int .i64 0, .string ⟨#[]⟩, .slice la l.length lc]) (d := ⟨3, 0, [], l⟩) ⟨_, rfl, hd⟩ ⟨i64_lit (by simp), i64_lit (by simp), by simp, hok⟩
  generalize mk ds ⟨3, 0, [], l⟩ = m at hmk ⊢
  go_enter Tryd.func34, Tryd.ntmps34
  go_wp2_with fail
  refine hmk.mono ?_
  rintro e w' ⟨F', rfl, r1, r2, r3⟩
  go_wp2
  go_ret2
  exact ⟨F', rfl, r1, r2, r3⟩
theorem mtext_any {F : Nat → Prop} {w : World} {p : Value} {ds : List Nd} (h : Ar F w p ds) (ht : Tabs w) (s : List UInt8) (hl : s.length ≤ maxLen) :
    Calls Tryd.prog 33 #[p, .string (strB s)] w fun e w' => ∃ F' : Nat → Prop, e = .returned (.tuple #[.int .i64 (mk ds ⟨2, 0, s, []⟩).2.1, .int .i64 (mk ds ⟨2, 0, s, []⟩).2.2]) ∧ Ar F' w' p (mk ds ⟨2, 0, s, []⟩).1 ∧ Turn F w w' ∧ (∀ b, F' b → F b ∨ w.heap.size ≤ b) := by
  have hmk := make_any h ht (v := .agg #[.int .i64 2, .int .i64 0, .string (strB s), .slice none 0 0]) (d := ⟨2, 0, s, []⟩) ⟨_, rfl, RdI.nil _⟩ ⟨i64_lit (by simp), i64_lit (by simp), hl, fun x hx => by cases hx⟩
  clear hl
  generalize mk ds ⟨2, 0, s, []⟩ = m at hmk ⊢
  go_enter Tryd.func33, Tryd.ntmps33
  go_wp2_with fail
  refine hmk.mono ?_
  rintro e w' ⟨F', rfl, r1, r2, r3⟩
  go_wp2
  go_ret2
  exact ⟨F', rfl, r1, r2, r3⟩
end Go.Proofs.YtihagkeljhgomaaDoor
