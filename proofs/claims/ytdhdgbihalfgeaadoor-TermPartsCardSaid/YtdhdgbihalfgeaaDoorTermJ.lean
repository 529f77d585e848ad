/- Walks of package term: a term's text, Show. -/
import Derived.Test.YtdhdgbihalfgeaaDoorTermI
import Derived.Laws.Pointers
set_option linter.unusedSimpArgs false
set_option linter.unusedVariables false
namespace Go.Proofs.YtdhdgbihalfgeaaDoor
open Go.RowKit Go.Maps

theorem itoa_any (n : Int) (hn : I64 n) (w : World) (ht : Lib.TabIs Tryd.prog w "internal/strconv.uint64pow10" .u64 Lib.pow10Tab) :
    Calls Tryd.prog 50 #[.int .i64 n] w fun e w' => e = .returned (.string (strB (Lib.itoa n))) ∧ Kept w w' :=
  (Tryd.strconv_Itoa n hn.1 hn.2 w ht).mono fun e w' ⟨a, k, os, c⟩ => ⟨a, by rw [c]; exact Lib.below_grow w.heap.size w (Nat.le_refl _) k os⟩

set_option maxHeartbeats 4000000 in
set_option maxRecDepth 100000 in
theorem term_ok {w0 : World} {nv : Value} {ds : List Nd} (hg : Good ds) (hns : RdNs w0 nv ds) (ht : Tabs w0) (hn : ∀ d ∈ ds, NdOk d) (HD : Shut (ds.length ≤ 100000)) (t : Nat) : t < ds.length → TermOk w0 nv ds t := by
  induction t using Nat.strongRecOn with
  | ind t ih =>
    intro htl b bs w hk h hbs
    obtain ⟨nb, noff, ncap, lvs, rfl, _, _, hnb, hnc, hnl⟩ := hns.addr (by omega)
    obtain ⟨y0, y1, y2, y3⟩ := hnc t htl
    have z0 := hk.cell (p := ⟨nb, noff + t * 4, none⟩) hnb |>.trans y0
    have z1 := hk.cell (p := ⟨nb, noff + t * 4 + 1, none⟩) hnb |>.trans y1
    have z2 := hk.cell (p := ⟨nb, noff + t * 4 + 2, none⟩) hnb |>.trans y2
    have z3 := hk.cell (p := ⟨nb, noff + t * 4 + 3, none⟩) hnb |>.trans y3
    have hlr := hnl t htl
    have hbc := h.cell2
    have hmay := hg.may' htl
    have hless := hg.lesser htl
    have heq := shw_eq hg (t := (t : Int)) (by omega) (by omega)
    rw [Int.toNat_natCast] at heq
    have hok : NdOk (ds.getD t nd0) := hn _ (by rw [List.getD_eq_getElem?_getD, List.getElem?_eq_getElem htl]; exact List.getElem_mem _)
    have HE := Shut.mk heq
    have HN := Shut.mk hnc
    clear y0 y1 y2 y3 hnc heq
    generalize ds.getD t nd0 = d at z0 z1 z2 z3 hlr hmay hless HE hok
    obtain ⟨op, n, s, l⟩ := d
    simp only at z0 z1 z2 z3 hlr hless
    obtain ⟨la, lc, hlv, l1, l2, l3⟩ := hlr.len
    rw [hlv] at z3 hlr
    clear hlv
    have htl' : (t : Int) < (ds.length : Int) := by omega
    have ht0 : (0 : Int) ≤ (t : Int) := by omega
    have hlt := h.lt
    have hn64 := hok.n
    simp only at hn64
    have hil := itoa_len hok.n
    simp only at hil
    go_enter Tryd.func37, Tryd.ntmps37
    by_cases c1 : op = 1
    · subst c1
      go_wp2_with fail
      have k1 : Kept w (w.alloc (.cells #[.int .i64 1, .int .i64 n, .string (strB s), .slice la l.length lc] 31)) := (Kept.refl w).alloc _
      have b1 := Blk.new w [.int .i64 1, .int .i64 n, .string (strB s), .slice la l.length lc] 31
      have h1 := (h.new.mono (M := fun x => x = w.heap.size) (fun x hx => by subst hx; exact Nat.le_refl _)).kept k1
      generalize w.alloc (.cells #[.int .i64 1, .int .i64 n, .string (strB s), .slice la l.length lc] 31) = w1 at k1 b1 h1 ⊢
      have hB1 : w0.heap.size ≤ w1.heap.size := Nat.le_trans hk.size k1.size
      refine (bbyteN_any h1 hB1 (fun x hx => by subst hx; exact b1.lt) (by omega) 35 35 rfl).mono ?_
      rintro e w2 ⟨rfl, h2, t2⟩
      have b2 := b1.turn t2 (fun x => x.2 rfl)
      have k2 : Kept w0 w2 := (hk.trans k1).trans' (t2.toBelow hB1)
      have hB2 := k2.size
      have q1 := b2.cell 1
      simp only [List.getElem?_cons_succ, List.getElem?_cons_zero] at q1
      go_wp2_with fail
      go_region_with (first
        | (go_at_call 50; refine (itoa_any n hn64 _ (ht.kept (k2.drew)).pow).mono ?_; rintro e w3 ⟨rfl, k3⟩; have k3' : Kept w2 w3 := (Kept.refl w2).drew.trans k3; have h3 := BldN.no (BldN.kept h2 k3'))
        | (go_at_call 49; refine (bstr_any h3 (Nat.le_trans hB2 k3'.size) (by simp; omega) (Lib.itoa n) (by omega)).mono ?_; rintro e w4 ⟨rfl, h4, k4⟩))
      go_wp2
      go_end0
      refine ⟨rfl, ⟨_, h4, .inl ?_, ?_⟩, (k2.trans k3').trans' k4⟩
      · rw [HE.out]; simp [one]
      · simp; omega
    · by_cases c2 : op = 2
      · subst c2
        have k1 : Kept w (w.alloc (.cells #[.int .i64 2, .int .i64 n, .string (strB s), .slice la l.length lc] 31)) := (Kept.refl w).alloc _
        have h1 := BldN.kept h k1
        have hB1 : w0.heap.size ≤ _ := Nat.le_trans hk.size k1.size
        have hs0 := hmay.s0
        have hel := esc_len s
        simp only at hs0
        go_wp2_with fail
        refine (quoted_any h1 hB1 (by omega) s hs0).mono ?_
        rintro e w2 ⟨rfl, h2, k2⟩
        go_wp2
        go_end0
        refine ⟨rfl, ⟨_, h2, .inl ?_, ?_⟩, (hk.trans k1).trans' k2⟩
        · rw [HE.out]; simp [one]
        · simp; omega
      · have d1 : ¬ op = 1 := c1
        have o1 := hmay.op1
        have o2 := hmay.op12
        simp only at o1 o2
        obtain ⟨o, rfl⟩ := Int.eq_ofNat_of_zero_le (show 0 ≤ op by omega)
        have e1 : ((o : Int) == 1) = false := by simpa using c1
        have e2 : ((o : Int) == 2) = false := by simpa using c2
        obtain ⟨g0, _, _⟩ := (ht.kept hk).kinds o (by omega)
        have hone : one (shw ds) ⟨(o : Int), n, s, l⟩ = kName o ++ 40 :: (joinC (l.map (shw ds)) ++ [41]) := by unfold one; rw [if_neg c1, if_neg c2]
        rw [hone] at HE
        have hll := hmay.len64
        simp only at hll
        have hkn := kName_len (o : Int)
        clear c1 c2 d1 hone
        have b1 := Blk.new w [.int .i64 (o : Int), .int .i64 n, .string (strB s), .slice la l.length lc] 31
        have k1 : Kept w (w.alloc (.cells #[.int .i64 (o : Int), .int .i64 n, .string (strB s), .slice la l.length lc] 31)) := (Kept.refl w).alloc _
        have h1 := (h.new.mono (M := fun x => x = w.heap.size) (fun x hx => by subst hx; exact Nat.le_refl _)).kept k1
        have g1 := k1.cell (p := ⟨0, o * 3, none⟩) (World.block_lt_of_cell? _ _ g0) |>.trans g0
        have o13 : (o : Int) < 13 := by omega
        have o00 : (0 : Int) ≤ (o : Int) := by omega
        go_wp2_with fail
        generalize w.alloc (.cells #[.int .i64 (o : Int), .int .i64 n, .string (strB s), .slice la l.length lc] 31) = w1 at k1 b1 h1 g1 ⊢
        have q0 := b1.cell 0
        simp only [List.getElem?_cons_succ, List.getElem?_cons_zero] at q0
        have hB1 : w0.heap.size ≤ w1.heap.size := Nat.le_trans hk.size k1.size
        have hdr : ∀ x : Nat, x = w.heap.size → ∃ e cs, Blk w1.drew x e cs ∧ 5 ≠ e := fun x hx => by subst hx; exact ⟨_, _, b1, by decide⟩
        have h1d : BldN (fun x => x = w.heap.size) w0.heap.size b (.slice (some ⟨nb, noff, none⟩) ds.length ncap) bs w1.drew := h1.kept (Kept.refl w1).drew
        go_region_with (first
          | (go_at_call 49; refine (bstrN_any h1d hB1 hdr (by omega) (kName o) (by omega)).mono ?_; rintro e w2 ⟨rfl, h2, t2⟩))
        all_goals
          have t2' : Turn (fun x => w0.heap.size ≤ x ∧ ¬ x = w.heap.size) w1 w2 := ((Kept.refl w1).drew.turn _).trans t2 (fun x hx => .inl hx)
          have b2 := b1.turn t2' (fun x => x.2 rfl)
          have k2 : Kept w0 w2 := (hk.trans k1).trans' (t2'.toBelow hB1)
          go_wp2_with fail
          refine (bbyteN_any h2 k2.size (fun x hx => by subst hx; exact b2.lt) (by rw [List.length_append]; omega) 40 40 rfl).mono ?_
          rintro e w3 ⟨rfl, h3, t3⟩
          have b3 := b2.turn t3 (fun x => x.2 rfl)
          have k3 : Kept w0 w3 := k2.trans' (t3.toBelow k2.size)
          have q3 := b3.cell 3
          simp only [List.getElem?_cons_succ, List.getElem?_cons_zero] at q3
          go_wp2_with fail
          refine (parts_any hlr hll hless (fun x hx => ih x hx (by omega)) k3 h3.no (by simp only [List.length_append, List.length_cons, List.length_nil]; omega)).mono ?_
          rintro e w4 ⟨rfl, ⟨b4, h4, o4, n4⟩, k4⟩
          go_wp2_with fail
          refine (bbyte_any h4 k4.size (by have := HD.out; omega) 41 41 rfl).mono ?_
          rintro e w5 ⟨rfl, h5, k5⟩
          go_wp2
          go_end0
          refine ⟨rfl, ⟨_, h5, ?_, ?_⟩, k4.trans' k5⟩
          · rw [HE.out]
            rcases o4 with e | ⟨e1, e2⟩
            · exact .inl (by rw [e]; simp)
            · refine .inr ⟨?_, ?_⟩
              · rw [List.length_append]; omega
              · simp only [List.length_append, List.length_cons, List.length_nil] at e2 ⊢; omega
          · rw [List.length_append]
            show _ + 1 ≤ _
            omega

/-- What Show tells of a term, and its error. -/
def shE (ds : List Nd) (t : Int) : Int := if 0 ≤ t ∧ t < ds.length then (if 4000 < (shw ds t).length then 2 else 0) else 4
def shT (ds : List Nd) (t : Int) : List UInt8 := if shE ds t = 0 then shw ds t else []

theorem one_pos (f : Int → List UInt8) (d : Nd) : one f d ≠ [] := by
  unfold one
  split
  · simp
  · split <;> simp

set_option maxHeartbeats 4000000 in
set_option maxRecDepth 100000 in
theorem show_any {F : Nat → Prop} {w : World} {p : Value} {ds : List Nd} (h : Ar F w p ds) (ht : Tabs w) (t : Int) :
    Calls Tryd.prog 20 #[p, .int .i64 t] w fun e w' => e = .returned (.tuple #[.string (strB (shT ds t)), .int .i64 (shE ds t)]) ∧ Kept w w' := by
  have HH := Shut.mk h
  by_cases hin : 0 ≤ t ∧ t < ds.length
  · have hE : shE ds t = (if 4000 < (shw ds t).length then 2 else 0) := by unfold shE; rw [if_pos hin]
    obtain ⟨t0, t1⟩ := hin
    obtain ⟨pb, mb, nv, rfl, q0, q1, hns⟩ := ArG.nodes h
    obtain ⟨na, ncap, rfl, _, _, _⟩ := hns.len
    have hq := World.block_lt_of_cell? _ _ q0
    have hterm := term_ok h.good hns ht h.oks ⟨h.few⟩ t.toNat (by omega)
    have hsh := shw_eq h.good t0 t1
    have HE := Shut.mk hE
    have HSH := Shut.mk hsh
    clear hE hsh hns
    have htt : ((t.toNat : Nat) : Int) = t := by omega
    clear h
    go_enter Tryd.func20, Tryd.ntmps20
    go_wp2_with (first | (go_at_call 35; refine (arg_has_t HH.out t0 t1).mono ?_; rintro e w' ⟨rfl, rfl⟩) | fail)
    have k1 : Kept w (w.alloc (.cells #[.pointer none, .slice none 0 0, .slice na ds.length ncap] 66)) := (Kept.refl w).alloc _
    have h1 : Bld w.heap.size w.heap.size (.slice na ds.length ncap) [] (w.alloc (.cells #[.pointer none, .slice none 0 0, .slice na ds.length ncap] 66)) :=
      ⟨Nat.le_refl _, _, _, Blk.new w [.pointer none, .slice none 0 0, .slice na ds.length ncap] 66, .inl rfl, Own.nil _ _ _, fun x => x, fun _ _ x => x⟩
    have hc := hterm _ [] _ k1 h1 (by simp)
    rw [htt] at hc
    refine hc.mono ?_
    rintro e w2 ⟨rfl, ⟨bs, h2, o2, n2⟩, k2⟩
    have HO := Shut.mk o2
    clear o2 hterm
    by_cases hbig : 4000 < bs.length
    · have hd : decide (4000 < (bs.length : Int)) = true := decide_eq_true (by omega)
      have hS : 4000 < (shw ds t).length := by
        rcases HO.out with e | ⟨_, e⟩
        · rw [List.nil_append] at e; rw [← e]; exact hbig
        · simpa using e
      have hE : shE ds t = 2 := by rw [HE.out, if_pos hS]
      have hT : shT ds t = [] := by unfold shT; rw [if_neg (by rw [hE]; decide)]
      have HE2 := Shut.mk hE
      have HT2 := Shut.mk hT
      clear hE hT hS
      go_wp2_with (go_at_call 38; refine (blen_any h2).mono ?_; rintro e w' ⟨rfl, rfl⟩)
      go_ret2
      exact ⟨by rw [HE2.out, HT2.out]; rfl, k2⟩
    · have hd : decide (4000 < (bs.length : Int)) = false := decide_eq_false (by omega)
      have hS : bs = shw ds t := by
        rcases HO.out with e | ⟨e, _⟩
        · simpa using e
        · exact absurd e hbig
      have hE : shE ds t = 0 := by rw [HE.out, if_neg (by rw [← hS]; exact hbig)]
      have hT : shT ds t = bs := by unfold shT; rw [if_pos hE, hS]
      have hne : bs ≠ [] := by rw [hS, HSH.out]; exact one_pos _ _
      have HE2 := Shut.mk hE
      have HT2 := Shut.mk hT
      have HS2 := Shut.mk hS
      clear hE hT hS
      go_wp2_with (first | (go_at_call 38; refine (blen_any h2).mono ?_; rintro e w' ⟨rfl, rfl⟩) | (go_at_call 39; refine (bstring_any h2 hne).mono ?_; rintro e w3 ⟨rfl, k3⟩))
      go_ret2
      exact ⟨by rw [HE2.out, HT2.out]; rfl, Below.trans k2 k3⟩
  · have hE : shE ds t = 4 := by unfold shE; rw [if_neg hin]
    have hT : shT ds t = [] := by unfold shT; rw [if_neg (by rw [hE]; decide)]
    rw [hE, hT]
    clear h hE hT
    go_enter Tryd.func20, Tryd.ntmps20
    go_wp2_with (go_at_call 35; refine (arg_has_f HH.out hin).mono ?_; rintro e w' ⟨rfl, rfl⟩)
    go_ret2
    exact ⟨rfl, Kept.refl _⟩
end Go.Proofs.YtdhdgbihalfgeaaDoor
