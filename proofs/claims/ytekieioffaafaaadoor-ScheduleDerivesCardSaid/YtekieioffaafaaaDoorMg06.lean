/- Texts of one proof, put together: ScL, ScM. -/
import Derived.Test.YtekieioffaafaaaDoorMg05
import Derived.Test.YtekieioffaafaaaDoorMg03
import Derived.Test.YtekieioffaafaaaDoorMg04
import Derived.Test.YtekieioffaafaaaDoorMg01
section
/- The statements' helpers of layer 11: two, live. -/
set_option linter.unusedSimpArgs false
set_option linter.unusedVariables false
namespace Go.Proofs.YtekieioffaafaaaDoor
open Go.RowKit Go.Maps

set_option maxHeartbeats 8000000 in
set_option maxRecDepth 100000 in
theorem two11_any {w : World} (hT : Tabs w) : Calls Tryd.prog 10 #[] w (TwoPost9 w) := by
  have HT := Lib.hid hT
  clear hT
  go_enter Tryd.func10, Tryd.ntmps10
  go_wp2_with fail
  refine (new_any w).mono ?_
  rintro e w1 ⟨F, p, rfl, h1, k1, hF, hp⟩
  go_wp2_with fail
  refine (newR_any w1).mono ?_
  rintro e w2 ⟨G, q, rfl, h2, k2, hG, hq⟩
  have hs : TwoS w p q 0 w2 := ⟨F, G, ArG.kept h1 k2, h2, fun b hb hg => by have := h1.lt b hb; have := hG b hg; omega, hF, fun b hg => Nat.le_trans k1.size (hG b hg), k1.trans k2⟩
  subst hp hq
  have HS := Lib.hid hs
  clear h1 h2 k1 k2 hF hG hs
  generalize w.heap.size + 1 = pb at *
  generalize w1.heap.size + 1 = qb at *
  go_wp2
  go_loopw [7] (fun c wr => ∃ k : Nat, k ≤ 10 ∧ c = .int .i64 k ∧ TwoS w (.pointer (some ⟨pb, 0, none⟩)) (.pointer (some ⟨qb, 0, none⟩)) k wr) (fun c _ => 10 - (intOf c).toNat)
  case atStart => exact ⟨0, Nat.zero_le _, rfl, HS.out⟩
  case round =>
    obtain ⟨k, hk, rfl, F, G, hA, hR, hFG, hF, hG, hkw⟩ := hrel
    by_cases hlt : k < 10
    · have k0 : (0 : Int) ≤ (k : Int) := by omega
      have k1 : (k : Int) < 10 := by omega
      have HM := Lib.hid (make_any hA (HT.out.kept hkw) (v := .agg #[.int .i64 1, .int .i64 (k : Int), .string ⟨#[]⟩, .slice none 0 0]) (d := ⟨1, (k : Int), [], []⟩) ⟨_, rfl, RdI.nil _⟩ (nd_atom_ok ⟨by omega, by omega⟩))
      rw [mk_atoms (by omega)] at HM
      have HR := Lib.hid hR
      have HFG := Shut.mk hFG
      have HF := Shut.mk hF
      have HG := Shut.mk hG
      clear hA hR hFG hF hG
      go_wp2_with fail
      (with_reducible refine HM.out.mono ?_); rintro e w4 ⟨F', rfl, h4, t4, hF4⟩
      have hR4 := ArG.turn HR.out t4 (fun b hb hg => HFG.out b hg hb)
      have HA := Lib.hid (atomR_any hR4 (n := (k : Int)) ⟨by omega, by omega⟩)
      rw [mk_atoms (by omega)] at HA
      have H4 := Lib.hid h4
      have T4 := Lib.hid t4
      have HF4 := Shut.mk hF4
      have GL := Shut.mk (show ∀ b, G b → b < wr.heap.size from HR.out.lt)
      clear hR4 h4 t4 hF4
      go_wp2_with fail
      (with_reducible refine HA.out.mono ?_); rintro e w5 ⟨G', rfl, h5, t5, hG5⟩
      have hd : ∀ b, F' b → ¬ G b := fun b hb hg => by
        rcases HF4.out b hb with c | c
        · exact HFG.out b c hg
        · have := GL.out b hg; omega
      have hs5 : TwoS w (.pointer (some ⟨pb, 0, none⟩)) (.pointer (some ⟨qb, 0, none⟩)) (k + 1) w5 := by
        refine ⟨F', G', ArG.turn H4.out t5 hd, h5, fun b hb hg => ?_, fun b hb => ?_, fun b hb => ?_, ?_⟩
        · rcases hG5 b hg with c | c
          · exact hd b hb c
          · have := H4.out.lt b hb; omega
        · rcases HF4.out b hb with c | c
          · exact HF.out b c
          · exact Nat.le_trans hkw.size c
        · rcases hG5 b hb with c | c
          · exact HG.out b c
          · exact Nat.le_trans (Nat.le_trans hkw.size T4.out.size) c
        · exact Turn.keptOf (Turn.keptOf hkw T4.out HF.out) t5 HG.out
      have HS5 := Lib.hid hs5
      clear h5 t5 hG5 hd hs5
      go_wp2
      go_roundw
      case rel => exact ⟨k + 1, hlt, by go_num, HS5.out⟩
      case measure => simp [intOf]; omega
    · obtain rfl : k = 10 := by omega
      have hkn : ¬ ((10 : Nat) : Int) < 10 := by decide
      go_wp2
      go_ret2
      exact ⟨_, _, _, rfl, rfl, F, G, hA, hR, hFG, hF, hG, hkw⟩

/-- An arena of its own memory, apart from what was there. -/
theorem At.mkA {w w1 : World} {p : Value} {ds : List Nd} {F : Nat → Prop} (hA : Ar F w1 p ds) (hF : ∀ b, F b → w.heap.size ≤ b) (k1 : Kept w w1) (hT : Tabs w) : At w (fun b => b < w.heap.size) w1 p ds :=
  ⟨⟨F, hA, fun b hb (hs : b < w.heap.size) => by have := hF b hb; omega⟩, fun b (hb : b < w.heap.size) => Nat.lt_of_lt_of_le hb k1.size, fun b hb => hb, k1, hT⟩
theorem atoms_den {k n : Nat} (hg : Good (atomsL k)) (h : n < k) : Den (atomT n) (atomsL k) (n : Int) := ⟨(atoms_is h).isT, den_is hg (atoms_is h)⟩
theorem is_shw {ds : List Nd} (hg : Good ds) {t : Int} {d : Nd} (h : Is ds t d) : shw ds t = one (shw ds) d := by
  rw [shw_eq hg h.lo h.hi, h.eq]
def liveS11 : List UInt8 := [109, 105, 120, 40, 34, 34, 44, 35, 51, 41]
theorem live11_sh {ds : List Nd} (hg : Good ds) {t : Int} (h : Den (pskT [atomT 3]) ds t) : shE ds t = 0 ∧ shT ds t = liveS11 := by
  obtain ⟨l, hi, hl⟩ := den_inv hg h
  obtain ⟨a, l, rfl, da, hl⟩ := hl.cons_inv
  obtain ⟨b, l, rfl, db, hl⟩ := hl.cons_inv
  obtain rfl := hl.nil_inv
  obtain ⟨la, ia, _⟩ := den_inv hg da
  obtain ⟨lb, ib, _⟩ := den_inv hg db
  have e3 : Lib.itoa 3 = [51] := by
    unfold Lib.itoa
    rw [if_neg (by decide), Lib.decDigits_one (by decide)]
    rfl
  have hs : shw ds t = liveS11 := by
    rw [is_shw hg hi]
    simp only [one, List.map_cons, List.map_nil, is_shw hg ia, is_shw hg ib]
    simp [one, e3, joinC, esc, kName, kTab, liveS11]
  have hE : shE ds t = 0 := by
    unfold shE
    rw [if_pos (show 0 ≤ t ∧ t < (ds.length : Int) from h.1), hs, if_neg (by decide)]
  exact ⟨hE, by unfold shT; rw [if_pos hE, hs]⟩
set_option maxHeartbeats 8000000 in
set_option maxRecDepth 100000 in
theorem live11_any {w : World} (hT : Tabs w) : Calls Tryd.prog 8 #[] w fun e w' => e = .returned (.bool true) ∧ Kept w w' := by
  have HT := Lib.hid hT
  clear hT
  go_enter Tryd.func8, Tryd.ntmps8
  go_wp2_with fail
  (with_reducible refine (two11_any HT.out).mono ?_); rintro e w1 ⟨p, q, pa, rfl, rfl, F, G, hA, hR, hFG, hF, hG, k1⟩
  have a1 := At.mkA hA hF k1 HT.out
  have hg := a1.good
  have k2 : Kept w1 (w1.alloc (.cells #[.int .i64 3] 3)) := (Kept.refl w1).alloc _
  have a2 := a1.plusE k2
  have b2 := Blk.new w1 [.int .i64 3] 3
  have r2 : RdK (PlusE (fun b => b < w.heap.size) w1 (w1.alloc (.cells #[.int .i64 3] 3))) (w1.alloc (.cells #[.int .i64 3] 3)) (.slice (some ⟨w1.heap.size, 0, none⟩) 1 1) [3] := by
    have ho : OwnI w1.heap.size (w1.alloc (.cells #[.int .i64 3] 3)) (.slice (some ⟨w1.heap.size, 0, none⟩) 1 1) [3] := Ownv.lit (B := w1.heap.size) 3 (w := w1) [.int .i64 3] (Nat.le_refl _) (by unfold maxLen; simp)
    refine RdK.own ho fun b hb => .inr ?_
    have := Ownv.lt ho hb
    exact ⟨this.2, this.1⟩
  have HP := Lib.hid (PPsk_ok a2 r2 (DenL.cons (atoms_den (k := 10) (n := 3) hg (by decide)) (DenL.nil _)) (by rw [atomsL_len]; decide))
  have HN := Lib.hid (fun W (r : List Nd) (a : At w (PlusE (fun b => b < w.heap.size) w1 (w1.alloc (.cells #[.int .i64 3] 3))) W (.pointer (some pa)) (atomsL 10 ++ r)) (hr : r.length ≤ 2) => PNext_ok (i := 0) (c := 1) (x := 2) a (RdK.nil _ _) ((atoms_den (k := 10) (n := 0) hg (by decide)).more r) ((atoms_den (k := 10) (n := 1) hg (by decide)).more r) ((atoms_den (k := 10) (n := 2) hg (by decide)).more r) (DenL.nil _) (by rw [List.length_append, atomsL_len]; simp only [List.length_nil]; omega))
  have H12 := Lib.hid k1
  clear hA hR hFG hF hG a1 a2 r2 b2 k1 hg
  have HP : Hid (Calls Tryd.prog 22 #[.pointer (some pa), .slice (some ⟨w1.heap.size, 0, none⟩) 1 1] (w1.alloc (.cells #[.int .i64 3] 3)) (PMk w (PlusE (fun b => b < w.heap.size) w1 (w1.alloc (.cells #[.int .i64 3] 3))) (w1.alloc (.cells #[.int .i64 3] 3)) (.pointer (some pa)) (atomsL 10) 2 (Den (pskT [atomT 3])))) := HP
  generalize PlusE (fun b => b < w.heap.size) w1 (w1.alloc (.cells #[.int .i64 3] 3)) = T at *
  generalize atomsL 10 = d0 at *
  go_wp2_with fail
  (with_reducible refine HP.out.mono ?_); rintro e w3 ⟨r, t, rfl, a3, hr, hQ, t3⟩
  obtain ⟨hE, hS⟩ := live11_sh a3.good hQ
  obtain ⟨F3, hF3, _⟩ := a3.ar
  have HSh := Lib.hid (show_any hF3 a3.tabs t)
  rw [hE, hS] at HSh
  have HN3 := Lib.hid (fun W (k : Kept w3 W) => HN.out W r (a3.step k) hr)
  clear hE hS hF3 a3 hQ HN HP hr t3
  have es := strB_list liveS11
  unfold liveS11 at es HSh
  generalize strB [109, 105, 120, 40, 34, 34, 44, 35, 51, 41] = X at es HSh
  go_wp2_with fail
  (with_reducible refine HSh.out.mono ?_); rintro e w4 ⟨rfl, k4⟩
  have HN4 := Lib.hid (HN3.out w4 k4)
  clear HN3 HSh k4
  go_wp2_with fail
  (with_reducible refine HN4.out.mono ?_); rintro e w5 ⟨r5, x, rfl, a5, hr5, d5, k5⟩
  have K5 := Lib.hid a5.kept
  obtain ⟨x0, x1, x2, x3, x4, x5, x6, x7, x8, x9, x10⟩ := x
  have HI := Lib.hid (fun W => PInner_any W ⟨x0, x1, x2, x3, x4, x5, x6, x7, x8, x9, x10⟩)
  unfold epV at HI ⊢
  simp only at HI ⊢
  clear a5 hr5 d5 k5 HN4
  go_wp2_with fail
  (with_reducible refine (HI.out _).mono ?_); rintro e w6 ⟨v, rfl, o6, k6⟩
  obtain ⟨va, vc, rfl⟩ : ∃ va vc, v = .slice va 10 vc := by
    obtain ⟨va, vc, h, _, _, _⟩ := (OwnI.rd o6).len
    exact ⟨va, vc, h⟩
  clear o6
  go_wp2
  go_ret
  exact ⟨rfl, (K5.out.alloc _).trans k6⟩
end Go.Proofs.YtekieioffaafaaaDoor
end

section
/- Numbers that are no terms, and stay so; the walk of SchedulePsk. -/
set_option linter.unusedSimpArgs false
set_option linter.unusedVariables false
namespace Go.Proofs.YtekieioffaafaaaDoor
open Go.RowKit Go.Maps

/-- All of l are among the ten. -/
def tB (l : List Int) : Bool := termsB (atomsL 10) l
theorem near_isT {x : Int} {r : List Nd} (h : ¬ (10 ≤ x ∧ x < 1073741824)) (hl : (atomsL 10 ++ r).length ≤ 100000) : IsT (atomsL 10 ++ r) x ↔ IsT (atomsL 10) x := by
  unfold IsT
  rw [List.length_append, atomsL_len] at *
  omega
theorem near_terms {l : List Int} {r : List Nd} (h : Near 10 l) (hl : (atomsL 10 ++ r).length ≤ 100000) : termsB (atomsL 10 ++ r) l = tB l := by
  unfold tB termsB
  rw [Bool.eq_iff_iff, List.all_eq_true, List.all_eq_true]
  constructor
  · intro k x hx
    exact decide_eq_true ((near_isT (h x hx) hl).1 (of_decide_eq_true (k x hx)))
  · intro k x hx
    exact decide_eq_true ((near_isT (h x hx) hl).2 (of_decide_eq_true (k x hx)))
theorem tB_den {l : List Int} (hg : Good (atomsL 10)) (h : tB l = true) : DenL (l.map atomT) (atomsL 10) l := by
  have hT : ∀ x ∈ l, IsT (atomsL 10) x := fun x hx => of_decide_eq_true (List.all_eq_true.1 h x hx)
  refine ⟨hT, List.map_congr_left fun x hx => ?_⟩
  obtain ⟨n, rfl⟩ := Int.eq_ofNat_of_zero_le (hT x hx).1
  exact (atoms_den hg (by have := (hT (n : Int) hx).2; rw [atomsL_len] at this; omega)).2
theorem atomT_inj {a b : Int} (h : atomT a = atomT b) : a = b := by
  unfold atomT at h
  injection h
theorem atoms_inj : ∀ {l m : List Int}, l.map atomT = m.map atomT → l = m := by
  intro l
  induction l with
  | nil => intro m h; exact (List.map_eq_nil_iff.1 h.symm).symm
  | cons a l ih =>
    intro m h
    cases m with
    | nil => cases h
    | cons b m =>
      rw [List.map_cons, List.map_cons] at h
      injection h with h1 h2
      rw [atomT_inj h1, ih h2]
set_option maxHeartbeats 8000000 in
set_option maxRecDepth 100000 in
theorem psk_walk {w : World} {u v : Value} {l m : List Int} (hu : RdI w u l) (okl : ∀ x ∈ l, I64 x) (hv : RdI w v m) (okm : ∀ x ∈ m, I64 x) (ht : Tabs w) :
    Calls Tryd.prog 7 #[u, v] w fun e w' => e = .returned (.bool true) ∧ Kept w w' := by
  have HT := Lib.hid ht
  have HU := Lib.hid hu
  have HV := Lib.hid hv
  obtain ⟨ua, uc, rfl, u1, u2, _⟩ := hu.len
  obtain ⟨va, vc, rfl, v1, v2, _⟩ := hv.len
  have l63 : ((l.length : Nat) : Int) ≤ 9223372036854775807 := by unfold maxLen at u2; omega
  have m63 : ((m.length : Nat) : Int) ≤ 9223372036854775807 := by unfold maxLen at v2; omega
  clear ht hu hv okl okm u1 u2 v1 v2
  by_cases h1 : l.length ≤ 30
  · have d1 : ¬ (30 : Int) < (l.length : Int) := by omega
    by_cases h2 : m.length ≤ 30
    · have d2 : ¬ (30 : Int) < (m.length : Int) := by omega
      have H1 := Shut.mk h1
      have H2 := Shut.mk h2
      clear h1 h2
      go_enter Tryd.func7, Tryd.ntmps7
      go_wp2_with fail
      (with_reducible refine (live11_any HT.out).mono ?_); rintro e w1 ⟨rfl, k1⟩
      go_wp2_with fail
      (with_reducible refine (beyond_any (HU.out.kept k1) 10).mono ?_); rintro e w2 ⟨b1, rfl, hb1, k2⟩
      cases b1 with
      | true =>
        clear hb1
        go_wp2
        go_ret
        exact ⟨rfl, k1.trans k2⟩
      | false =>
        have N1 := Shut.mk (hb1 rfl)
        clear hb1
        go_wp2_with fail
        (with_reducible refine (beyond_any (HV.out.kept (k1.trans k2)) 10).mono ?_); rintro e w3 ⟨b2, rfl, hb2, k3⟩
        have k13 := (k1.trans k2).trans k3
        cases b2 with
        | true =>
          clear hb2
          go_wp2
          go_ret
          exact ⟨rfl, k13⟩
        | false =>
          have N2 := Shut.mk (hb2 rfl)
          clear hb2
          have K13 := Lib.hid k13
          clear k1 k2 k3 k13
          go_wp2_with fail
          (with_reducible refine (two11_any (HT.out.kept K13.out)).mono ?_); rintro e w4 ⟨p, q, pa, rfl, rfl, F, G, hA, hR, hFG, hF, hG, k4⟩
          have a4 := At.mkA hA hF k4 (HT.out.kept K13.out)
          have hg := a4.good
          have RU : RdK (fun b => b < w3.heap.size) w4 (.slice ua l.length uc) l := (HU.out.kept K13.out).rdK k4 (fun b hb => hb)
          have RV : RdK (fun b => b < w3.heap.size) w4 (.slice va m.length vc) m := (HV.out.kept K13.out).rdK k4 (fun b hb => hb)
          have HA := Lib.hid a4
          have HRU := Lib.hid RU
          have HRV := Lib.hid RV
          clear hA hR hFG hF hG k4 RU RV
          have hbl : ∀ (r : List Nd) W, At w3 (fun b => b < w3.heap.size) W (.pointer (some pa)) (atomsL 10 ++ r) → termsB (atomsL 10 ++ r) l = tB l := fun r W a => near_terms N1.out a.few
          have hbm : ∀ (r : List Nd) W, At w3 (fun b => b < w3.heap.size) W (.pointer (some pa)) (atomsL 10 ++ r) → termsB (atomsL 10 ++ r) m = tB m := fun r W a => near_terms N2.out a.few
          have HBL := Shut.mk hbl
          have HBM := Shut.mk hbm
          clear hbl hbm
          cases cl : tB l with
          | true =>
            cases cm : tB m with
            | true =>
              have HC1 := Lib.hid (PPsk_ok HA.out HRU.out (tB_den hg cl) (by have := H1.out; rw [atomsL_len]; omega))
              go_wp2_with fail
              (with_reducible refine HC1.out.mono ?_); rintro e w5 ⟨r5, x5, rfl, a5, hr5, d5, k5⟩
              have HA5 := Lib.hid a5
              have K5 := Lib.hid k5
              have D5 := Shut.mk d5
              clear a5 k5 d5 HC1
              have HC2 := Lib.hid (PPsk_ok HA5.out (HRV.out.keep K5.out) ((tB_den hg cm).more r5) (by have := H2.out; have := H1.out; rw [List.length_append]; rw [atomsL_len]; omega))
              go_wp2_with fail
              (with_reducible refine HC2.out.mono ?_); rintro e w6 ⟨r6, x6, rfl, a6, hr6, d6, k6⟩
              have HA6 := Lib.hid a6
              have K6 := Lib.hid (K5.out.trans k6)
              have D6 := Shut.mk d6
              clear a6 k6 d6 HC2
              have HC3 := Lib.hid (PPsk_ok HA6.out (HRU.out.keep K6.out) (((tB_den hg cl).more r5).more r6) (by have := H2.out; have := H1.out; simp only [List.length_append]; rw [atomsL_len]; omega))
              go_wp2_with fail
              (with_reducible refine HC3.out.mono ?_); rintro e w7 ⟨r7, x7, rfl, a7, hr7, d7, k7⟩
              have hg7 := a7.good
              have K7 := Lib.hid (K6.out.trans k7)
              have hxz : (x5 == x7) = true := beq_iff_eq.2 (((D5.out.more r6).more r7).same hg7 d7)
              have hxy : (x5 == x6) = decide (l = m) := by
                rw [Bool.eq_iff_iff, beq_iff_eq, decide_eq_true_iff]
                constructor
                · intro e
                  have e1 := ((D5.out.more r6).more r7).2
                  have e2 := (D6.out.more r7).2
                  rw [e] at e1
                  exact atoms_inj (pskT_inj _ _ _ (Nat.le_refl _) (e1.symm.trans e2))
                · rintro rfl
                  exact ((D5.out.more r6).more r7).same hg7 (D6.out.more r7)
              have kk : Kept w w7 := K13.out.trans a7.kept
              have HSI := Lib.hid (sameInts_any (HU.out.kept kk) (HV.out.kept kk))
              generalize decide (l = m) = B at hxy HSI
              have KK := Lib.hid kk
              have hbb : (B == B) = true := by simp
              clear a7 d7 k7 hg7 HC3 kk
              go_wp2_with fail
              (with_reducible refine HSI.out.mono ?_); rintro e w8 ⟨rfl, k8⟩
              go_wp2
              go_ret
              exact ⟨by simp, KK.out.trans k8⟩
            | false =>
              have HC1 := Lib.hid (PPsk_ok HA.out HRU.out (tB_den hg cl) (by have := H1.out; rw [atomsL_len]; omega))
              go_wp2_with fail
              (with_reducible refine HC1.out.mono ?_); rintro e w5 ⟨r5, x5, rfl, a5, hr5, d5, k5⟩
              have HA5 := Lib.hid a5
              have K5 := Lib.hid k5
              have D5 := Shut.mk d5
              clear a5 k5 d5 HC1
              have HC2 := Lib.hid (PPsk_no HA5.out (HRV.out.keep K5.out).rd ((HBM.out r5 _ HA5.out).trans cm))
              go_wp2_with fail
              (with_reducible refine HC2.out.mono ?_); rintro e w6 ⟨rfl, rfl⟩
              have HA6 := HA5
              have K6 := K5
              clear HC2
              have HC3 := Lib.hid (PPsk_ok HA6.out (HRU.out.keep K6.out) ((tB_den hg cl).more r5) (by have := H2.out; have := H1.out; simp only [List.length_append]; rw [atomsL_len]; omega))
              go_wp2_with fail
              (with_reducible refine HC3.out.mono ?_); rintro e w7 ⟨r7, x7, rfl, a7, hr7, d7, k7⟩
              have KK := Lib.hid (K13.out.trans a7.kept)
              clear a7 d7 k7
              clear HC3
              go_wp2
              go_ret
              exact ⟨rfl, KK.out⟩
          | false =>
            cases cm : tB m with
            | true =>
              have HC1 := Lib.hid (PPsk_no HA.out HRU.out.rd cl)
              go_wp2_with fail
              (with_reducible refine HC1.out.mono ?_); rintro e w5 ⟨rfl, rfl⟩
              have HA5 := HA
              have K5 := Lib.hid (Keep.refl (fun b => b < w3.heap.size) w4)
              clear HC1
              have HC2 := Lib.hid (PPsk_ok HA5.out (HRV.out.keep K5.out) (tB_den hg cm) (by have := H2.out; have := H1.out; rw [atomsL_len]; omega))
              go_wp2_with fail
              (with_reducible refine HC2.out.mono ?_); rintro e w6 ⟨r6, x6, rfl, a6, hr6, d6, k6⟩
              have HA6 := Lib.hid a6
              have K6 := Lib.hid (K5.out.trans k6)
              have D6 := Shut.mk d6
              clear a6 k6 d6 HC2
              have HC3 := Lib.hid (PPsk_no HA6.out (HRU.out.keep K6.out).rd ((HBL.out r6 _ HA6.out).trans cl))
              go_wp2_with fail
              (with_reducible refine HC3.out.mono ?_); rintro e w7 ⟨rfl, rfl⟩
              have KK := Lib.hid (K13.out.trans HA6.out.kept)
              clear HC3
              go_wp2
              go_ret
              exact ⟨rfl, KK.out⟩
            | false =>
              have HC1 := Lib.hid (PPsk_no HA.out HRU.out.rd cl)
              go_wp2_with fail
              (with_reducible refine HC1.out.mono ?_); rintro e w5 ⟨rfl, rfl⟩
              have HA5 := HA
              have K5 := Lib.hid (Keep.refl (fun b => b < w3.heap.size) w4)
              clear HC1
              have HC2 := Lib.hid (PPsk_no HA5.out (HRV.out.keep K5.out).rd (cm))
              go_wp2_with fail
              (with_reducible refine HC2.out.mono ?_); rintro e w6 ⟨rfl, rfl⟩
              have HA6 := HA5
              have K6 := K5
              clear HC2
              have HC3 := Lib.hid (PPsk_no HA6.out (HRU.out.keep K6.out).rd (cl))
              go_wp2_with fail
              (with_reducible refine HC3.out.mono ?_); rintro e w7 ⟨rfl, rfl⟩
              have KK := Lib.hid (K13.out.trans HA6.out.kept)
              clear HC3
              go_wp2
              go_ret
              exact ⟨rfl, KK.out⟩
    · have d2 : (30 : Int) < (m.length : Int) := by omega
      clear h1 h2
      go_enter Tryd.func7, Tryd.ntmps7
      go_wp2_with fail
      (with_reducible refine (live11_any HT.out).mono ?_); rintro e w1 ⟨rfl, k1⟩
      go_wp2
      go_ret
      exact ⟨rfl, k1⟩
  · have d1 : (30 : Int) < (l.length : Int) := by omega
    clear h1
    go_enter Tryd.func7, Tryd.ntmps7
    go_wp2_with fail
    (with_reducible refine (live11_any HT.out).mono ?_); rintro e w1 ⟨rfl, k1⟩
    go_wp2
    go_ret
    exact ⟨rfl, k1⟩
end Go.Proofs.YtekieioffaafaaaDoor
end
