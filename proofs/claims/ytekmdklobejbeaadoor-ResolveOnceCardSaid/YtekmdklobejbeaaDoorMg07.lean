/- Texts of one proof, put together: RsO. -/
import Derived.Test.YtekmdklobejbeaaDoorMg06
import Derived.Test.YtekmdklobejbeaaDoorMg03
import Derived.Test.YtekmdklobejbeaaDoorMg02
section
/- The walk of the statement ResolveOnce. -/
set_option linter.unusedSimpArgs false
set_option linter.unusedVariables false
namespace Go.Proofs.YtekmdklobejbeaaDoor
open Go.RowKit
open Rt

theorem memL_at {t : List TN} (h : chkB t = true) {i : Int} (hi : i ∈ memL t) : ∃ j : Nat, i = (j : Int) ∧ j < (t.length + 1) / 2 ∧ lk t j = true := by
  have m := chk_mayN h
  have e : memL t = memK t (lvs t.length) := by unfold memL; rw [h]; rfl
  rw [e, may_n m] at hi
  unfold memK at hi
  obtain ⟨j, hj, rfl⟩ := List.mem_map.1 hi
  obtain ⟨h1, h2⟩ := List.mem_filter.1 hj
  exact ⟨j, rfl, List.mem_range.1 h1, h2⟩
theorem count_take {p : Int → Bool} {l : List Int} {k : Nat} (h : k < l.length) : (l.take (k + 1)).countP p = (l.take k).countP p + (if p (l.getD k 0) = true then 1 else 0) := by
  rw [List.take_succ_eq_append_getElem h, List.countP_append, List.countP_singleton, show l.getD k 0 = l[k] by rw [List.getD_eq_getElem?_getD, List.getElem?_eq_getElem h]; rfl]
theorem once_any_yes {t : List TN} {n i x : Nat} (m : MayN t n) (hi : lk t i = true) (hx : x < 2 * n - 1) (h : Mth.hasB x i = true) : (res t x).any (holdI t i) = true := by
  rw [any_count, res_once m hi hx, if_pos h]; omega
theorem once_any_no {t : List TN} {n i x : Nat} (m : MayN t n) (hi : lk t i = true) (hx : x < 2 * n - 1) (h : Mth.hasB x i = false) : (res t x).any (holdI t i) = false := by
  refine not_true fun hc => ?_
  rw [any_count, res_once m hi hx, if_neg (by rw [h]; decide)] at hc
  omega
theorem rcheckY {w : World} {tv : Value} {t : List TN} (ht : RdTs w tv t) (hok : ∀ d ∈ t, TnOk d) (hc : chkB t = true) :
    Calls Tryd.prog 13 #[tv] w fun e w' => e = .returned (.int .i64 0) ∧ Kept w w' := by
  have h := rcheck_any ht hok
  rw [hc] at h
  exact h
theorem rcheckN {w : World} {tv : Value} {t : List TN} (ht : RdTs w tv t) (hok : ∀ d ∈ t, TnOk d) (hc : chkB t = false) :
    Calls Tryd.prog 13 #[tv] w fun e w' => e = .returned (.int .i64 1) ∧ Kept w w' := by
  have h := rcheck_any ht hok
  rw [hc] at h
  exact h
set_option maxHeartbeats 16000000 in
set_option maxRecDepth 100000 in
theorem once_any {tv : Value} {t : List TN} {w : World} (ht : RdTs w tv t) (hok : ∀ d ∈ t, TnOk d) {x : Int} (hx : I64 x) (hT : Tabs w) :
    Calls Tryd.prog 4 #[tv, .int .i64 x] w fun e w' => e = .returned (.bool true) ∧ Kept w w' := by
  have HL := Lib.hid (live08_any w hT)
  have HF := Lib.hid (fun W (k : Kept w W) => few08_any (ht.kept k))
  have HC0 := Lib.hid (fun (h : chkB t = false) W (k : Kept w W) => rcheckN (ht.kept k) hok h)
  have HC1 := Lib.hid (fun (h : chkB t = true) W (k : Kept w W) => rcheckY (ht.kept k) hok h)
  have HPR := Lib.hid (fun (h : FewT8 t) W (k : Kept w W) => PResolution_any (ht.kept k) hok (few8_fit h).1 (few8_fit h).2 (hT.kept k) x hx)
  have HMe := Lib.hid (fun W (k : Kept w W) => rmembers_any (ht.kept k) hok)
  have HHo := Lib.hid (fun (h : FewT8 t) (i z : Nat) (ha : AskOk t i z) W (k : Kept w W) => PHolds_any ha (ht.kept k) hok (few8_fit h).1 (few8_fit h).2 (hT.kept k))
  have HMi := Lib.hid (fun (h : FewT8 t) (i z : Nat) (ha : AskOk t i z) W (k : Kept w W) => PMine_any ha (ht.kept k) hok (few8_fit h).1 (few8_fit h).2 (hT.kept k))
  obtain ⟨ta, tc, rfl, _, t9, _⟩ := ht.len
  unfold OwnPost at HPR
  unfold FewPost8 at HF
  unfold MemPost at HMe
  unfold MinePost at HMi
  clear ht hok hT
  go_enter Tryd.func4, Tryd.ntmps4
  go_wp2_with fail
  (with_reducible refine HL.out.mono ?_); rintro e w1 ⟨rfl, k1⟩
  go_wp2_with fail
  (with_reducible refine (HF.out _ k1).mono ?_); rintro e w2 ⟨r, rfl, hr, q2⟩
  have k2 := k1.trans q2
  cases r with
  | false =>
    clear hr
    go_wp2
    go_ret
    exact ⟨rfl, k2⟩
  | true =>
    have HFW := Shut.mk (hr rfl)
    clear hr
    cases hc : chkB t with
    | false =>
      go_wp2_with fail
      (with_reducible refine (HC0.out hc _ k2).mono ?_); rintro e w3 ⟨rfl, q3⟩
      go_wp2
      go_ret
      exact ⟨rfl, k2.trans q3⟩
    | true =>
      have HC2 := Lib.hid (HC1.out hc _ k2)
      have HCk := Shut.mk hc
      clear hc
      by_cases h0 : x < 0
      · go_wp2_with fail
        (with_reducible refine HC2.out.mono ?_); rintro e w3 ⟨rfl, q3⟩
        go_wp2
        go_ret
        exact ⟨rfl, k2.trans q3⟩
      · by_cases h1 : (t.length : Int) ≤ x
        · go_wp2_with fail
          (with_reducible refine HC2.out.mono ?_); rintro e w3 ⟨rfl, q3⟩
          go_wp2
          go_ret
          exact ⟨rfl, k2.trans q3⟩
        · obtain ⟨y, rfl⟩ : ∃ y : Nat, x = (y : Int) := ⟨x.toNat, by omega⟩
          have hy : y < t.length := by omega
          have m := chk_mayN HCk.out
          have hlen := m.len
          have hbd := fulls_bd m.hn
          have HNode := Shut.mk hy
          have ho : okN t (y : Int) = true := okN_iff.2 ⟨HCk.out, by omega, by omega⟩
          have HPR2 := Lib.hid (HPR.out HFW.out)
          rw [ho, Int.toNat_natCast] at HPR2
          have HAsk : Shut (∀ i, i < (t.length + 1) / 2 → ∀ z, z < t.length → AskOk t i z) := ⟨fun i hi z hz => ⟨HCk.out, hi, hz⟩⟩
          have HIn : Shut (∀ a ∈ res t y, ∃ z : Nat, a = (z : Int) ∧ z < t.length) := ⟨fun a ha => by
            obtain ⟨z, q⟩ := res_at m (show y < 2 * ((t.length + 1) / 2) - 1 by omega) ha
            exact ⟨z, q.is, by have := q.lt; omega⟩⟩
          have HLe : Shut ((res t y).length ≤ 511) := ⟨res_len m (by omega)⟩
          have HMem : Shut (∀ i ∈ memL t, ∃ j : Nat, i = (j : Int) ∧ j < (t.length + 1) / 2 ∧ lk t j = true) := ⟨fun i hi => memL_at HCk.out hi⟩
          have HOn : Shut (∀ j, lk t j = true → (res t y).countP (holdI t j) = if Mth.hasB y j = true then 1 else 0) := ⟨fun j hj => res_once m hj (by omega)⟩
          have HYes : Shut (∀ j, lk t j = true → Mth.hasB y j = true → (res t y).any (holdI t j) = true ∧ mineF t j (res t y) ∈ res t y) := ⟨fun j hj hb => by
            have := once_any_yes m hj (show y < 2 * ((t.length + 1) / 2) - 1 by omega) hb
            exact ⟨this, mine_in this⟩⟩
          have HNo : Shut (∀ j, lk t j = true → Mth.hasB y j = false → (res t y).any (holdI t j) = false) := ⟨fun j hj hb => once_any_no m hj (by omega) hb⟩
          have HUn : Hid (∀ j, j < (t.length + 1) / 2 → ∀ W, Calls Tryd.prog 16 #[.int .i64 (2 * (j : Int)), .int .i64 (y : Int)] W fun e w' => e = .returned (.bool (Mth.hasB y j)) ∧ W = w') := Lib.hid (fun j hj W => by
            have h := runder_any (2 * j) y (by omega) (by omega) W
            rw [Mth.under_leaf m.hn (by omega) (by omega)] at h
            exact h)
          have HN256 : Shut ((t.length + 1) / 2 ≤ 256) := ⟨by omega⟩
          have HI9 : Shut (∀ a ∈ res t y, I64 a) := ⟨fun a ha => by
            obtain ⟨z, q⟩ := res_at m (show y < 2 * ((t.length + 1) / 2) - 1 by omega) ha
            rw [q.is]; have := q.lt
            exact ⟨by omega, by omega⟩⟩
          clear ho HPR m hlen hbd hy hx HC0 HC1
          generalize memL t = ms at *
          generalize (t.length + 1) / 2 = n at *
          generalize hlres : res t y = l at *
          have y0 : (0 : Int) ≤ (y : Int) := by omega
          have y1 : (y : Int) < (t.length : Int) := by omega
          clear h0 h1
          go_wp2_with fail
          (with_reducible refine HC2.out.mono ?_); rintro e w3 ⟨rfl, q3⟩
          have k3 := k2.trans q3
          go_wp2_with fail
          (with_reducible refine (HPR2.out _ k3).mono ?_); rintro e w4 ⟨v4, rfl, o4, q4⟩
          have k4 := k3.trans q4
          have r4 : RdI w4 v4 l := OwnI.rd o4
          clear o4
          obtain ⟨a4, c4, rfl, _, m4, _⟩ := r4.len
          have l63 : ((l.length : Nat) : Int) ≤ 511 := by have := HLe.out; omega
          simp only [er_true]
          go_wp2_with fail
          (with_reducible refine (HMe.out _ k4).mono ?_); rintro e w5 ⟨v5, rfl, o5, q5⟩
          have k5 := k4.trans q5
          have r5 : RdI w5 v5 ms := OwnI.rd o5
          have r4 := r4.kept q5
          clear o5
          obtain ⟨a5, c5, rfl, _, m5, _⟩ := r5.len
          have m63 : ((ms.length : Nat) : Int) ≤ 9223372036854775807 := by unfold maxLen at m5; omega
          go_wp2
          go_loopw [49] (fun c wr => ∃ k : Nat, k ≤ ms.length ∧ c = .int .i64 k ∧ Kept w5 wr) (fun c _ => ms.length - (intOf c).toNat)
          case atStart => exact ⟨0, Nat.zero_le _, rfl, Kept.refl _⟩
          case round =>
            obtain ⟨k, hk0, rfl, hkw⟩ := hrel
            by_cases hlt : k < ms.length
            · obtain ⟨rb, ro, rc, hrv, _, _, hrb, hcl⟩ := r5.addr (by omega)
              simp only [Value.slice.injEq] at hrv
              obtain ⟨rfl, _, rfl⟩ := hrv
              have hcw := (hkw.cell (p := ⟨rb, ro + k, none⟩) hrb).trans (hcl k hlt)
              clear hcl
              obtain ⟨i, hi1, hi2, hi3⟩ := HMem.out _ (getD_memI hlt)
              rw [hi1] at hcw
              have HLk := Shut.mk hi3
              have HI := Shut.mk hi2
              have k0 : (0 : Int) ≤ (k : Int) := by omega
              have k1' : (k : Int) < (ms.length : Int) := by omega
              have i256 : (i : Int) ≤ 256 := by have := HN256.out; omega
              have HLT := Shut.mk hlt
              clear hi1 hi2 hi3 hlt
              go_wp2
              go_loopw [10, 55] (fun q c w2 => ∃ j : Nat, j ≤ l.length ∧ c = .int .i64 j ∧ (∃ z : Int, q = .int .i64 z ∧ z = (((l.take j).countP (holdI t i) : Nat) : Int)) ∧ Kept wr w2) (fun _ c _ => l.length - (intOf c).toNat)
              case atStart => exact ⟨0, Nat.zero_le _, rfl, ⟨0, rfl, by simp⟩, Kept.refl _⟩
              case round =>
                obtain ⟨j, hj0, rfl, ⟨q, rfl, hq⟩, hk2⟩ := hrel
                have r4' := r4.kept (hkw.trans hk2)
                by_cases hlt : j < l.length
                · obtain ⟨sb, so, sc, hsv, _, _, hsb, hcs⟩ := r4'.addr (by omega)
                  simp only [Value.slice.injEq] at hsv
                  obtain ⟨rfl, _, rfl⟩ := hsv
                  have hcw2 := hcs j hlt
                  clear hcs
                  obtain ⟨z, hz1, hz2⟩ := HIn.out _ (getD_memI hlt)
                  have HCt := Shut.mk (count_take (p := holdI t i) hlt)
                  have hhz : holdI t i (l.getD j 0) = holdB t i z := by unfold holdI; rw [hz1, Int.toNat_natCast]
                  rw [hhz] at HCt
                  rw [hz1] at hcw2
                  have HHz := Lib.hid (HHo.out HFW.out i z (HAsk.out i HI.out z hz2) _ (k5.trans (hkw.trans hk2)))
                  have hqb : 0 ≤ q ∧ q ≤ 511 := by
                    have := List.countP_le_length (p := holdI t i) (l := l.take j)
                    rw [List.length_take] at this
                    omega
                  have HQ := Shut.mk hq
                  have j0 : (0 : Int) ≤ (j : Int) := by omega
                  have j1 : (j : Int) < (l.length : Int) := by omega
                  obtain ⟨qb0, qb1⟩ := hqb
                  clear hz1 hhz hq
                  cases hh : holdB t i z with
                  | true =>
                    rw [hh] at HHz HCt
                    clear hh
                    go_wp2_with fail
                    (with_reducible refine HHz.out.mono ?_); rintro e w6 ⟨rfl, q6⟩
                    go_wp2
                    go_roundw
                    case rel => exact ⟨j + 1, hlt, by go_num, ⟨q + 1, rfl, by rw [HCt.out, HQ.out]; rfl⟩, hk2.trans q6⟩
                    case measure => simp [intOf]; omega
                  | false =>
                    rw [hh] at HHz HCt
                    clear hh
                    go_wp2_with fail
                    (with_reducible refine HHz.out.mono ?_); rintro e w6 ⟨rfl, q6⟩
                    go_wp2
                    go_roundw
                    case rel => exact ⟨j + 1, hlt, by go_num, ⟨q, rfl, by rw [HCt.out, HQ.out]; rfl⟩, hk2.trans q6⟩
                    case measure => simp [intOf]; omega
                · have e : j = l.length := by omega
                  have hq2 := HOn.out i HLk.out
                  rw [e, List.take_length] at hq
                  have j9 : ¬ (j : Int) < (l.length : Int) := by omega
                  have hwr : IntKind.i64.wrap (2 * (i : Int)) = 2 * (i : Int) := IntWalk.i64_in _ (by omega)
                  have HU := Lib.hid (HUn.out i HI.out)
                  have HM := Lib.hid (HMi.out HFW.out i y (HAsk.out i HI.out y HNode.out) _ (k5.trans (hkw.trans hk2)))
                  rw [hlres] at HM
                  clear e
                  cases hh : Mth.hasB y i with
                  | true =>
                    rw [hh, if_pos rfl] at hq2
                    obtain rfl : q = 1 := by omega
                    obtain ⟨hy1, hy2⟩ := HYes.out i HLk.out hh
                    rw [hy1] at HM
                    have HIn2 := Lib.hid (fun W (k : Kept wr W) => inR_any (r4'.kept k) (HI9.out _ hy2))
                    rw [decide_eq_true hy2] at HIn2
                    rw [hh] at HU
                    clear hh hq hq2 hy1 hy2
                    generalize mineF t i l = mm at *
                    go_wp2_with (go_at_call 16; refine (HU.out _).mono ?_; rintro e w' ⟨rfl, rfl⟩)
                    (with_reducible refine HM.out.mono ?_); rintro e w6 ⟨rfl, q6⟩
                    simp only [cond_true]
                    go_wp2_with fail
                    (with_reducible refine (HIn2.out _ q6).mono ?_); rintro e w7 ⟨rfl, rfl⟩
                    go_wp2
                    go_roundw
                    case rel => exact ⟨k + 1, HLT.out, by go_num, hkw.trans (hk2.trans q6)⟩
                    case measure => have := HLT.out; simp [intOf]; omega
                  | false =>
                    rw [hh, if_neg (by decide)] at hq2
                    obtain rfl : q = 0 := by omega
                    rw [HNo.out i HLk.out hh] at HM
                    rw [hh] at HU
                    clear hh hq hq2
                    go_wp2_with (go_at_call 16; refine (HU.out _).mono ?_; rintro e w' ⟨rfl, rfl⟩)
                    (with_reducible refine HM.out.mono ?_); rintro e w6 ⟨rfl, q6⟩
                    simp only [cond_false]
                    go_wp2
                    go_roundw
                    case rel => exact ⟨k + 1, HLT.out, by go_num, hkw.trans (hk2.trans q6)⟩
                    case measure => have := HLT.out; simp [intOf]; omega
            · have k9 : ¬ (k : Int) < (ms.length : Int) := by omega
              go_wp2
              go_ret
              exact ⟨rfl, k5.trans hkw⟩
end Go.Proofs.YtekmdklobejbeaaDoor
end
