/- The document's terms: a term's text. -/
import Derived.Test.YtdhdgbihalfgeaaDoorRefP
import Derived.Test.YtdhdgbihalfgeaaDoorTermJ
import Derived.Test.YtdhdgbihalfgeaaDoorTermR
set_option linter.unusedSimpArgs false
set_option linter.unusedVariables false
namespace Go.Proofs.YtdhdgbihalfgeaaDoor
open Go.RowKit Go.Maps

theorem strB_get (s : List UInt8) (k : Nat) (h : k < (strB s).size) : (strB s)[k] = s.getD k 0 := by
  have h2 : k < s.length := by rwa [strB_size] at h
  rw [List.getD_eq_getElem?_getD, List.getElem?_eq_getElem h2]
  rfl
theorem strB_ext (s : List UInt8) (k : Nat) (h : k < s.length) : (strB s).extract k (k + 1) = strB [s.getD k 0] := by
  apply ByteArray.ext
  rw [ByteArray.data_extract]
  apply Array.toList_inj.1
  rw [Array.toList_extract]
  show List.extract s k (k + 1) = [s.getD k 0]
  rw [List.getD_eq_getElem?_getD, List.getElem?_eq_getElem h]
  simp only [List.extract, Option.getD_some]
  rw [List.drop_eq_getElem_cons h, show k + 1 - k = 0 + 1 by omega, List.take_succ_cons, List.take_zero]
/-- What show tells. -/
def ShowRPost (w : World) (x : List UInt8) (most : Int) (e : Ending) (w' : World) : Prop :=
  ∃ (S : ByteArray) (b : Bool), e = .returned (.tuple #[.string S, .bool b]) ∧ (b = true ↔ (x.length : Int) ≤ most) ∧ (b = true → S = strB x) ∧ Kept w w'
def ShowROk (w0 : World) (p : Value) (ds : List Nd) (t : Nat) : Prop := ∀ (most : Int) (w : World), Kept w0 w → -10 * (100000 - (t : Int)) ≤ most → most ≤ 4000 →
  Calls Tryd.prog 40 #[p, .int .i64 t, .int .i64 most] w (ShowRPost w (shw ds t) most)

theorem showR_post {w w' : World} {S : ByteArray} {X : List UInt8} {most : Int} {b : Bool} (hs : S = strB X) (hb : b = decide ((X.length : Int) ≤ most)) (k : Kept w w') : ShowRPost w X most (.returned (.tuple #[.string S, .bool b])) w' :=
  ⟨S, b, rfl, by rw [hb]; simp, fun _ => hs, k⟩

set_option maxHeartbeats 4000000 in
set_option maxRecDepth 100000 in
theorem showR_ok {F : Nat → Prop} {w0 : World} {p : Value} {ds : List Nd} (h : ArR F w0 p ds) (t : Nat) : t < ds.length → ShowROk w0 p ds t := by
  induction t using Nat.strongRecOn with
  | ind t ih =>
    intro htl most w hk hm0 hm1
    have HH := Shut.mk h
    have hfew := h.few
    have htl' : (t : Int) < (ds.length : Int) := by omega
    have ht0 : (0 : Int) ≤ (t : Int) := by omega
    obtain ⟨pb, mb, nv, rfl, q0, q1, hns⟩ := ArG.nodes h
    obtain ⟨nb, noff, ncap, lvs, rfl, _, _, hnb, hnc, hnl⟩ := hns.addr (by omega)
    obtain ⟨y0, y1, y2, y3⟩ := hnc t htl
    have z := hk.cell (p := ⟨pb, 0, none⟩) (World.block_lt_of_cell? _ _ q0) |>.trans q0
    have z0 := hk.cell (p := ⟨nb, noff + t * 4, none⟩) hnb |>.trans y0
    have z1 := hk.cell (p := ⟨nb, noff + t * 4 + 1, none⟩) hnb |>.trans y1
    have z2 := hk.cell (p := ⟨nb, noff + t * 4 + 2, none⟩) hnb |>.trans y2
    have z3 := hk.cell (p := ⟨nb, noff + t * 4 + 3, none⟩) hnb |>.trans y3
    have hlr := (hnl t htl).kept hk
    have hmay := h.good.may' htl
    have hless := h.good.lesser htl
    have heq := shw_eq h.good (t := (t : Int)) (by omega) (by omega)
    rw [Int.toNat_natCast] at heq
    have hok : NdOk (ds.getD t nd0) := h.oks _ (by rw [List.getD_eq_getElem?_getD, List.getElem?_eq_getElem htl]; exact List.getElem_mem _)
    have HE := Shut.mk heq
    clear y0 y1 y2 y3 hnc heq h hns hnl
    generalize ds.getD t nd0 = d at z0 z1 z2 z3 hlr hmay hless HE hok
    obtain ⟨op, n, s, l⟩ := d
    simp only at z0 z1 z2 z3 hlr hless
    obtain ⟨la, lc, hlv, l1, l2, l3⟩ := hlr.len
    rw [hlv] at z3 hlr
    clear hlv
    have hn64 := hok.n
    simp only at hn64
    have hil := itoa_len hok.n
    simp only at hil
    have k1 : Kept w (w.alloc (.cells #[.int .i64 op, .int .i64 n, .string (strB s), .slice la l.length lc] 31)) := (Kept.refl w).alloc _
    by_cases c1 : op = 1
    · subst c1
      have hd := itoaR n (by have := hmay.n0; simpa using this) hn64.2
      have hone : shw ds (t : Int) = 35 :: Lib.itoa n := by rw [HE.out]; unfold one; rw [if_pos rfl]
      rw [hone]
      clear hone HE
      have es := strB_size (Lib.itoa n)
      have e35 : (⟨#[35]⟩ : ByteArray) ++ strB (Lib.itoa n) = strB (35 :: Lib.itoa n) := by
        have : (⟨#[35]⟩ : ByteArray) = strB [35] := rfl
        rw [this, strB_app]; rfl
      have E35 := Shut.mk e35
      clear e35
      have hlen : ((35 :: Lib.itoa n).length : Int) = (1 + (strB (Lib.itoa n)).size : Nat) := by rw [es]; simp; omega
      have HL := Shut.mk hlen
      clear hlen
      have es2 : (strB (Lib.itoa n)).size ≤ 21 := by omega
      clear es
      generalize strB (Lib.itoa n) = A at hd E35 es2 HL
      generalize 35 :: Lib.itoa n = X at E35 HL ⊢
      go_enter Tryd.func40, Tryd.ntmps40
      go_wp2_with (go_at_call 47; refine (hd _).mono ?_; rintro e w' ⟨rfl, m, rfl⟩)
      go_ret2
      exact showR_post E35.out (decide_eq_decide.2 (by rw [HL.out]; omega)) (k1.drewN _)
    by_cases c2 : op = 2
    · subst c2
      have hone : shw ds (t : Int) = 34 :: (esc s ++ [34]) := by rw [HE.out]; unfold one; rw [if_neg (by simp), if_pos rfl]
      rw [hone]
      clear hone HE
      have hs2 := hmay.s0
      simp only at hs2
      have es := strB_size s
      generalize hS : strB s = S at *
      have HS := Shut.mk hS
      clear hS
      have s63 : (s.length : Int) ≤ 9223372036854775807 := by omega
      go_enter Tryd.func40, Tryd.ntmps40
      go_wp2
      have cb := Blk.new w [.int .i64 2, .int .i64 n, .string S, .slice la l.length lc] 31
      have x2 := cb.cell 2
      simp only [List.getElem?_cons_succ, List.getElem?_cons_zero] at x2
      go_loop [9, 10] (fun b i => ∃ k : Nat, k ≤ s.length ∧ i = .int .i64 k ∧ b = .string (strB (34 :: esc (s.take k)))) (fun _ i => s.length - (intOf i).toNat)
      case atStart => exact ⟨0, Nat.zero_le _, rfl, by simp [esc]; rfl⟩
      case round =>
        obtain ⟨k, hk0, rfl, rfl⟩ := hrel
        have hel := esc_len (s.take k)
        rw [List.length_take] at hel
        have hZ : (strB (34 :: esc (s.take k))).size ≤ 500 := by rw [strB_size]; simp; omega
        generalize hZe : strB (34 :: esc (s.take k)) = Z at hZ
        have HZ := Shut.mk hZe
        clear hZe
        by_cases hlt : k < s.length
        · have hkS : k < S.size := by omega
          have hx : S.extract k (k + 1) = strB [s.getD k 0] := by rw [← HS.out]; exact strB_ext s k hlt
          have hg : (S[k]'hkS).toNat = (s.getD k 0).toNat := by
            have := strB_get s k (by rw [HS.out]; exact hkS)
            simp only [HS.out] at this
            rw [this]
          have hstep : esc (s.take (k + 1)) = esc (s.take k) ++ (if s.getD k 0 = 34 ∨ s.getD k 0 = 92 then [92, s.getD k 0] else [s.getD k 0]) := by
            rw [List.take_succ_eq_append_getElem hlt, esc_snoc, List.getD_eq_getElem?_getD, List.getElem?_eq_getElem hlt]; rfl
          have hxs : (S.extract k (k + 1)).size ≤ 1 := by rw [hx, strB_size]; simp
          generalize s.getD k 0 = c at hx hg hstep
          have hcases : ((((S[k]'hkS).toNat : Int) == 34) = true ∧ (c = 34 ∨ c = 92)) ∨ ((((S[k]'hkS).toNat : Int) == 34) = false ∧ (((S[k]'hkS).toNat : Int) == 92) = true ∧ (c = 34 ∨ c = 92)) ∨ ((((S[k]'hkS).toNat : Int) == 34) = false ∧ (((S[k]'hkS).toNat : Int) == 92) = false ∧ ¬ (c = 34 ∨ c = 92)) := by
            rw [hg]
            have q1 := u8_eq_lit c 34 (by decide)
            have q2 := u8_eq_lit c 92 (by decide)
            by_cases c1 : (c.toNat : Int) = 34
            · exact .inl ⟨by simpa using c1, .inl (q1.1 c1)⟩
            · by_cases c2 : (c.toNat : Int) = 92
              · exact .inr (.inl ⟨by simpa using c1, by simpa using c2, .inr (q2.1 c2)⟩)
              · exact .inr (.inr ⟨by simpa using c1, by simpa using c2, fun h => h.elim (fun e => c1 (q1.2 e)) (fun e => c2 (q2.2 e))⟩)
          have HX := Shut.mk hx
          have HST := Shut.mk hstep
          clear hx hg hstep hel
          rcases hcases with ⟨d1, hcc⟩ | ⟨d1, d2, hcc⟩ | ⟨d1, d2, hcc⟩
          · have hst := HST.out
            rw [if_pos hcc] at hst
            have H2 := Shut.mk hst
            clear hst HST hcc
            go_wp2
            go_round
            case rel => exact ⟨k + 1, hlt, rfl, by rw [H2.out, HX.out, ← HZ.out, show (⟨#[92]⟩ : ByteArray) = strB [92] from rfl, strB_app, strB_app]; simp⟩
            case measure => simp [intOf]; omega
          · have hst := HST.out
            rw [if_pos hcc] at hst
            have H2 := Shut.mk hst
            clear hst HST hcc
            go_wp2
            go_round
            case rel => exact ⟨k + 1, hlt, rfl, by rw [H2.out, HX.out, ← HZ.out, show (⟨#[92]⟩ : ByteArray) = strB [92] from rfl, strB_app, strB_app]; simp⟩
            case measure => simp [intOf]; omega
          · have hst := HST.out
            rw [if_neg hcc] at hst
            have H2 := Shut.mk hst
            clear hst HST hcc
            go_wp2
            go_round
            case rel => exact ⟨k + 1, hlt, rfl, by rw [H2.out, HX.out, ← HZ.out, strB_app]; simp⟩
            case measure => simp [intOf]; omega
        · obtain rfl : k = s.length := by omega
          have hzl : (Z.size : Int) + 1 = ((34 :: (esc s ++ [34])).length : Int) := by rw [← HZ.out, strB_size, List.take_length]; simp
          have hzz : Z ++ ⟨#[34]⟩ = strB (34 :: (esc s ++ [34])) := by rw [← HZ.out, show (⟨#[34]⟩ : ByteArray) = strB [34] from rfl, strB_app, List.take_length]; simp
          have HZL := Shut.mk hzl
          have HZZ := Shut.mk hzz
          clear hzl hzz HZ
          go_wp2
          go_ret2
          exact showR_post HZZ.out (decide_eq_decide.2 (by rw [← HZL.out])) k1
    have hm1' := hmay.op1
    have hm12 := hmay.op12
    simp only at hm1' hm12
    obtain ⟨o, rfl⟩ := Int.eq_ofNat_of_zero_le (show 0 ≤ op by omega)
    have hone : shw ds (t : Int) = kName o ++ 40 :: (joinC (l.map (shw ds)) ++ [41]) := by rw [HE.out]; unfold one; rw [if_neg c1, if_neg c2]
    have HO := Shut.mk hone
    have hl64 := hmay.len64
    simp only at hl64
    have l63 : ((l.length : Nat) : Int) ≤ 9223372036854775807 := by omega
    have d1 : ((o : Int) == 1) = false := ne_beq c1
    have d2 : ((o : Int) == 2) = false := ne_beq c2
    have o13 : (o : Int) < 13 := by omega
    have o00 : (0 : Int) ≤ (o : Int) := by omega
    have hnm : ([.string ⟨#[]⟩, .string ⟨#[]⟩, .string ⟨#[]⟩, .string ⟨#[108, 105, 115, 116]⟩, .string ⟨#[104, 97, 115, 104]⟩, .string ⟨#[109, 105, 120]⟩, .string ⟨#[107, 101, 121]⟩, .string ⟨#[112, 117, 98]⟩, .string ⟨#[115, 101, 97, 108]⟩, .string ⟨#[101, 110, 99]⟩, .string ⟨#[115, 105, 103]⟩, .string ⟨#[109, 97, 99]⟩, .string ⟨#[98, 108, 105, 110, 100]⟩] : List Value)[o]? = some (.string (strB (kName o))) := by
      rcases op_cases hm1' hm12 with e | e | e | e | e | e | e | e | e | e | e | e <;> (obtain rfl := Int.ofNat_inj.1 (e.trans rfl : (o : Int) = ((_ : Nat) : Int)); rfl)
    have hks : (strB (kName o)).size ≤ 5 := by rw [strB_size]; exact kName_len o
    have hN0 : strB (kName o) ++ ⟨#[40]⟩ = strB (kName o ++ [40]) := strB_app _ _
    have HN0 := Shut.mk hN0
    clear hone HE c1 c2 hN0
    generalize hNM : strB (kName o) = NM at hnm hks HN0
    have HNM := Shut.mk hNM
    clear hNM
    have k2 : Kept w ((w.alloc (.cells #[.int .i64 o, .int .i64 n, .string (strB s), .slice la l.length lc] 31)).alloc (.cells #[.string ⟨#[]⟩, .string ⟨#[]⟩, .string ⟨#[]⟩, .string ⟨#[108, 105, 115, 116]⟩, .string ⟨#[104, 97, 115, 104]⟩, .string ⟨#[109, 105, 120]⟩, .string ⟨#[107, 101, 121]⟩, .string ⟨#[112, 117, 98]⟩, .string ⟨#[115, 101, 97, 108]⟩, .string ⟨#[101, 110, 99]⟩, .string ⟨#[115, 105, 103]⟩, .string ⟨#[109, 97, 99]⟩, .string ⟨#[98, 108, 105, 110, 100]⟩] 9)) := k1.alloc _
    go_enter Tryd.func40, Tryd.ntmps40
    go_wp2
    go_loopw [9, 33] (fun b i wr => ∃ k : Nat, k ≤ l.length ∧ i = .int .i64 k ∧ b = .string (strB (kName o ++ 40 :: joinC ((l.take k).map (shw ds)))) ∧ Shut ((k = 0 ∨ ((kName o ++ 40 :: joinC ((l.take k).map (shw ds))).length : Int) ≤ most)) ∧ Kept w wr) (fun _ i _ => l.length - (intOf i).toNat)
    case atStart => exact ⟨0, Nat.zero_le _, rfl, by rw [HN0.out]; rfl, ⟨.inl rfl⟩, k2⟩
    case round =>
      obtain ⟨k, hk0, rfl, rfl, hlen, hkr⟩ := hrel
      have hkn := kName_len o
      by_cases hlt : k < l.length
      · obtain ⟨rb, ro, rc, hrv, _, _, hrb, hcell⟩ := hlr.addr (by omega)
        simp only [Value.slice.injEq] at hrv
        obtain ⟨rfl, hdrop, rfl⟩ := hrv
        clear hdrop
        have hcw : wr.cell? ⟨rb, ro + k, none⟩ = some (.int .i64 (l.getD k 0)) := hkr.cell (p := ⟨rb, ro + k, none⟩) hrb |>.trans (hcell k hlt)
        clear hcell
        have hxb := hless (l.getD k 0) (mem_getD hlt)
        have hstep := joinC_step l (shw ds) hlt
        have htot : (joinC ((l.take (k + 1)).map (shw ds))).length ≤ (joinC (l.map (shw ds))).length := by
          have := joinC_take_le (l.map (shw ds)) (k + 1)
          rwa [← List.map_take] at this
        have HTOT := Shut.mk htot
        have HST := Shut.mk hstep
        clear hstep htot
        generalize l.getD k 0 = x at hcw hxb HST
        obtain ⟨y, rfl⟩ := Int.eq_ofNat_of_zero_le hxb.1
        have hih : ∀ (most' : Int) (W : World), Kept w0 W → -10 * (100000 - (y : Int)) ≤ most' → most' ≤ 4000 → Calls Tryd.prog 40 #[.pointer (some ⟨pb, 0, none⟩), .int .i64 y, .int .i64 most'] W (ShowRPost W (shw ds y) most') := ih y (by omega) (by omega)
        have HIH := Shut.mk hih
        clear hih
        have hy : (y : Int) < (t : Int) := hxb.2
        generalize shw ds (y : Int) = X at HIH HST
        have hzl : (strB (kName o ++ 40 :: joinC ((l.take k).map (shw ds)))).size = (kName o ++ 40 :: joinC ((l.take k).map (shw ds))).length := strB_size _
        have hcur : ((strB (kName o ++ 40 :: joinC ((l.take k).map (shw ds)))).size : Int) ≤ 4000 := by
          rcases hlen.out with rfl | h
          · rw [hzl]; simp [joinC]; omega
          · rw [hzl]; omega
        have hcur2 : (k = 0 ∧ (strB (kName o ++ 40 :: joinC ((l.take k).map (shw ds)))).size ≤ 6) ∨ (0 < k ∧ ((strB (kName o ++ 40 :: joinC ((l.take k).map (shw ds)))).size : Int) ≤ most) := by
          rcases hlen.out with rfl | h
          · exact .inl ⟨rfl, by rw [hzl]; simp [joinC]; omega⟩
          · by_cases c : k = 0
            · subst c; exact .inl ⟨rfl, by rw [hzl]; simp [joinC]; omega⟩
            · exact .inr ⟨by omega, by rw [hzl]; exact h⟩
        generalize hcu : kName o ++ 40 :: joinC ((l.take k).map (shw ds)) = cur at hzl hcur hcur2
        have HCU := Shut.mk hcu
        have HZL := Shut.mk hzl
        clear hcu hzl hlen
        generalize hZ : strB cur = Z at hcur hcur2 HZL
        have HZ := Shut.mk hZ
        clear hZ
        by_cases hk1 : k = 0
        · have hk2 : ¬ (0 : Int) < (k : Int) := by omega
          have hz6 : Z.size ≤ 6 := by omega
          have HNEW : Shut (kName o ++ 40 :: joinC ((l.take (k + 1)).map (shw ds)) = cur ++ X) := ⟨by rw [HST.out, ← HCU.out, if_pos hk1]; simp⟩
          clear hcur2 hk1
          go_wp2_with fail
          refine (HIH.out _ _ (hk.trans hkr) (by omega) (by omega)).mono ?_
          rintro e w3 ⟨S', b, rfl, hb1, hb2, k3⟩
          cases b with
          | true =>
            have hxl := hb1.1 rfl
            obtain rfl := hb2 rfl
            have hxs := strB_size X
            have HXS : Shut ((strB X).size = X.length) := ⟨hxs⟩
            have hxs4 : (strB X).size ≤ 5000 := by rw [hxs]; omega
            clear hxs hb1 hb2
            go_wp2
            go_roundw
            case rel => exact ⟨k + 1, hlt, rfl, by rw [HNEW.out, ← HZ.out, strB_app], ⟨.inr (by rw [HNEW.out]; simp only [List.length_append, List.length_cons, List.length_nil, Int.natCast_add]; have := HZL.out; omega)⟩, hkr.trans k3⟩
            case measure => simp [intOf]; omega
          | false =>
            have hxl : ¬ ((X.length : Int) ≤ _) := fun h => by have := hb1.2 h; cases this
            go_wp2
            go_ret2
            refine ⟨_, false, rfl, ⟨(fun h => by cases h), fun h => ?_⟩, (fun h => by cases h), hkr.trans k3⟩
            exfalso
            rw [HO.out] at h
            have h1 := HTOT.out
            have h2 := congrArg List.length HNEW.out
            simp only [List.length_append, List.length_cons, List.length_nil] at h1 h2 h
            have h3 := HZL.out
            omega
        · have hk2 : (0 : Int) < (k : Int) := by omega
          have hzm : (Z.size : Int) ≤ most := by omega
          have HNEW : Shut (kName o ++ 40 :: joinC ((l.take (k + 1)).map (shw ds)) = cur ++ [44] ++ X) := ⟨by rw [HST.out, ← HCU.out, if_neg hk1]; simp⟩
          clear hcur2 hk1
          go_wp2_with fail
          refine (HIH.out _ _ (hk.trans hkr) (by omega) (by omega)).mono ?_
          rintro e w3 ⟨S', b, rfl, hb1, hb2, k3⟩
          cases b with
          | true =>
            have hxl := hb1.1 rfl
            obtain rfl := hb2 rfl
            have hxs := strB_size X
            have HXS : Shut ((strB X).size = X.length) := ⟨hxs⟩
            have hxs4 : (strB X).size ≤ 5000 := by rw [hxs]; omega
            clear hxs hb1 hb2
            go_wp2
            go_roundw
            case rel => exact ⟨k + 1, hlt, rfl, by rw [HNEW.out, ← HZ.out, show (⟨#[44]⟩ : ByteArray) = strB [44] from rfl, strB_app, strB_app], ⟨.inr (by rw [HNEW.out]; simp only [List.length_append, List.length_cons, List.length_nil, Int.natCast_add]; have := HZL.out; omega)⟩, hkr.trans k3⟩
            case measure => simp [intOf]; omega
          | false =>
            have hxl : ¬ ((X.length : Int) ≤ _) := fun h => by have := hb1.2 h; cases this
            go_wp2
            go_ret2
            refine ⟨_, false, rfl, ⟨(fun h => by cases h), fun h => ?_⟩, (fun h => by cases h), hkr.trans k3⟩
            exfalso
            rw [HO.out] at h
            have h1 := HTOT.out
            have h2 := congrArg List.length HNEW.out
            simp only [List.length_append, List.length_cons, List.length_nil] at h1 h2 h
            have h3 := HZL.out
            omega
      · obtain rfl : k = l.length := by omega
        have hzl : (strB (kName o ++ 40 :: joinC ((l.take l.length).map (shw ds)))).size = (kName o ++ 40 :: joinC ((l.take l.length).map (shw ds))).length := strB_size _
        have hcur : ((strB (kName o ++ 40 :: joinC ((l.take l.length).map (shw ds)))).size : Int) ≤ 4000 := by
          rcases hlen.out with h | h
          · rw [hzl, h]; simp [joinC]; omega
          · rw [hzl]; omega
        have HEQ : Shut (shw ds (t : Int) = (kName o ++ 40 :: joinC ((l.take l.length).map (shw ds))) ++ [41]) := ⟨by rw [HO.out, List.take_length]; simp⟩
        generalize kName o ++ 40 :: joinC ((l.take l.length).map (shw ds)) = cur at hzl hcur HEQ
        have HZL := Shut.mk hzl
        clear hzl hlen
        generalize hZ : strB cur = Z at hcur HZL
        have HZ := Shut.mk hZ
        clear hZ
        go_wp2
        go_ret2
        exact showR_post (by rw [HEQ.out, ← HZ.out, show (⟨#[41]⟩ : ByteArray) = strB [41] from rfl, strB_app]) (decide_eq_decide.2 (by rw [HEQ.out, List.length_append, ← HZL.out]; simp)) hkr
end Go.Proofs.YtdhdgbihalfgeaaDoor
