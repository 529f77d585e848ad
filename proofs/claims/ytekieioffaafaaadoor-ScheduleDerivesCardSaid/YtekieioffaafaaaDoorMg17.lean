/- Texts of one proof, put together: ScG, ScI. -/
import Derived.Test.YtekieioffaafaaaDoorMg16
import Derived.Test.YtekieioffaafaaaDoorMg05
import Derived.Deep.Cut
import Derived.Deep.RegionHeld3
import Derived.StillTailTactics
section
/- The document's schedule: Of, bad, Expand, Derive of what may not be; Psk, Joiner, Inner. -/
set_option linter.unusedSimpArgs false
set_option linter.unusedVariables false
namespace Go.Proofs.YtekieioffaafaaaDoor
open Go.RowKit Go.Maps

theorem AtR.ptr {w0 : World} {S : Nat → Prop} {w : World} {p : Value} {ds : List Nd} (h : AtR w0 S w p ds) : ∃ pb, p = .pointer (some ⟨pb, 0, none⟩) := by
  obtain ⟨F, hF, _⟩ := h.ar
  obtain ⟨pb, mb, nv, rfl, _, _, _⟩ := ArG.nodes hF
  exact ⟨pb, rfl⟩
/-- What a call leaves that tells an error: no more than n terms were made. -/
def RNo (w0 : World) (S : Nat → Prop) (w : World) (p : Value) (ds : List Nd) (n : Nat) (e : Ending) (w' : World) : Prop :=
  ∃ r : List Nd, e = .returned (.tuple #[.int .i64 0, .int .i64 1]) ∧ AtR w0 S w' p (ds ++ r) ∧ r.length ≤ n ∧ Keep S w w'
set_option maxHeartbeats 4000000 in
set_option maxRecDepth 100000 in
theorem ofR_any {w0 : World} {S : Nat → Prop} {w : World} {p v : Value} {ds : List Nd} {op : Int} {l : List Int} (h : AtR w0 S w p ds) (hr : RdI w v l) (hop : I64 op) (hok : ∀ x ∈ l, I64 x) :
    Calls Tryd.prog 42 #[p, .int .i64 op, v] w (MkPostR w0 S w p (mk ds ⟨op, 0, [], l⟩)) := by
  have HM := Lib.hid (makeAR h (v := .agg #[.int .i64 op, .int .i64 0, .string (strB []), v]) (d := ⟨op, 0, [], l⟩) ⟨_, rfl, hr⟩ ⟨hop, ⟨by simp, by simp⟩, by simp, hok⟩)
  rw [show strB [] = ⟨#[]⟩ from rfl] at HM
  obtain ⟨va, vc, rfl, _, _, _⟩ := hr.len
  obtain ⟨pb, rfl⟩ := h.ptr
  generalize mk ds ⟨op, 0, [], l⟩ = m at HM ⊢
  clear h hr hok
  go_enter Tryd.func42, Tryd.ntmps42
  go_wp2_with fail
  (with_reducible refine HM.out.mono ?_); rintro e w2 ⟨rfl, a2, t2⟩
  go_wp2
  go_ret2
  exact ⟨rfl, a2, t2⟩
theorem mixR_ok {w0 : World} {S : Nat → Prop} {w : World} {p v : Value} {ds : List Nd} {a b : Int} {A B : Tr} (h : AtR w0 S w p ds) (hr : RdI w v [a, b]) (ha : Den A ds a) (hb : Den B ds b) (hl : ds.length < 100000) :
    Calls Tryd.prog 42 #[p, .int .i64 5, v] w (RMk w0 S w p ds 1 (Den (mixT A B))) :=
  (ofR_ok h hr (may2 (.inl rfl) ha.1 hb.1) hl).mono fun e w' ⟨r, t, he, ar, hl, hi, hk⟩ => ⟨r, t, he, ar, hl, den_mix ar.good hi (ha.more r) (hb.more r), hk⟩
theorem pubR_ok {w0 : World} {S : Nat → Prop} {w : World} {p v : Value} {ds : List Nd} {a : Int} {A : Tr} (h : AtR w0 S w p ds) (hr : RdI w v [a]) (ha : Den A ds a) (hl : ds.length < 100000) :
    Calls Tryd.prog 42 #[p, .int .i64 7, v] w (RMk w0 S w p ds 1 (Den (pubT A))) :=
  (ofR_ok h hr (may1 (.inr rfl) ha.1) hl).mono fun e w' ⟨r, t, he, ar, hl, hi, hk⟩ => ⟨r, t, he, ar, hl, den_pub ar.good hi (ha.more r), hk⟩
theorem not_terms {ds : List Nd} {l : List Int} (h : termsB ds l = false) : ¬ ∀ x ∈ l, IsT ds x := fun k => by rw [terms_of k] at h; cases h
theorem mixR_no {w0 : World} {S : Nat → Prop} {w : World} {p v : Value} {ds : List Nd} {a b : Int} (h : AtR w0 S w p ds) (hr : RdI w v [a, b]) (ia : I64 a) (ib : I64 b) (hb : termsB ds [a, b] = false) :
    Calls Tryd.prog 42 #[p, .int .i64 5, v] w (RNo w0 S w p ds 0) := by
  have hm : mk ds ⟨5, 0, [], [a, b]⟩ = (ds, 0, 1) := mk_bad (fun h => not_terms hb (fun x hx => h.all x hx))
  refine (ofR_any h hr (i64_lit (by simp)) (fun x hx => by
    simp only [List.mem_cons, List.not_mem_nil, or_false] at hx
    rcases hx with rfl | rfl
    · exact ia
    · exact ib)).mono fun e w' q => ?_
  rw [hm] at q
  exact ⟨[], q.1, by rw [List.append_nil]; exact q.2.1, Nat.zero_le _, q.2.2⟩
set_option maxHeartbeats 4000000 in
set_option maxRecDepth 100000 in
theorem badR_any {w0 : World} {S : Nat → Prop} {w : World} {p v : Value} {ds : List Nd} {l : List Int} (ha : AtR w0 S w p ds) (hr : RdI w v l) :
    Calls Tryd.prog 66 #[p, v] w fun e w' => e = .returned (.bool (!termsB ds l)) ∧ w = w' := by
  obtain ⟨F, h, _⟩ := ha.ar
  have hfew := h.few
  have HLen := Lib.hid (lenR h)
  obtain ⟨la, lc, rfl, l1, l2, l3⟩ := hr.len
  obtain ⟨qb, qm, nv, rfl, _, _, _⟩ := ArG.nodes h
  have l63 : ((l.length : Nat) : Int) ≤ 9223372036854775807 := by unfold maxLen at l2; omega
  clear h ha
  go_enter Tryd.func66, Tryd.ntmps66
  go_wp2
  go_loop [9] (fun i => ∃ k : Nat, (k ≤ l.length ∧ ∀ j, j < k → IsT ds (l.getD j 0)) ∧ i = .int .i64 k) (fun i => l.length - (intOf i).toNat)
  case atStart => exact ⟨0, ⟨Nat.zero_le _, fun j hj => absurd hj (Nat.not_lt_zero _)⟩, rfl⟩
  case round =>
    obtain ⟨k, ⟨hk0, hall⟩, rfl⟩ := hrel
    have HALL := Shut.mk hall
    clear hall
    by_cases hlt : k < l.length
    · obtain ⟨rb, ro, rc, hrv, _, _, hrb, hcell⟩ := hr.addr (by omega)
      simp only [Value.slice.injEq] at hrv
      obtain ⟨rfl, hdrop, rfl⟩ := hrv
      clear hdrop
      have x1 := hcell k hlt
      clear hcell
      generalize hx : l.getD k 0 = x at x1
      have HX := Shut.mk hx
      clear hx
      by_cases hT : 0 ≤ x ∧ x < (ds.length : Int)
      · have t0 := hT.1
        have t1 := hT.2
        have b0 : decide (x < 0) = false := decide_eq_false (by omega)
        have b1 : decide (x ≥ (ds.length : Int)) = false := decide_eq_false (by omega)
        have b2 : decide ((ds.length : Int) ≤ x) = false := decide_eq_false (by omega)
        have HT := Shut.mk hT
        clear hT
        go_wp2_with fail
        (with_reducible refine HLen.out.mono ?_); rintro e w1 ⟨rfl, rfl⟩
        go_wp2
        go_round
        case rel => exact ⟨k + 1, ⟨hlt, fun j hj => by
          by_cases c : j < k
          · exact HALL.out j c
          · obtain rfl : j = k := by omega
            rw [HX.out]; exact HT.out⟩, rfl⟩
        case measure => simp [intOf]; omega
      · have HF := Shut.mk (terms_not hlt (by rw [HX.out]; exact hT))
        by_cases t0 : x < 0
        · clear hT
          go_wp2
          go_ret
          exact ⟨by rw [HF.out]; rfl, rfl⟩
        · have t1 : (ds.length : Int) ≤ x := by omega
          have b0 : decide (x < 0) = false := decide_eq_false t0
          have b1 : decide (x ≥ (ds.length : Int)) = true := decide_eq_true t1
          have b2 : decide ((ds.length : Int) ≤ x) = true := decide_eq_true t1
          clear hT
          go_wp2_with fail
          (with_reducible refine HLen.out.mono ?_); rintro e w1 ⟨rfl, rfl⟩
          go_wp2
          go_ret
          exact ⟨by rw [HF.out]; rfl, rfl⟩
    · obtain rfl : k = l.length := by omega
      have HT := Shut.mk (terms_take HALL.out)
      go_wp2
      go_ret
      exact ⟨by rw [HT.out]; rfl, rfl⟩
set_option maxHeartbeats 4000000 in
set_option maxRecDepth 100000 in
theorem expandR_no {w0 : World} {S : Nat → Prop} {w : World} {p : Value} {ds : List Nd} {s c : Int} (h : AtR w0 S w p ds) (x : List UInt8) (hb : termsB ds [s, c] = false) :
    Calls Tryd.prog 38 #[p, .int .i64 s, .string (strB x), .int .i64 c] w fun e w' => e = .returned (.tuple #[.int .i64 0, .int .i64 1]) ∧ Kept w w' := by
  have k1 : Kept w (w.alloc (.cells #[.int .i64 s, .int .i64 c] 3)) := (Kept.refl w).alloc _
  have HB := Lib.hid (badR_any (h.step k1) (RdI.sl2 w s c))
  rw [hb] at HB
  obtain ⟨pb, rfl⟩ := h.ptr
  clear h hb
  generalize strB x = X
  go_enter Tryd.func38, Tryd.ntmps38
  go_wp2_with fail
  (with_reducible refine HB.out.mono ?_); rintro e wx ⟨rfl, rfl⟩
  go_wp2
  go_ret2
  exact ⟨rfl, k1⟩
set_option maxHeartbeats 4000000 in
set_option maxRecDepth 100000 in
theorem textR_long {w0 : World} {S : Nat → Prop} {w : World} {p : Value} {ds : List Nd} (h : AtR w0 S w p ds) (s : List UInt8) (hs : 200 < s.length) (hm : s.length ≤ maxLen) :
    Calls Tryd.prog 62 #[p, .string (strB s)] w (RNo w0 S w p ds 0) := by
  have HM := Lib.hid (makeAR h (v := .agg #[.int .i64 2, .int .i64 0, .string (strB s), .slice none 0 0]) (d := ⟨2, 0, s, []⟩) ⟨_, rfl, RdI.nil _⟩ ⟨⟨by simp, by simp⟩, ⟨by simp, by simp⟩, hm, fun x hx => by cases hx⟩)
  rw [mk_long hs] at HM
  obtain ⟨pb, rfl⟩ := h.ptr
  clear h
  generalize strB s = X at HM ⊢
  go_enter Tryd.func62, Tryd.ntmps62
  go_wp2_with fail
  (with_reducible refine HM.out.mono ?_); rintro e w2 ⟨rfl, a2, t2⟩
  go_wp2
  go_ret2
  exact ⟨[], rfl, by rw [List.append_nil]; exact a2, Nat.zero_le _, t2⟩
set_option maxHeartbeats 4000000 in
set_option maxRecDepth 100000 in
theorem expandR_long {w0 : World} {S : Nat → Prop} {w : World} {p : Value} {ds : List Nd} {s c : Int} (h : AtR w0 S w p ds) (hs : IsT ds s) (hc : IsT ds c) (x : List UInt8) (hx : 200 < x.length) (hm : x.length ≤ maxLen) :
    Calls Tryd.prog 38 #[p, .int .i64 s, .string (strB x), .int .i64 c] w (RNo w0 S w p ds 0) := by
  have k1 : Kept w (w.alloc (.cells #[.int .i64 s, .int .i64 c] 3)) := (Kept.refl w).alloc _
  have HB := Lib.hid (badR_any (h.step k1) (RdI.sl2 w s c))
  rw [terms2 hs hc] at HB
  have HT := Lib.hid (textR_long (h.step k1) x hx hm)
  obtain ⟨pb, rfl⟩ := h.ptr
  clear h
  generalize strB x = X at HT ⊢
  go_enter Tryd.func38, Tryd.ntmps38
  go_wp2_with fail
  (with_reducible refine HB.out.mono ?_); rintro e wx ⟨rfl, rfl⟩
  go_wp2_with fail
  (with_reducible refine HT.out.mono ?_); rintro e w2 ⟨r, rfl, a2, hr, t2⟩
  go_wp2
  go_ret2
  exact ⟨r, rfl, a2, hr, (k1.keep S).trans t2⟩
set_option maxHeartbeats 4000000 in
set_option maxRecDepth 100000 in
theorem deriveR_long {w0 : World} {S : Nat → Prop} {w : World} {p : Value} {ds : List Nd} {s : Int} (h : AtR w0 S w p ds) (hs : IsT ds s) (x : List UInt8) (hx : 200 < x.length) (hm : x.length ≤ maxLen) (hl : ds.length < 100000) :
    Calls Tryd.prog 37 #[p, .int .i64 s, .string (strB x)] w (RNo w0 S w p ds 1) := by
  have k1 : Kept w (w.alloc (.cells #[.int .i64 s] 3)) := (Kept.refl w).alloc _
  have HB := Lib.hid (badR_any (h.step k1) (RdI.sl1 w s))
  rw [terms_of (l := [s]) (fun y hy => by rw [List.mem_singleton.1 hy]; exact hs)] at HB
  have HT := Lib.hid (listAR_ok (h.step k1) (RdI.nil _) (by simp) (fun y hy => by cases hy) hl)
  have HX := Lib.hid (fun (r2 : List Nd) (w2 : World) (t : Int) (a2 : AtR w0 S w2 p (ds ++ r2)) (hQ : Is (ds ++ r2) t ⟨3, 0, [], []⟩) => expandR_long a2 (hs.more r2) hQ.isT x hx hm)
  obtain ⟨pb, rfl⟩ := h.ptr
  clear h
  generalize strB x = X at HX ⊢
  go_enter Tryd.func37, Tryd.ntmps37
  go_wp2_with fail
  (with_reducible refine HB.out.mono ?_); rintro e wx ⟨rfl, rfl⟩
  go_wp2_with fail
  (with_reducible refine HT.out.mono ?_); rintro e w2 ⟨r2, t, rfl, a2, hr2, hQ2, t2⟩
  have HX2 := Lib.hid (HX.out r2 w2 t a2 hQ2)
  clear HT HB HX a2 hQ2
  go_wp2_with fail
  (with_reducible refine HX2.out.mono ?_); rintro e w4 ⟨r4, rfl, a4, hr4, t4⟩
  go_wp2
  go_ret2
  exact ⟨r2 ++ r4, rfl, by rw [← List.append_assoc]; exact a4, by rw [List.length_append]; omega, ((k1.keep S).trans t2).trans t4⟩

/-- What is no term stays none. -/
def Stays (ds : List Nd) (x : Int) : Prop := ∀ r : List Nd, (ds ++ r).length ≤ 100000 → IsT (ds ++ r) x → IsT ds x
theorem Stays.more {ds : List Nd} {x : Int} (h : Stays ds x) (r : List Nd) : Stays (ds ++ r) x := fun s hs k => by
  rw [List.append_assoc] at hs k
  exact (h _ hs k).more r
theorem RdI.pre2 {w : World} {g o c n : Nat} {us : List Int} (h : RdI w (.slice (some ⟨g, o, none⟩) n c) us) (k : Nat) (hk : k ≤ us.length) : RdI w (.slice (some ⟨g, o, none⟩) k c) (us.take k) := by
  obtain ⟨a, cap, hv, hl, hc, hm, hno, hcell⟩ := h
  simp only [Value.slice.injEq] at hv
  obtain ⟨rfl, _, rfl⟩ := hv
  have hlen : (us.take k).length = k := by rw [List.length_take]; omega
  unfold RdI
  rw [hlen]
  refine ⟨_, _, rfl, by simp [hlen]; omega, by omega, hm, hno, fun ad had j u hj => hcell ad had j u ?_⟩
  have hjk : j < k := by
    have := (List.getElem?_eq_some_iff.1 hj).1
    simp at this; omega
  rw [← hj]
  simp [List.getElem?_take, hjk]
theorem Keep.rdk {S : Nat → Prop} {w w' : World} {v : Value} {l : List Int} (h : RdK S w v l) (k : Keep S w w') : RdK S w' v l := h.keep k
theorem denL_last {L : List Tr} {ds : List Nd} {l : List Int} {m : Nat} (h : DenL L ds l) (hm : l.length = m + 1) : DenL (L.take m) ds (l.take m) ∧ Den (L.getD m tr0) ds (l.getD m 0) ∧ pskT L = mixT (pskT (L.take m)) (L.getD m tr0) := by
  have hl : L.length = m + 1 := by rw [← h.2, List.length_map, hm]
  refine ⟨⟨fun x hx => h.1 x (List.mem_of_mem_take hx), by rw [List.map_take, h.2]⟩, ⟨?_, ?_⟩, ?_⟩
  · rw [List.getD_eq_getElem?_getD, List.getElem?_eq_getElem (by omega)]
    exact h.1 _ (List.getElem_mem _)
  · rw [← h.2]
    simp only [List.getD_eq_getElem?_getD, List.getElem?_map, List.getElem?_eq_getElem (show m < l.length by omega), Option.map_some, Option.getD_some]
  · have e : L = L.take m ++ [L[m]] := by
      rw [← List.take_succ_eq_append_getElem (by omega), List.take_of_length_le (by omega)]
    conv => lhs; rw [e]
    rw [pskT_snoc, List.getD_eq_getElem?_getD, List.getElem?_eq_getElem (by omega)]
    rfl
set_option maxHeartbeats 8000000 in
set_option maxRecDepth 100000 in
theorem RPsk_ok : ∀ (m : Nat) {w0 : World} {S : Nat → Prop} {w : World} {p v : Value} {ds : List Nd} {l : List Int} {L : List Tr} (h : AtR w0 S w p ds) (hk : RdK S w v l) (hL : DenL L ds l) (hm : l.length = m) (hl : ds.length + m + 1 < 100000),
    Calls Tryd.prog 32 #[p, v] w (RMk w0 S w p ds (m + 1) (Den (pskT L))) := by
  intro m
  induction m with
  | zero =>
    intro w0 S w p v ds l L h hk hL hm hl
    obtain ⟨va, vc, rfl, _, _, _⟩ := hk.rd.len
    obtain rfl : l = [] := List.length_eq_zero_iff.1 hm
    obtain rfl : L = [] := by
      have := hL.2
      simpa using this.symm
    have HT := Lib.hid (textAR_ok h [] (by simp) (by omega))
    rw [show strB [] = ⟨#[]⟩ from rfl] at HT
    obtain ⟨pb, rfl⟩ := h.ptr
    simp only [List.length_nil]
    clear h hk hL hm
    go_enter Tryd.func32, Tryd.ntmps32
    go_wp2_with fail
    (with_reducible refine HT.out.mono ?_); rintro e w2 ⟨r, t, rfl, a2, hr, hQ, t2⟩
    go_wp2
    go_ret2
    exact ⟨r, t, rfl, a2, by omega, den_text a2.good hQ, t2⟩
  | succ m ih =>
    intro w0 S w p v ds l L h hk hL hm hl
    obtain ⟨rb, ro, rc, rfl, hcp, hcm, hrb, hcl⟩ := hk.rd.addr (by omega)
    obtain ⟨hL1, hx, hps⟩ := denL_last hL hm
    have hk1 : RdK S w (.slice (some ⟨rb, ro, none⟩) m rc) (l.take m) := fun W k => (hk W k).pre2 m (by omega)
    have HI := Lib.hid (ih h hk1 hL1 (by rw [List.length_take]; omega) (by omega))
    have HPS := Shut.mk hps
    have HX := Shut.mk hx
    have HCL := Shut.mk (show ∀ W, Keep S w W → W.cell? ⟨rb, ro + m, none⟩ = some (.int .i64 (l.getD m 0)) from fun W k => by
      obtain ⟨rb2, ro2, rc2, hrv, _, _, _, hcl2⟩ := (hk W k).addr (by omega)
      simp only [Value.slice.injEq, Option.some.injEq, Addr.mk.injEq, and_true] at hrv
      obtain ⟨⟨rfl, rfl⟩, _, _⟩ := hrv
      exact hcl2 m (by omega))
    have HO := Lib.hid (fun W (r : List Nd) (t : Int) (v2 : Value) (a : AtR w0 S W p (ds ++ r)) (hr : r.length ≤ m + 1) (d : Den (pskT (L.take m)) (ds ++ r) t) (hv : RdI W v2 [t, l.getD m 0]) => mixR_ok a hv d (hx.more r) (by rw [List.length_append]; omega))
    obtain ⟨pb, rfl⟩ := h.ptr
    have m0 : (0 : Int) ≤ (m : Int) := by omega
    have m63 : ((l.length : Nat) : Int) ≤ 9223372036854775807 := by unfold maxLen at hcm; omega
    have hne : ((l.length : Int) == 0) = false := beq_eq_false_iff_ne.2 (by omega)
    have hsub : (l.length : Int) - 1 = (m : Int) := by omega
    have hrc : (m : Int) ≤ (rc : Int) := by omega
    have hmn : (m : Int) < (l.length : Int) := by omega
    have HM := Shut.mk hm
    clear hcl hk1 hL1 hps hx hL h ih hk hcp hcm hrb hm
    generalize l.getD m 0 = x at *
    generalize L.getD m tr0 = X at *
    generalize l.length = n at *
    go_enter Tryd.func32, Tryd.ntmps32
    go_wp2_with fail
    (with_reducible refine HI.out.mono ?_); rintro e w2 ⟨r, t, rfl, a2, hr, d2, k2⟩
    have y0 := HCL.out w2 k2
    have ks : Kept w2 (w2.alloc (.cells #[.int .i64 t, .int .i64 x] 3)) := (Kept.refl w2).alloc _
    have HX2 := Lib.hid (HO.out _ r t _ (a2.step ks) hr d2 (RdI.sl2 w2 t x))
    have K2 := Lib.hid (k2.trans (ks.keep S))
    clear HI HO HCL a2 d2 k2 ks
    go_wp2_with fail
    generalize w2.alloc (.cells #[.int .i64 t, .int .i64 x] 3) = w3 at *
    (with_reducible refine HX2.out.mono ?_); rintro e w4 ⟨r4, u, rfl, a4, hr4, d4, k4⟩
    go_wp2
    go_ret2
    exact ⟨r ++ r4, u, rfl, by rw [← List.append_assoc]; exact a4, by rw [List.length_append]; omega, by rw [← List.append_assoc, HPS.out]; exact d4, K2.out.trans k4⟩
theorem terms_last {ds : List Nd} {l : List Int} {m : Nat} (hm : l.length = m + 1) : termsB ds l = (termsB ds (l.take m) && decide (IsT ds (l.getD m 0))) := by
  have e : l = l.take m ++ [l.getD m 0] := by
    rw [List.getD_eq_getElem?_getD, List.getElem?_eq_getElem (show m < l.length by omega), Option.getD_some, ← List.take_succ_eq_append_getElem (by omega), List.take_of_length_le (by omega)]
  conv => lhs; rw [e]
  unfold termsB
  rw [List.all_append]
  simp
set_option maxHeartbeats 8000000 in
set_option maxRecDepth 100000 in
theorem RPsk_no : ∀ (m : Nat) {w0 : World} {S : Nat → Prop} {w : World} {p v : Value} {ds : List Nd} {l : List Int} (h : AtR w0 S w p ds) (hk : RdK S w v l) (hb : termsB ds l = false) (hst : ∀ x ∈ l, Stays ds x) (hok : ∀ x ∈ l, I64 x) (hm : l.length = m) (hl : ds.length + m + 1 < 100000),
    Calls Tryd.prog 32 #[p, v] w (RNo w0 S w p ds (m + 1)) := by
  intro m
  induction m with
  | zero =>
    intro w0 S w p v ds l h hk hb hst hok hm hl
    obtain rfl : l = [] := List.length_eq_zero_iff.1 hm
    cases hb
  | succ m ih =>
    intro w0 S w p v ds l h hk hb hst hok hm hl
    obtain ⟨rb, ro, rc, rfl, hcp, hcm, hrb, hcl⟩ := hk.rd.addr (by omega)
    have hk1 : RdK S w (.slice (some ⟨rb, ro, none⟩) m rc) (l.take m) := fun W k => (hk W k).pre2 m (by omega)
    have hlast := terms_last (ds := ds) hm
    rw [hb] at hlast
    have HCL := Shut.mk (show ∀ W, Keep S w W → W.cell? ⟨rb, ro + m, none⟩ = some (.int .i64 (l.getD m 0)) from fun W k => by
      obtain ⟨rb2, ro2, rc2, hrv, _, _, _, hcl2⟩ := (hk W k).addr (by omega)
      simp only [Value.slice.injEq, Option.some.injEq, Addr.mk.injEq, and_true] at hrv
      obtain ⟨⟨rfl, rfl⟩, _, _⟩ := hrv
      exact hcl2 m (by omega))
    have hmem : l.getD m 0 ∈ l := by
      rw [List.getD_eq_getElem?_getD, List.getElem?_eq_getElem (show m < l.length by omega)]
      exact List.getElem_mem _
    obtain ⟨pb, rfl⟩ := h.ptr
    have m0 : (0 : Int) ≤ (m : Int) := by omega
    have m63 : ((l.length : Nat) : Int) ≤ 9223372036854775807 := by unfold maxLen at hcm; omega
    have hne : ((l.length : Int) == 0) = false := beq_eq_false_iff_ne.2 (by omega)
    have hsub : (l.length : Int) - 1 = (m : Int) := by omega
    have hrc : (m : Int) ≤ (rc : Int) := by omega
    have hmn : (m : Int) < (l.length : Int) := by omega
    cases hc : termsB ds (l.take m) with
    | false =>
      have HI := Lib.hid (ih h hk1 hc (fun x hx => hst x (List.mem_of_mem_take hx)) (fun x hx => hok x (List.mem_of_mem_take hx)) (by rw [List.length_take]; omega) (by omega))
      clear hcl hk1 h ih hk hcp hcm hrb hm HCL hlast hb hst hok hmem hc
      generalize l.length = n at *
      go_enter Tryd.func32, Tryd.ntmps32
      go_wp2_with fail
      (with_reducible refine HI.out.mono ?_); rintro e w2 ⟨r, rfl, a2, hr, k2⟩
      go_wp2
      go_ret2
      exact ⟨r, rfl, a2, by omega, k2⟩
    | true =>
      have hxn : ¬ IsT ds (l.getD m 0) := by
        rw [hc, Bool.true_and] at hlast
        exact of_decide_eq_false hlast.symm
      have hL1 : DenL ((l.take m).map (den ds)) ds (l.take m) := denL_self fun x hx => of_decide_eq_true (List.all_eq_true.1 hc x hx)
      have HI := Lib.hid (RPsk_ok m h hk1 hL1 (by rw [List.length_take]; omega) (by omega))
      have HO := Lib.hid (fun W (r : List Nd) (t : Int) (v2 : Value) (a : AtR w0 S W (.pointer (some ⟨pb, 0, none⟩)) (ds ++ r)) (it : I64 t) (hv : RdI W v2 [t, l.getD m 0]) => mixR_no a hv it (hok _ hmem) (terms_not (j := 1) (by simp) (fun k => hxn (hst _ hmem r a.few k))))
      clear hcl hk1 h ih hk hcp hcm hrb hm hlast hb hst hok hmem hc hL1 hxn
      generalize l.getD m 0 = x at *
      generalize (l.take m).map (den ds) = L at *
      generalize l.length = n at *
      go_enter Tryd.func32, Tryd.ntmps32
      go_wp2_with fail
      (with_reducible refine HI.out.mono ?_); rintro e w2 ⟨r, t, rfl, a2, hr, d2, k2⟩
      have y0 := HCL.out w2 k2
      have ks : Kept w2 (w2.alloc (.cells #[.int .i64 t, .int .i64 x] 3)) := (Kept.refl w2).alloc _
      have HX2 := Lib.hid (HO.out _ r t _ (a2.step ks) (d2.1.i64' a2.few) (RdI.sl2 w2 t x))
      have K2 := Lib.hid (k2.trans (ks.keep S))
      clear HI HO HCL a2 d2 k2 ks
      go_wp2_with fail
      generalize w2.alloc (.cells #[.int .i64 t, .int .i64 x] 3) = w3 at *
      (with_reducible refine HX2.out.mono ?_); rintro e w4 ⟨r4, rfl, a4, hr4, k4⟩
      go_wp2
      go_ret2
      exact ⟨r ++ r4, rfl, by rw [← List.append_assoc]; exact a4, by rw [List.length_append]; omega, K2.out.trans k4⟩

set_option maxHeartbeats 4000000 in
set_option maxRecDepth 100000 in
theorem RJoiner_ok {w0 : World} {S : Nat → Prop} {w : World} {p : Value} {ds : List Nd} {i c x : Int} {I C X : Tr} (h : AtR w0 S w p ds) (hi : Den I ds i) (hc : Den C ds c) (hx : Den X ds x) (hl : ds.length + 3 < 100000) :
    Calls Tryd.prog 19 #[p, .int .i64 i, .int .i64 c, .int .i64 x] w (RMk w0 S w p ds 3 (Den (joinT I C X))) := by
  have k1 : Kept w (w.alloc (.cells #[.int .i64 i, .int .i64 c] 3)) := (Kept.refl w).alloc _
  have HM := Lib.hid (mixR_ok (h.step k1) (RdI.sl2 w i c) hi hc (by omega))
  have HE := Lib.hid (fun W (r : List Nd) (t : Int) (a : AtR w0 S W p (ds ++ r)) (hr : r.length ≤ 1) (d : Den (mixT I C) (ds ++ r) t) => expandR_ok a d (hx.more r) joinerS (by decide) (by rw [List.length_append]; omega))
  rw [show strB joinerS = ⟨#[106, 111, 105, 110, 101, 114]⟩ from rfl] at HE
  obtain ⟨pb, rfl⟩ := h.ptr
  clear h hi hc hx
  go_enter Tryd.func19, Tryd.ntmps19
  go_wp2_with fail
  (with_reducible refine HM.out.mono ?_); rintro e w2 ⟨r2, t2, rfl, a2, hr2, d2, k2⟩
  have HX := Lib.hid (HE.out w2 r2 t2 a2 hr2 d2)
  clear HM HE a2 d2
  go_wp2_with fail
  (with_reducible refine HX.out.mono ?_); rintro e w3 ⟨r3, t3, rfl, a3, hr3, d3, k3⟩
  go_wp2
  go_ret2
  exact ⟨r2 ++ r3, t3, rfl, by rw [← List.append_assoc]; exact a3, by rw [List.length_append]; omega, by rw [← List.append_assoc]; exact d3, ((k1.keep S).trans k2).trans k3⟩
set_option maxHeartbeats 4000000 in
set_option maxRecDepth 100000 in
theorem RJoiner_no {w0 : World} {S : Nat → Prop} {w : World} {p : Value} {ds : List Nd} {i c x : Int} (h : AtR w0 S w p ds) (ii : I64 i) (ic : I64 c) (hst : Stays ds x) (hb : termsB ds [i, c, x] = false) (hl : ds.length + 3 < 100000) :
    Calls Tryd.prog 19 #[p, .int .i64 i, .int .i64 c, .int .i64 x] w (RNo w0 S w p ds 3) := by
  have k1 : Kept w (w.alloc (.cells #[.int .i64 i, .int .i64 c] 3)) := (Kept.refl w).alloc _
  cases hc : termsB ds [i, c] with
  | false =>
    have HM := Lib.hid (mixR_no (h.step k1) (RdI.sl2 w i c) ii ic hc)
    obtain ⟨pb, rfl⟩ := h.ptr
    clear h hst hb hc
    go_enter Tryd.func19, Tryd.ntmps19
    go_wp2_with fail
    (with_reducible refine HM.out.mono ?_); rintro e w2 ⟨r2, rfl, a2, hr2, k2⟩
    go_wp2
    go_ret2
    exact ⟨r2, rfl, a2, by omega, (k1.keep S).trans k2⟩
  | true =>
    have hi : IsT ds i := of_decide_eq_true (List.all_eq_true.1 hc i (by simp))
    have hcc : IsT ds c := of_decide_eq_true (List.all_eq_true.1 hc c (by simp))
    have hx : ¬ IsT ds x := fun k => by rw [terms3 hi hcc k] at hb; cases hb
    have HM := Lib.hid (mixR_ok (h.step k1) (RdI.sl2 w i c) (den_self hi) (den_self hcc) (by omega))
    have HE := Lib.hid (fun W (r : List Nd) (t : Int) (a : AtR w0 S W p (ds ++ r)) => expandR_no a (s := t) (c := x) joinerS (terms_not (j := 1) (by simp) (fun k => hx (hst r a.few k))))
    rw [show strB joinerS = ⟨#[106, 111, 105, 110, 101, 114]⟩ from rfl] at HE
    obtain ⟨pb, rfl⟩ := h.ptr
    clear h hst hb hc hi hcc hx
    go_enter Tryd.func19, Tryd.ntmps19
    go_wp2_with fail
    (with_reducible refine HM.out.mono ?_); rintro e w2 ⟨r2, t2, rfl, a2, hr2, d2, k2⟩
    have HX := Lib.hid (HE.out w2 r2 t2 a2)
    have A2 := Lib.hid a2
    clear HM HE a2 d2
    go_wp2_with fail
    (with_reducible refine HX.out.mono ?_); rintro e w3 ⟨rfl, k3⟩
    go_wp2
    go_ret2
    exact ⟨r2, rfl, A2.out.step k3, by omega, ((k1.keep S).trans k2).trans (k3.keep S)⟩
end Go.Proofs.YtekieioffaafaaaDoor
end

section
/- The document's Begin (written by gen_sci.py). -/
set_option linter.unusedSimpArgs false
set_option linter.unusedVariables false
namespace Go.Proofs.YtekieioffaafaaaDoor
open Go.RowKit Go.Maps

theorem AtR.plusE {w0 : World} {S : Nat → Prop} {w w' : World} {p : Value} {ds : List Nd} (h : AtR w0 S w p ds) (k : Kept w w') : AtR w0 (PlusE S w w') w' p ds :=
  h.more k (fun b hb => by
    rcases hb with hb | hb
    · exact ⟨.inl hb, Nat.lt_of_lt_of_le (h.old b hb) k.size⟩
    · exact ⟨.inr hb.1, hb.2⟩) (fun b hb => .inl (h.base b hb))
/-- Begin's memory: blocks that stay (K), the epoch's sb with x, external's box xb with t, the result's rb; since w only blocks that are not of S have turned. -/
structure Bq (w0 : World) (S : Nat → Prop) (w : World) (T : Nat → Prop) (W : World) (sb xb rb : Nat) (K : List (Nat × TypeId × List Value)) (p : Value) (ds : List Nd) (x : List Value) (t : Int) : Prop where
  arena : AtR w0 T W p ds
  con : ∀ k ∈ K, Blk W k.1 k.2.1 k.2.2 ∧ T k.1 ∧ k.1 ≠ sb ∧ k.1 ≠ xb
  ep : Blk W sb 30 x
  ext : Blk W xb 3 [.int .i64 t]
  res : Blk W rb 30 [.int .i64 0, .int .i64 0, .int .i64 0, .int .i64 0, .int .i64 0, .int .i64 0, .int .i64 0, .int .i64 0, .int .i64 0, .int .i64 0, .int .i64 0]
  sT : T sb
  xT : T xb
  rT : T rb
  ne : rb ≠ sb ∧ rb ≠ xb ∧ sb ≠ xb
  sub : ∀ b, S b → T b
  new : ¬ S sb ∧ ¬ S xb
  sW : w0.heap.size ≤ sb ∧ w0.heap.size ≤ xb
  keep : Keep S w W
theorem Bq.step {w0 : World} {S : Nat → Prop} {w : World} {T : Nat → Prop} {W W' : World} {sb xb rb : Nat} {K : List (Nat × TypeId × List Value)} {p : Value} {ds : List Nd} {x : List Value} {t : Int} (h : Bq w0 S w T W sb xb rb K p ds x t) (k : Kept W W') : Bq w0 S w T W' sb xb rb K p ds x t :=
  ⟨h.arena.step k, fun c hc => ⟨(h.con c hc).1.kept k, (h.con c hc).2⟩, h.ep.kept k, h.ext.kept k, h.res.kept k, h.sT, h.xT, h.rT, h.ne, h.sub, h.new, h.sW, h.keep.kept k⟩
theorem Bq.call {w0 : World} {S : Nat → Prop} {w : World} {T : Nat → Prop} {W W' : World} {sb xb rb : Nat} {K : List (Nat × TypeId × List Value)} {p : Value} {ds es : List Nd} {x : List Value} {t : Int} (h : Bq w0 S w T W sb xb rb K p ds x t) (a : AtR w0 T W' p es) (k : Keep T W W') : Bq w0 S w T W' sb xb rb K p es x t :=
  ⟨a, fun c hc => ⟨k.blk (h.con c hc).1 (h.con c hc).2.1, (h.con c hc).2⟩, k.blk h.ep h.sT, k.blk h.ext h.xT, k.blk h.res h.rT, h.sT, h.xT, h.rT, h.ne, h.sub, h.new, h.sW, Turn.trans h.keep k (fun b q => .inl (fun d => q (h.sub b d)))⟩
theorem Bq.set {w0 : World} {S : Nat → Prop} {w : World} {T : Nat → Prop} {W : World} {sb xb rb : Nat} {K : List (Nat × TypeId × List Value)} {p : Value} {ds : List Nd} {x : List Value} {t : Int} (h : Bq w0 S w T W sb xb rb K p ds x t) (i : Nat) (v : Value) : Bq w0 S w T (W.setCell ⟨sb, i, none⟩ v) sb xb rb K p ds (x.set i v) t := by
  have k := turn_setCell W ⟨sb, i, none⟩ v
  exact ⟨h.arena.turn k (fun b e => by cases e; exact ⟨h.sT, h.sW.1⟩), fun c hc => ⟨(h.con c hc).1.turn k (fun e => (h.con c hc).2.2.1 e), (h.con c hc).2⟩, h.ep.set i v, h.ext.turn k (fun e => h.ne.2.2 e.symm), h.res.turn k (fun e => h.ne.1 e), h.sT, h.xT, h.rT, h.ne, h.sub, h.new, h.sW, Turn.trans h.keep k (fun b e => .inl (fun d => h.new.1 (by cases e; exact d)))⟩
theorem Bq.setX {w0 : World} {S : Nat → Prop} {w : World} {T : Nat → Prop} {W : World} {sb xb rb : Nat} {K : List (Nat × TypeId × List Value)} {p : Value} {ds : List Nd} {x : List Value} {t : Int} (h : Bq w0 S w T W sb xb rb K p ds x t) (u : Int) : Bq w0 S w T (W.setCell ⟨xb, 0, none⟩ (.int .i64 u)) sb xb rb K p ds x u := by
  have k := turn_setCell W ⟨xb, 0, none⟩ (.int .i64 u)
  exact ⟨h.arena.turn k (fun b e => by cases e; exact ⟨h.xT, h.sW.2⟩), fun c hc => ⟨(h.con c hc).1.turn k (fun e => (h.con c hc).2.2.2 e), (h.con c hc).2⟩, h.ep.turn k (fun e => h.ne.2.2 e), h.ext.set 0 (.int .i64 u), h.res.turn k (fun e => h.ne.2.1 e), h.sT, h.xT, h.rT, h.ne, h.sub, h.new, h.sW, Turn.trans h.keep k (fun b e => .inl (fun d => h.new.2 (by cases e; exact d)))⟩
/-- What a call leaves that derives an epoch. -/
def ERk (w0 : World) (S : Nat → Prop) (w : World) (p : Value) (ds : List Nd) (n : Nat) (Q : List Nd → Ep → Prop) (e : Ending) (w' : World) : Prop :=
  ∃ (r : List Nd) (x : Ep), e = .returned (.tuple #[epV x, .int .i64 0]) ∧ AtR w0 S w' p (ds ++ r) ∧ r.length ≤ n ∧ Q (ds ++ r) x ∧ Keep S w w'
def ERn (w0 : World) (S : Nat → Prop) (w : World) (p : Value) (ds : List Nd) (n : Nat) (e : Ending) (w' : World) : Prop :=
  ∃ r : List Nd, e = .returned (.tuple #[epV ep0, .int .i64 1]) ∧ AtR w0 S w' p (ds ++ r) ∧ r.length ≤ n ∧ Keep S w w'
/-- The epoch's fields, some of them laid. -/
def epF (j a b : Int) (ts : List Int) : List Value := [.int .i64 j, .int .i64 a, .int .i64 b, .int .i64 (ts.getD 0 0), .int .i64 (ts.getD 1 0), .int .i64 (ts.getD 2 0), .int .i64 (ts.getD 3 0), .int .i64 (ts.getD 4 0), .int .i64 (ts.getD 5 0), .int .i64 0, .int .i64 (ts.getD 6 0)]
def labR : List (List UInt8) := [senderS, encryptionS, exporterS, confirmS, membershipS, resumptionS, initS, externalS]

set_option maxHeartbeats 32000000 in
set_option maxRecDepth 100000 in
theorem RBegin_ok {w0 : World} {S : Nat → Prop} {w : World} {p : Value} {ds : List Nd} {j q c : Int} {J P C : Tr} (h : AtR w0 S w p ds) (hj : Den J ds j) (hq : Den P ds q) (hc : Den C ds c) (hl : ds.length + 40 < 100000) :
    Calls Tryd.prog 21 #[p, .int .i64 j, .int .i64 q, .int .i64 c] w (ERk w0 S w p ds 40 (EpD J P C)) := by
  have k1 : Kept w ((w.alloc (.cells #[.int .i64 0, .int .i64 0, .int .i64 0, .int .i64 0, .int .i64 0, .int .i64 0, .int .i64 0, .int .i64 0, .int .i64 0, .int .i64 0, .int .i64 0] 30)).alloc (.cells #[.int .i64 j, .int .i64 q] 3)) := ((Kept.refl w).alloc _).alloc _
  have b0 := (Blk.new w [.int .i64 0, .int .i64 0, .int .i64 0, .int .i64 0, .int .i64 0, .int .i64 0, .int .i64 0, .int .i64 0, .int .i64 0, .int .i64 0, .int .i64 0] 30).kept ((Kept.refl _).alloc (.cells #[.int .i64 j, .int .i64 q] 3))
  have hs := RdI.sl2 (w.alloc (.cells #[.int .i64 0, .int .i64 0, .int .i64 0, .int .i64 0, .int .i64 0, .int .i64 0, .int .i64 0, .int .i64 0, .int .i64 0, .int .i64 0, .int .i64 0] 30)) j q
  simp only [World.size_alloc] at hs
  have HM := Lib.hid (mixR_ok (h.plusE k1) hs hj hq (by omega))
  have HF := Shut.mk (show (∀ b, S b → PlusE S w ((w.alloc (.cells #[.int .i64 0, .int .i64 0, .int .i64 0, .int .i64 0, .int .i64 0, .int .i64 0, .int .i64 0, .int .i64 0, .int .i64 0, .int .i64 0, .int .i64 0] 30)).alloc (.cells #[.int .i64 j, .int .i64 q] 3)) b) ∧ PlusE S w ((w.alloc (.cells #[.int .i64 0, .int .i64 0, .int .i64 0, .int .i64 0, .int .i64 0, .int .i64 0, .int .i64 0, .int .i64 0, .int .i64 0, .int .i64 0, .int .i64 0] 30)).alloc (.cells #[.int .i64 j, .int .i64 q] 3)) w.heap.size ∧ ¬ S w.heap.size ∧ (∀ b, S b → b < w.heap.size) ∧ (∀ b, b < w0.heap.size → S b) ∧ w0.heap.size ≤ w.heap.size from ⟨fun b q => .inl q, .inr ⟨Nat.le_refl _, b0.lt⟩, fun q => Nat.lt_irrefl _ (h.old _ q), h.old, h.base, h.kept.size⟩)
  have HSZ := Shut.mk (show w.heap.size ≤ ((w.alloc (.cells #[.int .i64 0, .int .i64 0, .int .i64 0, .int .i64 0, .int .i64 0, .int .i64 0, .int .i64 0, .int .i64 0, .int .i64 0, .int .i64 0, .int .i64 0] 30)).alloc (.cells #[.int .i64 j, .int .i64 q] 3)).heap.size by simp only [World.size_alloc]; omega)
  obtain ⟨pb, rfl⟩ := h.ptr
  have HDj := Shut.mk hj
  have HDc := Shut.mk hc
  have HB0 := Lib.hid b0
  have HK1 := Lib.hid k1
  clear h hs b0 k1 hj hq hc
  go_enter Tryd.func21, Tryd.ntmps21
  go_wp2_with fail
  generalize PlusE S w ((w.alloc (.cells #[.int .i64 0, .int .i64 0, .int .i64 0, .int .i64 0, .int .i64 0, .int .i64 0, .int .i64 0, .int .i64 0, .int .i64 0, .int .i64 0, .int .i64 0] 30)).alloc (.cells #[.int .i64 j, .int .i64 q] 3)) = T at *
  generalize ((w.alloc (.cells #[.int .i64 0, .int .i64 0, .int .i64 0, .int .i64 0, .int .i64 0, .int .i64 0, .int .i64 0, .int .i64 0, .int .i64 0, .int .i64 0, .int .i64 0] 30)).alloc (.cells #[.int .i64 j, .int .i64 q] 3)) = w1 at *
  (with_reducible refine HM.out.mono ?_); rintro e w2 ⟨r2, t2, rfl, a2, hr2, d2, k2⟩
  have k3 : Kept w2 (w2.alloc (.cells #[.int .i64 j, .int .i64 0, .int .i64 0, .int .i64 0, .int .i64 0, .int .i64 0, .int .i64 0, .int .i64 0, .int .i64 0, .int .i64 0, .int .i64 0] 30)) := (Kept.refl w2).alloc _
  have b3 := Blk.new w2 [.int .i64 j, .int .i64 0, .int .i64 0, .int .i64 0, .int .i64 0, .int .i64 0, .int .i64 0, .int .i64 0, .int .i64 0, .int .i64 0, .int .i64 0] 30
  have HX := Lib.hid (deriveR_ok (a2.plusE k3) d2 welcomeS (by decide) (by rw [List.length_append]; omega))
  rw [show strB welcomeS = ⟨#[119, 101, 108, 99, 111, 109, 101]⟩ from rfl] at HX
  have HB3 := Lib.hid b3
  have HR3 := Lib.hid ((k2.blk HB0.out HF.out.2.1).kept k3)
  have HK3 := Lib.hid ((HK1.out.keep S).trans ((k2.down HF.out.1).trans (k3.keep S)))
  have HF3 := Shut.mk (show PlusE T w2 (w2.alloc (.cells #[.int .i64 j, .int .i64 0, .int .i64 0, .int .i64 0, .int .i64 0, .int .i64 0, .int .i64 0, .int .i64 0, .int .i64 0, .int .i64 0, .int .i64 0] 30)) w2.heap.size ∧ PlusE T w2 (w2.alloc (.cells #[.int .i64 j, .int .i64 0, .int .i64 0, .int .i64 0, .int .i64 0, .int .i64 0, .int .i64 0, .int .i64 0, .int .i64 0, .int .i64 0, .int .i64 0] 30)) w.heap.size ∧ (∀ b, S b → PlusE T w2 (w2.alloc (.cells #[.int .i64 j, .int .i64 0, .int .i64 0, .int .i64 0, .int .i64 0, .int .i64 0, .int .i64 0, .int .i64 0, .int .i64 0, .int .i64 0, .int .i64 0] 30)) b) ∧ w.heap.size < w2.heap.size from ⟨.inr ⟨Nat.le_refl _, b3.lt⟩, .inl HF.out.2.1, fun b q => .inl (HF.out.1 b q), a2.old _ HF.out.2.1⟩)
  have D2 := Shut.mk d2
  clear a2 d2 k2 k3 b3 HM HB0 HK1
  go_wp2_with fail
  generalize PlusE T w2 (w2.alloc (.cells #[.int .i64 j, .int .i64 0, .int .i64 0, .int .i64 0, .int .i64 0, .int .i64 0, .int .i64 0, .int .i64 0, .int .i64 0, .int .i64 0, .int .i64 0] 30)) = T3 at *
  generalize (w2.alloc (.cells #[.int .i64 j, .int .i64 0, .int .i64 0, .int .i64 0, .int .i64 0, .int .i64 0, .int .i64 0, .int .i64 0, .int .i64 0, .int .i64 0, .int .i64 0] 30)) = w3 at *
  generalize w2.heap.size = sb at *
  (with_reducible refine HX.out.mono ?_); rintro e w4 ⟨r4, t4, rfl, a4, hr4, d4, k4⟩
  have b4 := k4.blk HB3.out HF3.out.1
  have g4 := b4.cell 1
  have z4 := b4.frozen 1
  simp only [List.getElem?_cons_succ, List.getElem?_cons_zero] at g4
  go_upto_region 6 with fail
  have u4 := turn_setCell w4 ⟨sb, 1, none⟩ (.int .i64 t4)
  have hsb0 : w0.heap.size ≤ sb := by have := HF.out.2.2.2.2.2; have := HF3.out.2.2.2; omega
  have nsb : ¬ S sb := fun q => by have := HF.out.2.2.2.1 _ q; have := HF3.out.2.2.2; omega
  have HA5 := Lib.hid (a4.turn u4 (fun b e => by cases e; exact ⟨HF3.out.1, hsb0⟩))
  have HB5 := Lib.hid (b4.set 1 (.int .i64 t4))
  have HR5 := Lib.hid ((k4.blk HR3.out HF3.out.2.1).turn u4 (fun e => by have e' : w.heap.size = sb := e; have := HF3.out.2.2.2; omega))
  have HK5 := Lib.hid (Turn.trans (HK3.out.trans (k4.down HF3.out.2.2.1)) u4 (fun b e => .inl (fun d => by cases e; exact nsb d)))
  have D4 := Shut.mk d4
  have HN := Shut.mk (And.intro hsb0 nsb)
  generalize w4.setCell ⟨sb, 1, none⟩ (.int .i64 t4) = w5 at *
  clear a4 b4 g4 z4 u4 d4 k4 HX HB3 HR3 HK3 hsb0 nsb
  simp only [List.set_cons_succ, List.set_cons_zero] at HB5
  have HX := Lib.hid (expandR_ok HA5.out (D2.out.more r4) ((HDc.out.more r2).more r4) epochS (by decide) (by simp only [List.length_append]; omega))
  rw [show strB epochS = ⟨#[101, 112, 111, 99, 104]⟩ from rfl] at HX
  go_wp2_with fail
  (with_reducible refine HX.out.mono ?_); rintro e w6 ⟨r6, t6, rfl, a6, hr6, d6, k6⟩
  have b6 := k6.blk HB5.out HF3.out.1
  have g6 := b6.cell 2
  have z6 := b6.frozen 2
  simp only [List.getElem?_cons_succ, List.getElem?_cons_zero] at g6
  go_upto_region 9 with fail
  have u6 := turn_setCell w6 ⟨sb, 2, none⟩ (.int .i64 t6)
  have HA7 := Lib.hid (a6.turn u6 (fun b e => by cases e; exact ⟨HF3.out.1, HN.out.1⟩))
  have HB7 := Lib.hid (b6.set 2 (.int .i64 t6))
  have HR7 := Lib.hid ((k6.blk HR5.out HF3.out.2.1).turn u6 (fun e => by have e' : w.heap.size = sb := e; have := HF3.out.2.2.2; omega))
  have HK7 := Lib.hid (Turn.trans (Keep.trans (show Keep S w w5 from HK5.out) (k6.down HF3.out.2.2.1)) u6 (fun b e => .inl (fun d => by cases e; exact HN.out.2 d)))
  have D6 := Shut.mk d6
  generalize w6.setCell ⟨sb, 2, none⟩ (.int .i64 t6) = w7 at *
  clear a6 b6 g6 z6 u6 d6 k6 HX HB5 HR5 HK5 HA5
  simp only [List.set_cons_succ, List.set_cons_zero] at HB7
  have k8 : Kept w7 (((w7.alloc (.cells #[.int .i64 0] 3)).alloc (.cells #[.string ⟨#[115, 101, 110, 100, 101, 114]⟩, .string ⟨#[101, 110, 99, 114, 121, 112, 116, 105, 111, 110]⟩, .string ⟨#[101, 120, 112, 111, 114, 116, 101, 114]⟩, .string ⟨#[99, 111, 110, 102, 105, 114, 109]⟩, .string ⟨#[109, 101, 109, 98, 101, 114, 115, 104, 105, 112]⟩, .string ⟨#[114, 101, 115, 117, 109, 112, 116, 105, 111, 110]⟩, .string ⟨#[105, 110, 105, 116]⟩, .string ⟨#[101, 120, 116, 101, 114, 110, 97, 108]⟩] 9)).alloc (.cells #[.pointer (some ⟨sb, 3, none⟩), .pointer (some ⟨sb, 4, none⟩), .pointer (some ⟨sb, 5, none⟩), .pointer (some ⟨sb, 6, none⟩), .pointer (some ⟨sb, 7, none⟩), .pointer (some ⟨sb, 8, none⟩), .pointer (some ⟨sb, 10, none⟩), .pointer (some ⟨w7.heap.size, 0, none⟩)] 86)) := (((Kept.refl w7).alloc _).alloc _).alloc _
  have e0 := ((Blk.new w7 [.int .i64 0] 3).kept ((Kept.refl _).alloc (.cells #[.string ⟨#[115, 101, 110, 100, 101, 114]⟩, .string ⟨#[101, 110, 99, 114, 121, 112, 116, 105, 111, 110]⟩, .string ⟨#[101, 120, 112, 111, 114, 116, 101, 114]⟩, .string ⟨#[99, 111, 110, 102, 105, 114, 109]⟩, .string ⟨#[109, 101, 109, 98, 101, 114, 115, 104, 105, 112]⟩, .string ⟨#[114, 101, 115, 117, 109, 112, 116, 105, 111, 110]⟩, .string ⟨#[105, 110, 105, 116]⟩, .string ⟨#[101, 120, 116, 101, 114, 110, 97, 108]⟩] 9))).kept ((Kept.refl _).alloc (.cells #[.pointer (some ⟨sb, 3, none⟩), .pointer (some ⟨sb, 4, none⟩), .pointer (some ⟨sb, 5, none⟩), .pointer (some ⟨sb, 6, none⟩), .pointer (some ⟨sb, 7, none⟩), .pointer (some ⟨sb, 8, none⟩), .pointer (some ⟨sb, 10, none⟩), .pointer (some ⟨w7.heap.size, 0, none⟩)] 86))
  have e1 := (Blk.new (w7.alloc (.cells #[.int .i64 0] 3)) [.string ⟨#[115, 101, 110, 100, 101, 114]⟩, .string ⟨#[101, 110, 99, 114, 121, 112, 116, 105, 111, 110]⟩, .string ⟨#[101, 120, 112, 111, 114, 116, 101, 114]⟩, .string ⟨#[99, 111, 110, 102, 105, 114, 109]⟩, .string ⟨#[109, 101, 109, 98, 101, 114, 115, 104, 105, 112]⟩, .string ⟨#[114, 101, 115, 117, 109, 112, 116, 105, 111, 110]⟩, .string ⟨#[105, 110, 105, 116]⟩, .string ⟨#[101, 120, 116, 101, 114, 110, 97, 108]⟩] 9).kept ((Kept.refl _).alloc (.cells #[.pointer (some ⟨sb, 3, none⟩), .pointer (some ⟨sb, 4, none⟩), .pointer (some ⟨sb, 5, none⟩), .pointer (some ⟨sb, 6, none⟩), .pointer (some ⟨sb, 7, none⟩), .pointer (some ⟨sb, 8, none⟩), .pointer (some ⟨sb, 10, none⟩), .pointer (some ⟨w7.heap.size, 0, none⟩)] 86))
  have e2 := Blk.new ((w7.alloc (.cells #[.int .i64 0] 3)).alloc (.cells #[.string ⟨#[115, 101, 110, 100, 101, 114]⟩, .string ⟨#[101, 110, 99, 114, 121, 112, 116, 105, 111, 110]⟩, .string ⟨#[101, 120, 112, 111, 114, 116, 101, 114]⟩, .string ⟨#[99, 111, 110, 102, 105, 114, 109]⟩, .string ⟨#[109, 101, 109, 98, 101, 114, 115, 104, 105, 112]⟩, .string ⟨#[114, 101, 115, 117, 109, 112, 116, 105, 111, 110]⟩, .string ⟨#[105, 110, 105, 116]⟩, .string ⟨#[101, 120, 116, 101, 114, 110, 97, 108]⟩] 9)) [.pointer (some ⟨sb, 3, none⟩), .pointer (some ⟨sb, 4, none⟩), .pointer (some ⟨sb, 5, none⟩), .pointer (some ⟨sb, 6, none⟩), .pointer (some ⟨sb, 7, none⟩), .pointer (some ⟨sb, 8, none⟩), .pointer (some ⟨sb, 10, none⟩), .pointer (some ⟨w7.heap.size, 0, none⟩)] 86
  simp only [World.size_alloc] at e1 e2
  have HBq := Lib.hid (show Bq w0 S w (PlusE T3 w7 (((w7.alloc (.cells #[.int .i64 0] 3)).alloc (.cells #[.string ⟨#[115, 101, 110, 100, 101, 114]⟩, .string ⟨#[101, 110, 99, 114, 121, 112, 116, 105, 111, 110]⟩, .string ⟨#[101, 120, 112, 111, 114, 116, 101, 114]⟩, .string ⟨#[99, 111, 110, 102, 105, 114, 109]⟩, .string ⟨#[109, 101, 109, 98, 101, 114, 115, 104, 105, 112]⟩, .string ⟨#[114, 101, 115, 117, 109, 112, 116, 105, 111, 110]⟩, .string ⟨#[105, 110, 105, 116]⟩, .string ⟨#[101, 120, 116, 101, 114, 110, 97, 108]⟩] 9)).alloc (.cells #[.pointer (some ⟨sb, 3, none⟩), .pointer (some ⟨sb, 4, none⟩), .pointer (some ⟨sb, 5, none⟩), .pointer (some ⟨sb, 6, none⟩), .pointer (some ⟨sb, 7, none⟩), .pointer (some ⟨sb, 8, none⟩), .pointer (some ⟨sb, 10, none⟩), .pointer (some ⟨w7.heap.size, 0, none⟩)] 86))) (((w7.alloc (.cells #[.int .i64 0] 3)).alloc (.cells #[.string ⟨#[115, 101, 110, 100, 101, 114]⟩, .string ⟨#[101, 110, 99, 114, 121, 112, 116, 105, 111, 110]⟩, .string ⟨#[101, 120, 112, 111, 114, 116, 101, 114]⟩, .string ⟨#[99, 111, 110, 102, 105, 114, 109]⟩, .string ⟨#[109, 101, 109, 98, 101, 114, 115, 104, 105, 112]⟩, .string ⟨#[114, 101, 115, 117, 109, 112, 116, 105, 111, 110]⟩, .string ⟨#[105, 110, 105, 116]⟩, .string ⟨#[101, 120, 116, 101, 114, 110, 97, 108]⟩] 9)).alloc (.cells #[.pointer (some ⟨sb, 3, none⟩), .pointer (some ⟨sb, 4, none⟩), .pointer (some ⟨sb, 5, none⟩), .pointer (some ⟨sb, 6, none⟩), .pointer (some ⟨sb, 7, none⟩), .pointer (some ⟨sb, 8, none⟩), .pointer (some ⟨sb, 10, none⟩), .pointer (some ⟨w7.heap.size, 0, none⟩)] 86)) sb w7.heap.size w.heap.size [(w7.heap.size + 1, 9, [.string ⟨#[115, 101, 110, 100, 101, 114]⟩, .string ⟨#[101, 110, 99, 114, 121, 112, 116, 105, 111, 110]⟩, .string ⟨#[101, 120, 112, 111, 114, 116, 101, 114]⟩, .string ⟨#[99, 111, 110, 102, 105, 114, 109]⟩, .string ⟨#[109, 101, 109, 98, 101, 114, 115, 104, 105, 112]⟩, .string ⟨#[114, 101, 115, 117, 109, 112, 116, 105, 111, 110]⟩, .string ⟨#[105, 110, 105, 116]⟩, .string ⟨#[101, 120, 116, 101, 114, 110, 97, 108]⟩]), (w7.heap.size + 1 + 1, 86, [.pointer (some ⟨sb, 3, none⟩), .pointer (some ⟨sb, 4, none⟩), .pointer (some ⟨sb, 5, none⟩), .pointer (some ⟨sb, 6, none⟩), .pointer (some ⟨sb, 7, none⟩), .pointer (some ⟨sb, 8, none⟩), .pointer (some ⟨sb, 10, none⟩), .pointer (some ⟨w7.heap.size, 0, none⟩)])] (.pointer (some ⟨pb, 0, none⟩)) (ds ++ r2 ++ r4 ++ r6) (epF j t4 t6 []) 0 from by
    have hsz : (((w7.alloc (.cells #[.int .i64 0] 3)).alloc (.cells #[.string ⟨#[115, 101, 110, 100, 101, 114]⟩, .string ⟨#[101, 110, 99, 114, 121, 112, 116, 105, 111, 110]⟩, .string ⟨#[101, 120, 112, 111, 114, 116, 101, 114]⟩, .string ⟨#[99, 111, 110, 102, 105, 114, 109]⟩, .string ⟨#[109, 101, 109, 98, 101, 114, 115, 104, 105, 112]⟩, .string ⟨#[114, 101, 115, 117, 109, 112, 116, 105, 111, 110]⟩, .string ⟨#[105, 110, 105, 116]⟩, .string ⟨#[101, 120, 116, 101, 114, 110, 97, 108]⟩] 9)).alloc (.cells #[.pointer (some ⟨sb, 3, none⟩), .pointer (some ⟨sb, 4, none⟩), .pointer (some ⟨sb, 5, none⟩), .pointer (some ⟨sb, 6, none⟩), .pointer (some ⟨sb, 7, none⟩), .pointer (some ⟨sb, 8, none⟩), .pointer (some ⟨sb, 10, none⟩), .pointer (some ⟨w7.heap.size, 0, none⟩)] 86)).heap.size = w7.heap.size + 3 := by simp only [World.size_alloc]
    have s7 : sb < w7.heap.size := HB7.out.lt
    have r7 := HF3.out.2.2.2
    have hin : ∀ b, w7.heap.size ≤ b → b < w7.heap.size + 3 → PlusE T3 w7 (((w7.alloc (.cells #[.int .i64 0] 3)).alloc (.cells #[.string ⟨#[115, 101, 110, 100, 101, 114]⟩, .string ⟨#[101, 110, 99, 114, 121, 112, 116, 105, 111, 110]⟩, .string ⟨#[101, 120, 112, 111, 114, 116, 101, 114]⟩, .string ⟨#[99, 111, 110, 102, 105, 114, 109]⟩, .string ⟨#[109, 101, 109, 98, 101, 114, 115, 104, 105, 112]⟩, .string ⟨#[114, 101, 115, 117, 109, 112, 116, 105, 111, 110]⟩, .string ⟨#[105, 110, 105, 116]⟩, .string ⟨#[101, 120, 116, 101, 114, 110, 97, 108]⟩] 9)).alloc (.cells #[.pointer (some ⟨sb, 3, none⟩), .pointer (some ⟨sb, 4, none⟩), .pointer (some ⟨sb, 5, none⟩), .pointer (some ⟨sb, 6, none⟩), .pointer (some ⟨sb, 7, none⟩), .pointer (some ⟨sb, 8, none⟩), .pointer (some ⟨sb, 10, none⟩), .pointer (some ⟨w7.heap.size, 0, none⟩)] 86)) b := fun b c d => .inr ⟨c, by rw [hsz]; exact d⟩
    refine ⟨HA7.out.plusE k8, fun k hk => ?_, HB7.out.kept k8, e0, HR7.out.kept k8, .inl HF3.out.1, hin _ (by omega) (by omega), .inl HF3.out.2.1, ⟨by omega, by omega, by omega⟩, fun b q => .inl (HF3.out.2.2.1 b q), ⟨HN.out.2, fun q => by have := HF.out.2.2.2.1 _ q; omega⟩, ⟨HN.out.1, by have := HN.out.1; omega⟩, HK7.out.kept k8⟩
    simp only [List.mem_cons, List.not_mem_nil, or_false] at hk
    rcases hk with rfl | rfl
    · exact ⟨e1, hin _ (by simp only; omega) (by simp only; omega), by simp only; omega, by simp only; omega⟩
    · exact ⟨e2, hin _ (by simp only; omega) (by simp only; omega), by simp only; omega, by simp only; omega⟩)
  clear k8 e0 e1 e2 HA7 HB7 HR7 HK7 HN HF3
  go_wp2
  generalize PlusE T3 w7 (((w7.alloc (.cells #[.int .i64 0] 3)).alloc (.cells #[.string ⟨#[115, 101, 110, 100, 101, 114]⟩, .string ⟨#[101, 110, 99, 114, 121, 112, 116, 105, 111, 110]⟩, .string ⟨#[101, 120, 112, 111, 114, 116, 101, 114]⟩, .string ⟨#[99, 111, 110, 102, 105, 114, 109]⟩, .string ⟨#[109, 101, 109, 98, 101, 114, 115, 104, 105, 112]⟩, .string ⟨#[114, 101, 115, 117, 109, 112, 116, 105, 111, 110]⟩, .string ⟨#[105, 110, 105, 116]⟩, .string ⟨#[101, 120, 116, 101, 114, 110, 97, 108]⟩] 9)).alloc (.cells #[.pointer (some ⟨sb, 3, none⟩), .pointer (some ⟨sb, 4, none⟩), .pointer (some ⟨sb, 5, none⟩), .pointer (some ⟨sb, 6, none⟩), .pointer (some ⟨sb, 7, none⟩), .pointer (some ⟨sb, 8, none⟩), .pointer (some ⟨sb, 10, none⟩), .pointer (some ⟨w7.heap.size, 0, none⟩)] 86)) = T4 at *
  generalize (((w7.alloc (.cells #[.int .i64 0] 3)).alloc (.cells #[.string ⟨#[115, 101, 110, 100, 101, 114]⟩, .string ⟨#[101, 110, 99, 114, 121, 112, 116, 105, 111, 110]⟩, .string ⟨#[101, 120, 112, 111, 114, 116, 101, 114]⟩, .string ⟨#[99, 111, 110, 102, 105, 114, 109]⟩, .string ⟨#[109, 101, 109, 98, 101, 114, 115, 104, 105, 112]⟩, .string ⟨#[114, 101, 115, 117, 109, 112, 116, 105, 111, 110]⟩, .string ⟨#[105, 110, 105, 116]⟩, .string ⟨#[101, 120, 116, 101, 114, 110, 97, 108]⟩] 9)).alloc (.cells #[.pointer (some ⟨sb, 3, none⟩), .pointer (some ⟨sb, 4, none⟩), .pointer (some ⟨sb, 5, none⟩), .pointer (some ⟨sb, 6, none⟩), .pointer (some ⟨sb, 7, none⟩), .pointer (some ⟨sb, 8, none⟩), .pointer (some ⟨sb, 10, none⟩), .pointer (some ⟨w7.heap.size, 0, none⟩)] 86)) = w8 at *
  generalize w7.heap.size = xb at *
  generalize hK0 : [(xb + 1, 9, [Value.string ⟨#[115, 101, 110, 100, 101, 114]⟩, Value.string ⟨#[101, 110, 99, 114, 121, 112, 116, 105, 111, 110]⟩, Value.string ⟨#[101, 120, 112, 111, 114, 116, 101, 114]⟩, Value.string ⟨#[99, 111, 110, 102, 105, 114, 109]⟩, Value.string ⟨#[109, 101, 109, 98, 101, 114, 115, 104, 105, 112]⟩, Value.string ⟨#[114, 101, 115, 117, 109, 112, 116, 105, 111, 110]⟩, Value.string ⟨#[105, 110, 105, 116]⟩, Value.string ⟨#[101, 120, 116, 101, 114, 110, 97, 108]⟩]), (xb + 1 + 1, 86, [Value.pointer (some ⟨sb, 3, none⟩), Value.pointer (some ⟨sb, 4, none⟩), Value.pointer (some ⟨sb, 5, none⟩), Value.pointer (some ⟨sb, 6, none⟩), Value.pointer (some ⟨sb, 7, none⟩), Value.pointer (some ⟨sb, 8, none⟩), Value.pointer (some ⟨sb, 10, none⟩), Value.pointer (some ⟨xb, 0, none⟩)])] = K0 at *
  have HK0 := Shut.mk hK0.symm
  clear hK0
  go_loopw [66] (fun s wr => ∃ (k : Nat) (r : List Nd) (ts : List Int), k ≤ 8 ∧ s = .int .i64 k ∧ ts.length = k ∧ Bq w0 S w T4 wr sb xb w.heap.size K0 (.pointer (some ⟨pb, 0, none⟩)) (ds ++ r2 ++ r4 ++ r6 ++ r) (epF j t4 t6 ts) (ts.getD 7 0) ∧ (∀ m, m < k → Den (derT (keyT (mixT J P) epochS C) (labR.getD m [])) (ds ++ r2 ++ r4 ++ r6 ++ r) (ts.getD m 0)) ∧ r.length ≤ 3 * k) (fun s _ => 8 - (intOf s).toNat)
  case atStart => exact ⟨0, [], [], Nat.zero_le _, rfl, rfl, by rw [List.append_nil]; exact HBq.out, fun m h => absurd h (Nat.not_lt_zero _), Nat.zero_le _⟩
  case round =>
    obtain ⟨k, r, ts, hk0, rfl, hts, hb, hd, hr⟩ := hrel
    have HB := Lib.hid hb
    have HD := Shut.mk hd
    clear hb hd
    have hcase : k = 0 ∨ k = 1 ∨ k = 2 ∨ k = 3 ∨ k = 4 ∨ k = 5 ∨ k = 6 ∨ k = 7 ∨ k = 8 := by omega
    rcases hcase with rfl | rfl | rfl | rfl | rfl | rfl | rfl | rfl | rfl
    · obtain ⟨_, rfl⟩ : ∃ _u : Unit, ts = [] := by
        match ts, hts with
        | [], _ => exact ⟨(), rfl⟩
      have pL := HB.out.con _ (show (xb + 1, 9, [Value.string ⟨#[115, 101, 110, 100, 101, 114]⟩, Value.string ⟨#[101, 110, 99, 114, 121, 112, 116, 105, 111, 110]⟩, Value.string ⟨#[101, 120, 112, 111, 114, 116, 101, 114]⟩, Value.string ⟨#[99, 111, 110, 102, 105, 114, 109]⟩, Value.string ⟨#[109, 101, 109, 98, 101, 114, 115, 104, 105, 112]⟩, Value.string ⟨#[114, 101, 115, 117, 109, 112, 116, 105, 111, 110]⟩, Value.string ⟨#[105, 110, 105, 116]⟩, Value.string ⟨#[101, 120, 116, 101, 114, 110, 97, 108]⟩]) ∈ K0 by rw [HK0.out]; simp)
      have pP := HB.out.con _ (show (xb + 1 + 1, 86, [Value.pointer (some ⟨sb, 3, none⟩), Value.pointer (some ⟨sb, 4, none⟩), Value.pointer (some ⟨sb, 5, none⟩), Value.pointer (some ⟨sb, 6, none⟩), Value.pointer (some ⟨sb, 7, none⟩), Value.pointer (some ⟨sb, 8, none⟩), Value.pointer (some ⟨sb, 10, none⟩), Value.pointer (some ⟨xb, 0, none⟩)]) ∈ K0 by rw [HK0.out]; simp)
      have y1 := pL.1.cell 0
      have y2 := pP.1.cell 0
      have y3 := HB.out.ep.cell 2
      unfold epF at y3
      simp only [List.getElem?_cons_succ, List.getElem?_cons_zero] at y1 y2 y3
      have HC := Lib.hid (fun W (kd : Kept wr W) => deriveR_ok (HB.out.arena.step kd) ((D6.out.more r)) senderS (by decide) (by simp only [List.length_append]; omega))
      rw [show strB senderS = ⟨#[115, 101, 110, 100, 101, 114]⟩ from rfl] at HC
      have pLT := pL.2.1
      have sT := HB.out.sT
      clear pL pP hts
      go_wp2
      go_region_held3 (fun w' => w'.cell? ⟨sb, 2, none⟩ = some (.int .i64 t6) ∧ w'.cell? ⟨xb + 1, 0, none⟩ = some (.string ⟨#[115, 101, 110, 100, 101, 114]⟩))
        (first
          | exact ⟨y3, y1⟩
          | go_keep
          | (go_split_ands; refine ⟨ke.cell ?_ sT, ke.cell ?_ pLT⟩ <;> assumption))
        ((go_at_call 37; (with_reducible refine (HC.out _ (by first | exact Kept.refl _ | exact (Kept.refl _).drew | exact (Kept.refl _).drewN _)).mono ?_); rintro e we ⟨re, te, rfl, ae, hre, de, ke⟩))
      have HBe := Lib.hid ((HB.out.step (Kept.refl wr).drew).call ae ke)
      have DE := Shut.mk de
      clear ae de ke HC HB y1 y2 y3 sT pLT
      have y4 := HBe.out.ep.cell 3
      have z4 := HBe.out.ep.frozen 3
      unfold epF at y4
      simp only [List.getElem?_cons_succ, List.getElem?_cons_zero] at y4
      have HS := Lib.hid (HBe.out.set 3 (.int .i64 te))
      have HD2 := Shut.mk (show ∀ m, m < 1 → Den (derT (keyT (mixT J P) epochS C) (labR.getD m [])) (ds ++ r2 ++ r4 ++ r6 ++ (r ++ re)) ([te].getD m 0) from fun m hm => by
        rw [← List.append_assoc]
        by_cases c : m < 0
        · have := (HD.out m c).more re
          have hcs : False := by omega
          exact absurd hcs id
        · obtain rfl : m = 0 := by omega
          exact DE.out)
      clear HBe HD DE
      go_wp2
      go_roundw
      case rel =>
        refine ⟨1, r ++ re, [te], by omega, by go_num, rfl, ?_, HD2.out, by rw [List.length_append]; omega⟩
        rw [← List.append_assoc]
        exact HS.out
      case measure => simp [intOf]
    · obtain ⟨a0, rfl⟩ : ∃ a0 : Int, ts = [a0] := by
        match ts, hts with
        | [a0], _ => exact ⟨a0, rfl⟩
      have pL := HB.out.con _ (show (xb + 1, 9, [Value.string ⟨#[115, 101, 110, 100, 101, 114]⟩, Value.string ⟨#[101, 110, 99, 114, 121, 112, 116, 105, 111, 110]⟩, Value.string ⟨#[101, 120, 112, 111, 114, 116, 101, 114]⟩, Value.string ⟨#[99, 111, 110, 102, 105, 114, 109]⟩, Value.string ⟨#[109, 101, 109, 98, 101, 114, 115, 104, 105, 112]⟩, Value.string ⟨#[114, 101, 115, 117, 109, 112, 116, 105, 111, 110]⟩, Value.string ⟨#[105, 110, 105, 116]⟩, Value.string ⟨#[101, 120, 116, 101, 114, 110, 97, 108]⟩]) ∈ K0 by rw [HK0.out]; simp)
      have pP := HB.out.con _ (show (xb + 1 + 1, 86, [Value.pointer (some ⟨sb, 3, none⟩), Value.pointer (some ⟨sb, 4, none⟩), Value.pointer (some ⟨sb, 5, none⟩), Value.pointer (some ⟨sb, 6, none⟩), Value.pointer (some ⟨sb, 7, none⟩), Value.pointer (some ⟨sb, 8, none⟩), Value.pointer (some ⟨sb, 10, none⟩), Value.pointer (some ⟨xb, 0, none⟩)]) ∈ K0 by rw [HK0.out]; simp)
      have y1 := pL.1.cell 1
      have y2 := pP.1.cell 1
      have y3 := HB.out.ep.cell 2
      unfold epF at y3
      simp only [List.getElem?_cons_succ, List.getElem?_cons_zero] at y1 y2 y3
      have HC := Lib.hid (fun W (kd : Kept wr W) => deriveR_ok (HB.out.arena.step kd) ((D6.out.more r)) encryptionS (by decide) (by simp only [List.length_append]; omega))
      rw [show strB encryptionS = ⟨#[101, 110, 99, 114, 121, 112, 116, 105, 111, 110]⟩ from rfl] at HC
      have pLT := pL.2.1
      have sT := HB.out.sT
      clear pL pP hts
      go_wp2
      go_region_held3 (fun w' => w'.cell? ⟨sb, 2, none⟩ = some (.int .i64 t6) ∧ w'.cell? ⟨xb + 1, 1, none⟩ = some (.string ⟨#[101, 110, 99, 114, 121, 112, 116, 105, 111, 110]⟩))
        (first
          | exact ⟨y3, y1⟩
          | go_keep
          | (go_split_ands; refine ⟨ke.cell ?_ sT, ke.cell ?_ pLT⟩ <;> assumption))
        ((go_at_call 37; (with_reducible refine (HC.out _ (by first | exact Kept.refl _ | exact (Kept.refl _).drew | exact (Kept.refl _).drewN _)).mono ?_); rintro e we ⟨re, te, rfl, ae, hre, de, ke⟩))
      have HBe := Lib.hid ((HB.out.step (Kept.refl wr).drew).call ae ke)
      have DE := Shut.mk de
      clear ae de ke HC HB y1 y2 y3 sT pLT
      have y4 := HBe.out.ep.cell 4
      have z4 := HBe.out.ep.frozen 4
      unfold epF at y4
      simp only [List.getElem?_cons_succ, List.getElem?_cons_zero] at y4
      have HS := Lib.hid (HBe.out.set 4 (.int .i64 te))
      have HD2 := Shut.mk (show ∀ m, m < 2 → Den (derT (keyT (mixT J P) epochS C) (labR.getD m [])) (ds ++ r2 ++ r4 ++ r6 ++ (r ++ re)) ([a0, te].getD m 0) from fun m hm => by
        rw [← List.append_assoc]
        by_cases c : m < 1
        · have := (HD.out m c).more re
          have hcs : m = 0 := by omega
          rcases hcs with rfl <;> exact this
        · obtain rfl : m = 1 := by omega
          exact DE.out)
      clear HBe HD DE
      go_wp2
      go_roundw
      case rel =>
        refine ⟨2, r ++ re, [a0, te], by omega, by go_num, rfl, ?_, HD2.out, by rw [List.length_append]; omega⟩
        rw [← List.append_assoc]
        exact HS.out
      case measure => simp [intOf]
    · obtain ⟨a0, a1, rfl⟩ : ∃ a0 a1 : Int, ts = [a0, a1] := by
        match ts, hts with
        | [a0, a1], _ => exact ⟨a0, a1, rfl⟩
      have pL := HB.out.con _ (show (xb + 1, 9, [Value.string ⟨#[115, 101, 110, 100, 101, 114]⟩, Value.string ⟨#[101, 110, 99, 114, 121, 112, 116, 105, 111, 110]⟩, Value.string ⟨#[101, 120, 112, 111, 114, 116, 101, 114]⟩, Value.string ⟨#[99, 111, 110, 102, 105, 114, 109]⟩, Value.string ⟨#[109, 101, 109, 98, 101, 114, 115, 104, 105, 112]⟩, Value.string ⟨#[114, 101, 115, 117, 109, 112, 116, 105, 111, 110]⟩, Value.string ⟨#[105, 110, 105, 116]⟩, Value.string ⟨#[101, 120, 116, 101, 114, 110, 97, 108]⟩]) ∈ K0 by rw [HK0.out]; simp)
      have pP := HB.out.con _ (show (xb + 1 + 1, 86, [Value.pointer (some ⟨sb, 3, none⟩), Value.pointer (some ⟨sb, 4, none⟩), Value.pointer (some ⟨sb, 5, none⟩), Value.pointer (some ⟨sb, 6, none⟩), Value.pointer (some ⟨sb, 7, none⟩), Value.pointer (some ⟨sb, 8, none⟩), Value.pointer (some ⟨sb, 10, none⟩), Value.pointer (some ⟨xb, 0, none⟩)]) ∈ K0 by rw [HK0.out]; simp)
      have y1 := pL.1.cell 2
      have y2 := pP.1.cell 2
      have y3 := HB.out.ep.cell 2
      unfold epF at y3
      simp only [List.getElem?_cons_succ, List.getElem?_cons_zero] at y1 y2 y3
      have HC := Lib.hid (fun W (kd : Kept wr W) => deriveR_ok (HB.out.arena.step kd) ((D6.out.more r)) exporterS (by decide) (by simp only [List.length_append]; omega))
      rw [show strB exporterS = ⟨#[101, 120, 112, 111, 114, 116, 101, 114]⟩ from rfl] at HC
      have pLT := pL.2.1
      have sT := HB.out.sT
      clear pL pP hts
      go_wp2
      go_region_held3 (fun w' => w'.cell? ⟨sb, 2, none⟩ = some (.int .i64 t6) ∧ w'.cell? ⟨xb + 1, 2, none⟩ = some (.string ⟨#[101, 120, 112, 111, 114, 116, 101, 114]⟩))
        (first
          | exact ⟨y3, y1⟩
          | go_keep
          | (go_split_ands; refine ⟨ke.cell ?_ sT, ke.cell ?_ pLT⟩ <;> assumption))
        ((go_at_call 37; (with_reducible refine (HC.out _ (by first | exact Kept.refl _ | exact (Kept.refl _).drew | exact (Kept.refl _).drewN _)).mono ?_); rintro e we ⟨re, te, rfl, ae, hre, de, ke⟩))
      have HBe := Lib.hid ((HB.out.step (Kept.refl wr).drew).call ae ke)
      have DE := Shut.mk de
      clear ae de ke HC HB y1 y2 y3 sT pLT
      have y4 := HBe.out.ep.cell 5
      have z4 := HBe.out.ep.frozen 5
      unfold epF at y4
      simp only [List.getElem?_cons_succ, List.getElem?_cons_zero] at y4
      have HS := Lib.hid (HBe.out.set 5 (.int .i64 te))
      have HD2 := Shut.mk (show ∀ m, m < 3 → Den (derT (keyT (mixT J P) epochS C) (labR.getD m [])) (ds ++ r2 ++ r4 ++ r6 ++ (r ++ re)) ([a0, a1, te].getD m 0) from fun m hm => by
        rw [← List.append_assoc]
        by_cases c : m < 2
        · have := (HD.out m c).more re
          have hcs : m = 0 ∨ m = 1 := by omega
          rcases hcs with rfl | rfl <;> exact this
        · obtain rfl : m = 2 := by omega
          exact DE.out)
      clear HBe HD DE
      go_wp2
      go_roundw
      case rel =>
        refine ⟨3, r ++ re, [a0, a1, te], by omega, by go_num, rfl, ?_, HD2.out, by rw [List.length_append]; omega⟩
        rw [← List.append_assoc]
        exact HS.out
      case measure => simp [intOf]
    · obtain ⟨a0, a1, a2, rfl⟩ : ∃ a0 a1 a2 : Int, ts = [a0, a1, a2] := by
        match ts, hts with
        | [a0, a1, a2], _ => exact ⟨a0, a1, a2, rfl⟩
      have pL := HB.out.con _ (show (xb + 1, 9, [Value.string ⟨#[115, 101, 110, 100, 101, 114]⟩, Value.string ⟨#[101, 110, 99, 114, 121, 112, 116, 105, 111, 110]⟩, Value.string ⟨#[101, 120, 112, 111, 114, 116, 101, 114]⟩, Value.string ⟨#[99, 111, 110, 102, 105, 114, 109]⟩, Value.string ⟨#[109, 101, 109, 98, 101, 114, 115, 104, 105, 112]⟩, Value.string ⟨#[114, 101, 115, 117, 109, 112, 116, 105, 111, 110]⟩, Value.string ⟨#[105, 110, 105, 116]⟩, Value.string ⟨#[101, 120, 116, 101, 114, 110, 97, 108]⟩]) ∈ K0 by rw [HK0.out]; simp)
      have pP := HB.out.con _ (show (xb + 1 + 1, 86, [Value.pointer (some ⟨sb, 3, none⟩), Value.pointer (some ⟨sb, 4, none⟩), Value.pointer (some ⟨sb, 5, none⟩), Value.pointer (some ⟨sb, 6, none⟩), Value.pointer (some ⟨sb, 7, none⟩), Value.pointer (some ⟨sb, 8, none⟩), Value.pointer (some ⟨sb, 10, none⟩), Value.pointer (some ⟨xb, 0, none⟩)]) ∈ K0 by rw [HK0.out]; simp)
      have y1 := pL.1.cell 3
      have y2 := pP.1.cell 3
      have y3 := HB.out.ep.cell 2
      unfold epF at y3
      simp only [List.getElem?_cons_succ, List.getElem?_cons_zero] at y1 y2 y3
      have HC := Lib.hid (fun W (kd : Kept wr W) => deriveR_ok (HB.out.arena.step kd) ((D6.out.more r)) confirmS (by decide) (by simp only [List.length_append]; omega))
      rw [show strB confirmS = ⟨#[99, 111, 110, 102, 105, 114, 109]⟩ from rfl] at HC
      have pLT := pL.2.1
      have sT := HB.out.sT
      clear pL pP hts
      go_wp2
      go_region_held3 (fun w' => w'.cell? ⟨sb, 2, none⟩ = some (.int .i64 t6) ∧ w'.cell? ⟨xb + 1, 3, none⟩ = some (.string ⟨#[99, 111, 110, 102, 105, 114, 109]⟩))
        (first
          | exact ⟨y3, y1⟩
          | go_keep
          | (go_split_ands; refine ⟨ke.cell ?_ sT, ke.cell ?_ pLT⟩ <;> assumption))
        ((go_at_call 37; (with_reducible refine (HC.out _ (by first | exact Kept.refl _ | exact (Kept.refl _).drew | exact (Kept.refl _).drewN _)).mono ?_); rintro e we ⟨re, te, rfl, ae, hre, de, ke⟩))
      have HBe := Lib.hid ((HB.out.step (Kept.refl wr).drew).call ae ke)
      have DE := Shut.mk de
      clear ae de ke HC HB y1 y2 y3 sT pLT
      have y4 := HBe.out.ep.cell 6
      have z4 := HBe.out.ep.frozen 6
      unfold epF at y4
      simp only [List.getElem?_cons_succ, List.getElem?_cons_zero] at y4
      have HS := Lib.hid (HBe.out.set 6 (.int .i64 te))
      have HD2 := Shut.mk (show ∀ m, m < 4 → Den (derT (keyT (mixT J P) epochS C) (labR.getD m [])) (ds ++ r2 ++ r4 ++ r6 ++ (r ++ re)) ([a0, a1, a2, te].getD m 0) from fun m hm => by
        rw [← List.append_assoc]
        by_cases c : m < 3
        · have := (HD.out m c).more re
          have hcs : m = 0 ∨ m = 1 ∨ m = 2 := by omega
          rcases hcs with rfl | rfl | rfl <;> exact this
        · obtain rfl : m = 3 := by omega
          exact DE.out)
      clear HBe HD DE
      go_wp2
      go_roundw
      case rel =>
        refine ⟨4, r ++ re, [a0, a1, a2, te], by omega, by go_num, rfl, ?_, HD2.out, by rw [List.length_append]; omega⟩
        rw [← List.append_assoc]
        exact HS.out
      case measure => simp [intOf]
    · obtain ⟨a0, a1, a2, a3, rfl⟩ : ∃ a0 a1 a2 a3 : Int, ts = [a0, a1, a2, a3] := by
        match ts, hts with
        | [a0, a1, a2, a3], _ => exact ⟨a0, a1, a2, a3, rfl⟩
      have pL := HB.out.con _ (show (xb + 1, 9, [Value.string ⟨#[115, 101, 110, 100, 101, 114]⟩, Value.string ⟨#[101, 110, 99, 114, 121, 112, 116, 105, 111, 110]⟩, Value.string ⟨#[101, 120, 112, 111, 114, 116, 101, 114]⟩, Value.string ⟨#[99, 111, 110, 102, 105, 114, 109]⟩, Value.string ⟨#[109, 101, 109, 98, 101, 114, 115, 104, 105, 112]⟩, Value.string ⟨#[114, 101, 115, 117, 109, 112, 116, 105, 111, 110]⟩, Value.string ⟨#[105, 110, 105, 116]⟩, Value.string ⟨#[101, 120, 116, 101, 114, 110, 97, 108]⟩]) ∈ K0 by rw [HK0.out]; simp)
      have pP := HB.out.con _ (show (xb + 1 + 1, 86, [Value.pointer (some ⟨sb, 3, none⟩), Value.pointer (some ⟨sb, 4, none⟩), Value.pointer (some ⟨sb, 5, none⟩), Value.pointer (some ⟨sb, 6, none⟩), Value.pointer (some ⟨sb, 7, none⟩), Value.pointer (some ⟨sb, 8, none⟩), Value.pointer (some ⟨sb, 10, none⟩), Value.pointer (some ⟨xb, 0, none⟩)]) ∈ K0 by rw [HK0.out]; simp)
      have y1 := pL.1.cell 4
      have y2 := pP.1.cell 4
      have y3 := HB.out.ep.cell 2
      unfold epF at y3
      simp only [List.getElem?_cons_succ, List.getElem?_cons_zero] at y1 y2 y3
      have HC := Lib.hid (fun W (kd : Kept wr W) => deriveR_ok (HB.out.arena.step kd) ((D6.out.more r)) membershipS (by decide) (by simp only [List.length_append]; omega))
      rw [show strB membershipS = ⟨#[109, 101, 109, 98, 101, 114, 115, 104, 105, 112]⟩ from rfl] at HC
      have pLT := pL.2.1
      have sT := HB.out.sT
      clear pL pP hts
      go_wp2
      go_region_held3 (fun w' => w'.cell? ⟨sb, 2, none⟩ = some (.int .i64 t6) ∧ w'.cell? ⟨xb + 1, 4, none⟩ = some (.string ⟨#[109, 101, 109, 98, 101, 114, 115, 104, 105, 112]⟩))
        (first
          | exact ⟨y3, y1⟩
          | go_keep
          | (go_split_ands; refine ⟨ke.cell ?_ sT, ke.cell ?_ pLT⟩ <;> assumption))
        ((go_at_call 37; (with_reducible refine (HC.out _ (by first | exact Kept.refl _ | exact (Kept.refl _).drew | exact (Kept.refl _).drewN _)).mono ?_); rintro e we ⟨re, te, rfl, ae, hre, de, ke⟩))
      have HBe := Lib.hid ((HB.out.step (Kept.refl wr).drew).call ae ke)
      have DE := Shut.mk de
      clear ae de ke HC HB y1 y2 y3 sT pLT
      have y4 := HBe.out.ep.cell 7
      have z4 := HBe.out.ep.frozen 7
      unfold epF at y4
      simp only [List.getElem?_cons_succ, List.getElem?_cons_zero] at y4
      have HS := Lib.hid (HBe.out.set 7 (.int .i64 te))
      have HD2 := Shut.mk (show ∀ m, m < 5 → Den (derT (keyT (mixT J P) epochS C) (labR.getD m [])) (ds ++ r2 ++ r4 ++ r6 ++ (r ++ re)) ([a0, a1, a2, a3, te].getD m 0) from fun m hm => by
        rw [← List.append_assoc]
        by_cases c : m < 4
        · have := (HD.out m c).more re
          have hcs : m = 0 ∨ m = 1 ∨ m = 2 ∨ m = 3 := by omega
          rcases hcs with rfl | rfl | rfl | rfl <;> exact this
        · obtain rfl : m = 4 := by omega
          exact DE.out)
      clear HBe HD DE
      go_wp2
      go_roundw
      case rel =>
        refine ⟨5, r ++ re, [a0, a1, a2, a3, te], by omega, by go_num, rfl, ?_, HD2.out, by rw [List.length_append]; omega⟩
        rw [← List.append_assoc]
        exact HS.out
      case measure => simp [intOf]
    · obtain ⟨a0, a1, a2, a3, a4, rfl⟩ : ∃ a0 a1 a2 a3 a4 : Int, ts = [a0, a1, a2, a3, a4] := by
        match ts, hts with
        | [a0, a1, a2, a3, a4], _ => exact ⟨a0, a1, a2, a3, a4, rfl⟩
      have pL := HB.out.con _ (show (xb + 1, 9, [Value.string ⟨#[115, 101, 110, 100, 101, 114]⟩, Value.string ⟨#[101, 110, 99, 114, 121, 112, 116, 105, 111, 110]⟩, Value.string ⟨#[101, 120, 112, 111, 114, 116, 101, 114]⟩, Value.string ⟨#[99, 111, 110, 102, 105, 114, 109]⟩, Value.string ⟨#[109, 101, 109, 98, 101, 114, 115, 104, 105, 112]⟩, Value.string ⟨#[114, 101, 115, 117, 109, 112, 116, 105, 111, 110]⟩, Value.string ⟨#[105, 110, 105, 116]⟩, Value.string ⟨#[101, 120, 116, 101, 114, 110, 97, 108]⟩]) ∈ K0 by rw [HK0.out]; simp)
      have pP := HB.out.con _ (show (xb + 1 + 1, 86, [Value.pointer (some ⟨sb, 3, none⟩), Value.pointer (some ⟨sb, 4, none⟩), Value.pointer (some ⟨sb, 5, none⟩), Value.pointer (some ⟨sb, 6, none⟩), Value.pointer (some ⟨sb, 7, none⟩), Value.pointer (some ⟨sb, 8, none⟩), Value.pointer (some ⟨sb, 10, none⟩), Value.pointer (some ⟨xb, 0, none⟩)]) ∈ K0 by rw [HK0.out]; simp)
      have y1 := pL.1.cell 5
      have y2 := pP.1.cell 5
      have y3 := HB.out.ep.cell 2
      unfold epF at y3
      simp only [List.getElem?_cons_succ, List.getElem?_cons_zero] at y1 y2 y3
      have HC := Lib.hid (fun W (kd : Kept wr W) => deriveR_ok (HB.out.arena.step kd) ((D6.out.more r)) resumptionS (by decide) (by simp only [List.length_append]; omega))
      rw [show strB resumptionS = ⟨#[114, 101, 115, 117, 109, 112, 116, 105, 111, 110]⟩ from rfl] at HC
      have pLT := pL.2.1
      have sT := HB.out.sT
      clear pL pP hts
      go_wp2
      go_region_held3 (fun w' => w'.cell? ⟨sb, 2, none⟩ = some (.int .i64 t6) ∧ w'.cell? ⟨xb + 1, 5, none⟩ = some (.string ⟨#[114, 101, 115, 117, 109, 112, 116, 105, 111, 110]⟩))
        (first
          | exact ⟨y3, y1⟩
          | go_keep
          | (go_split_ands; refine ⟨ke.cell ?_ sT, ke.cell ?_ pLT⟩ <;> assumption))
        ((go_at_call 37; (with_reducible refine (HC.out _ (by first | exact Kept.refl _ | exact (Kept.refl _).drew | exact (Kept.refl _).drewN _)).mono ?_); rintro e we ⟨re, te, rfl, ae, hre, de, ke⟩))
      have HBe := Lib.hid ((HB.out.step (Kept.refl wr).drew).call ae ke)
      have DE := Shut.mk de
      clear ae de ke HC HB y1 y2 y3 sT pLT
      have y4 := HBe.out.ep.cell 8
      have z4 := HBe.out.ep.frozen 8
      unfold epF at y4
      simp only [List.getElem?_cons_succ, List.getElem?_cons_zero] at y4
      have HS := Lib.hid (HBe.out.set 8 (.int .i64 te))
      have HD2 := Shut.mk (show ∀ m, m < 6 → Den (derT (keyT (mixT J P) epochS C) (labR.getD m [])) (ds ++ r2 ++ r4 ++ r6 ++ (r ++ re)) ([a0, a1, a2, a3, a4, te].getD m 0) from fun m hm => by
        rw [← List.append_assoc]
        by_cases c : m < 5
        · have := (HD.out m c).more re
          have hcs : m = 0 ∨ m = 1 ∨ m = 2 ∨ m = 3 ∨ m = 4 := by omega
          rcases hcs with rfl | rfl | rfl | rfl | rfl <;> exact this
        · obtain rfl : m = 5 := by omega
          exact DE.out)
      clear HBe HD DE
      go_wp2
      go_roundw
      case rel =>
        refine ⟨6, r ++ re, [a0, a1, a2, a3, a4, te], by omega, by go_num, rfl, ?_, HD2.out, by rw [List.length_append]; omega⟩
        rw [← List.append_assoc]
        exact HS.out
      case measure => simp [intOf]
    · obtain ⟨a0, a1, a2, a3, a4, a5, rfl⟩ : ∃ a0 a1 a2 a3 a4 a5 : Int, ts = [a0, a1, a2, a3, a4, a5] := by
        match ts, hts with
        | [a0, a1, a2, a3, a4, a5], _ => exact ⟨a0, a1, a2, a3, a4, a5, rfl⟩
      have pL := HB.out.con _ (show (xb + 1, 9, [Value.string ⟨#[115, 101, 110, 100, 101, 114]⟩, Value.string ⟨#[101, 110, 99, 114, 121, 112, 116, 105, 111, 110]⟩, Value.string ⟨#[101, 120, 112, 111, 114, 116, 101, 114]⟩, Value.string ⟨#[99, 111, 110, 102, 105, 114, 109]⟩, Value.string ⟨#[109, 101, 109, 98, 101, 114, 115, 104, 105, 112]⟩, Value.string ⟨#[114, 101, 115, 117, 109, 112, 116, 105, 111, 110]⟩, Value.string ⟨#[105, 110, 105, 116]⟩, Value.string ⟨#[101, 120, 116, 101, 114, 110, 97, 108]⟩]) ∈ K0 by rw [HK0.out]; simp)
      have pP := HB.out.con _ (show (xb + 1 + 1, 86, [Value.pointer (some ⟨sb, 3, none⟩), Value.pointer (some ⟨sb, 4, none⟩), Value.pointer (some ⟨sb, 5, none⟩), Value.pointer (some ⟨sb, 6, none⟩), Value.pointer (some ⟨sb, 7, none⟩), Value.pointer (some ⟨sb, 8, none⟩), Value.pointer (some ⟨sb, 10, none⟩), Value.pointer (some ⟨xb, 0, none⟩)]) ∈ K0 by rw [HK0.out]; simp)
      have y1 := pL.1.cell 6
      have y2 := pP.1.cell 6
      have y3 := HB.out.ep.cell 2
      unfold epF at y3
      simp only [List.getElem?_cons_succ, List.getElem?_cons_zero] at y1 y2 y3
      have HC := Lib.hid (fun W (kd : Kept wr W) => deriveR_ok (HB.out.arena.step kd) ((D6.out.more r)) initS (by decide) (by simp only [List.length_append]; omega))
      rw [show strB initS = ⟨#[105, 110, 105, 116]⟩ from rfl] at HC
      have pLT := pL.2.1
      have sT := HB.out.sT
      clear pL pP hts
      go_wp2
      go_region_held3 (fun w' => w'.cell? ⟨sb, 2, none⟩ = some (.int .i64 t6) ∧ w'.cell? ⟨xb + 1, 6, none⟩ = some (.string ⟨#[105, 110, 105, 116]⟩))
        (first
          | exact ⟨y3, y1⟩
          | go_keep
          | (go_split_ands; refine ⟨ke.cell ?_ sT, ke.cell ?_ pLT⟩ <;> assumption))
        ((go_at_call 37; (with_reducible refine (HC.out _ (by first | exact Kept.refl _ | exact (Kept.refl _).drew | exact (Kept.refl _).drewN _)).mono ?_); rintro e we ⟨re, te, rfl, ae, hre, de, ke⟩))
      have HBe := Lib.hid ((HB.out.step (Kept.refl wr).drew).call ae ke)
      have DE := Shut.mk de
      clear ae de ke HC HB y1 y2 y3 sT pLT
      have y4 := HBe.out.ep.cell 10
      have z4 := HBe.out.ep.frozen 10
      unfold epF at y4
      simp only [List.getElem?_cons_succ, List.getElem?_cons_zero] at y4
      have HS := Lib.hid (HBe.out.set 10 (.int .i64 te))
      have HD2 := Shut.mk (show ∀ m, m < 7 → Den (derT (keyT (mixT J P) epochS C) (labR.getD m [])) (ds ++ r2 ++ r4 ++ r6 ++ (r ++ re)) ([a0, a1, a2, a3, a4, a5, te].getD m 0) from fun m hm => by
        rw [← List.append_assoc]
        by_cases c : m < 6
        · have := (HD.out m c).more re
          have hcs : m = 0 ∨ m = 1 ∨ m = 2 ∨ m = 3 ∨ m = 4 ∨ m = 5 := by omega
          rcases hcs with rfl | rfl | rfl | rfl | rfl | rfl <;> exact this
        · obtain rfl : m = 6 := by omega
          exact DE.out)
      clear HBe HD DE
      go_wp2
      go_roundw
      case rel =>
        refine ⟨7, r ++ re, [a0, a1, a2, a3, a4, a5, te], by omega, by go_num, rfl, ?_, HD2.out, by rw [List.length_append]; omega⟩
        rw [← List.append_assoc]
        exact HS.out
      case measure => simp [intOf]
    · obtain ⟨a0, a1, a2, a3, a4, a5, a6, rfl⟩ : ∃ a0 a1 a2 a3 a4 a5 a6 : Int, ts = [a0, a1, a2, a3, a4, a5, a6] := by
        match ts, hts with
        | [a0, a1, a2, a3, a4, a5, a6], _ => exact ⟨a0, a1, a2, a3, a4, a5, a6, rfl⟩
      have pL := HB.out.con _ (show (xb + 1, 9, [Value.string ⟨#[115, 101, 110, 100, 101, 114]⟩, Value.string ⟨#[101, 110, 99, 114, 121, 112, 116, 105, 111, 110]⟩, Value.string ⟨#[101, 120, 112, 111, 114, 116, 101, 114]⟩, Value.string ⟨#[99, 111, 110, 102, 105, 114, 109]⟩, Value.string ⟨#[109, 101, 109, 98, 101, 114, 115, 104, 105, 112]⟩, Value.string ⟨#[114, 101, 115, 117, 109, 112, 116, 105, 111, 110]⟩, Value.string ⟨#[105, 110, 105, 116]⟩, Value.string ⟨#[101, 120, 116, 101, 114, 110, 97, 108]⟩]) ∈ K0 by rw [HK0.out]; simp)
      have pP := HB.out.con _ (show (xb + 1 + 1, 86, [Value.pointer (some ⟨sb, 3, none⟩), Value.pointer (some ⟨sb, 4, none⟩), Value.pointer (some ⟨sb, 5, none⟩), Value.pointer (some ⟨sb, 6, none⟩), Value.pointer (some ⟨sb, 7, none⟩), Value.pointer (some ⟨sb, 8, none⟩), Value.pointer (some ⟨sb, 10, none⟩), Value.pointer (some ⟨xb, 0, none⟩)]) ∈ K0 by rw [HK0.out]; simp)
      have y1 := pL.1.cell 7
      have y2 := pP.1.cell 7
      have y3 := HB.out.ep.cell 2
      unfold epF at y3
      simp only [List.getElem?_cons_succ, List.getElem?_cons_zero] at y1 y2 y3
      have HC := Lib.hid (fun W (kd : Kept wr W) => deriveR_ok (HB.out.arena.step kd) ((D6.out.more r)) externalS (by decide) (by simp only [List.length_append]; omega))
      rw [show strB externalS = ⟨#[101, 120, 116, 101, 114, 110, 97, 108]⟩ from rfl] at HC
      have pLT := pL.2.1
      have sT := HB.out.sT
      clear pL pP hts
      go_wp2
      go_region_held3 (fun w' => w'.cell? ⟨sb, 2, none⟩ = some (.int .i64 t6) ∧ w'.cell? ⟨xb + 1, 7, none⟩ = some (.string ⟨#[101, 120, 116, 101, 114, 110, 97, 108]⟩))
        (first
          | exact ⟨y3, y1⟩
          | go_keep
          | (go_split_ands; refine ⟨ke.cell ?_ sT, ke.cell ?_ pLT⟩ <;> assumption))
        ((go_at_call 37; (with_reducible refine (HC.out _ (by first | exact Kept.refl _ | exact (Kept.refl _).drew | exact (Kept.refl _).drewN _)).mono ?_); rintro e we ⟨re, te, rfl, ae, hre, de, ke⟩))
      have HBe := Lib.hid ((HB.out.step (Kept.refl wr).drew).call ae ke)
      have DE := Shut.mk de
      clear ae de ke HC HB y1 y2 y3 sT pLT
      have y4 := HBe.out.ext.cell 0
      have z4 := HBe.out.ext.frozen 0
      simp only [List.getElem?_cons_succ, List.getElem?_cons_zero] at y4
      have HS := Lib.hid (HBe.out.setX te)
      have HD2 := Shut.mk (show ∀ m, m < 8 → Den (derT (keyT (mixT J P) epochS C) (labR.getD m [])) (ds ++ r2 ++ r4 ++ r6 ++ (r ++ re)) ([a0, a1, a2, a3, a4, a5, a6, te].getD m 0) from fun m hm => by
        rw [← List.append_assoc]
        by_cases c : m < 7
        · have := (HD.out m c).more re
          have hcs : m = 0 ∨ m = 1 ∨ m = 2 ∨ m = 3 ∨ m = 4 ∨ m = 5 ∨ m = 6 := by omega
          rcases hcs with rfl | rfl | rfl | rfl | rfl | rfl | rfl <;> exact this
        · obtain rfl : m = 7 := by omega
          exact DE.out)
      clear HBe HD DE
      go_wp2
      go_roundw
      case rel =>
        refine ⟨8, r ++ re, [a0, a1, a2, a3, a4, a5, a6, te], by omega, by go_num, rfl, ?_, HD2.out, by rw [List.length_append]; omega⟩
        rw [← List.append_assoc]
        exact HS.out
      case measure => simp [intOf]
    · obtain ⟨a0, a1, a2, a3, a4, a5, a6, a7, rfl⟩ : ∃ a0 a1 a2 a3 a4 a5 a6 a7 : Int, ts = [a0, a1, a2, a3, a4, a5, a6, a7] := by
        match ts, hts with
        | [a0, a1, a2, a3, a4, a5, a6, a7], _ => exact ⟨a0, a1, a2, a3, a4, a5, a6, a7, rfl⟩
      have y0 := HB.out.ext.cell 0
      simp only [List.getElem?_cons_zero] at y0
      simp only [List.getD_cons_succ, List.getD_cons_zero] at y0
      have ks : Kept wr (wr.alloc (.cells #[.int .i64 a7] 3)) := (Kept.refl wr).alloc _
      have HO := Lib.hid (pubR_ok (HB.out.arena.step ks) (RdI.sl1 wr a7) (HD.out 7 (by decide)) (by simp only [List.length_append]; omega))
      have HBs := Lib.hid (HB.out.step ks)
      clear HB ks hts
      go_wp2_with fail
      generalize wr.alloc (.cells #[.int .i64 a7] 3) = ws at *
      (with_reducible refine HO.out.mono ?_); rintro e wt ⟨rt, tt, rfl, at', hrt, dt, kt⟩
      have HBt := Lib.hid (HBs.out.call at' kt)
      have DT := Shut.mk dt
      clear at' dt kt HO HBs y0
      have y9 := HBt.out.ep.cell 9
      have z9 := HBt.out.ep.frozen 9
      unfold epF at y9
      simp only [List.getElem?_cons_succ, List.getElem?_cons_zero] at y9
      go_upto_region 22 with fail
      have HBu := Lib.hid (HBt.out.set 9 (.int .i64 tt))
      generalize wt.setCell ⟨sb, 9, none⟩ (.int .i64 tt) = wu at *
      clear HBt y9 z9
      have s0 := HBu.out.ep.cell 0
      have s1 := HBu.out.ep.cell 1
      have s2 := HBu.out.ep.cell 2
      have s3 := HBu.out.ep.cell 3
      have s4 := HBu.out.ep.cell 4
      have s5 := HBu.out.ep.cell 5
      have s6 := HBu.out.ep.cell 6
      have s7 := HBu.out.ep.cell 7
      have s8 := HBu.out.ep.cell 8
      have s9 := HBu.out.ep.cell 9
      have s10 := HBu.out.ep.cell 10
      have q0 := HBu.out.res.cell 0
      have n0 := HBu.out.res.frozen 0
      have q1 := HBu.out.res.cell 1
      have n1 := HBu.out.res.frozen 1
      have q2 := HBu.out.res.cell 2
      have n2 := HBu.out.res.frozen 2
      have q3 := HBu.out.res.cell 3
      have n3 := HBu.out.res.frozen 3
      have q4 := HBu.out.res.cell 4
      have n4 := HBu.out.res.frozen 4
      have q5 := HBu.out.res.cell 5
      have n5 := HBu.out.res.frozen 5
      have q6 := HBu.out.res.cell 6
      have n6 := HBu.out.res.frozen 6
      have q7 := HBu.out.res.cell 7
      have n7 := HBu.out.res.frozen 7
      have q8 := HBu.out.res.cell 8
      have n8 := HBu.out.res.frozen 8
      have q9 := HBu.out.res.cell 9
      have n9 := HBu.out.res.frozen 9
      have q10 := HBu.out.res.cell 10
      have n10 := HBu.out.res.frozen 10
      unfold epF at s0 s1 s2 s3 s4 s5 s6 s7 s8 s9 s10
      simp only [List.set_cons_succ, List.set_cons_zero, List.getElem?_cons_succ, List.getElem?_cons_zero, List.getD_cons_succ, List.getD_cons_zero] at s0 q0 s1 q1 s2 q2 s3 q3 s4 q4 s5 q5 s6 q6 s7 q7 s8 q8 s9 q9 s10 q10
      have HR := Shut.mk HBu.out.res
      have HK := Shut.mk (show ∀ W, Turn (fun b => b = w.heap.size) wu W → AtR w0 S W (.pointer (some ⟨pb, 0, none⟩)) (ds ++ r2 ++ r4 ++ r6 ++ r ++ rt) ∧ Keep S w W from fun W t => ⟨(HBu.out.arena.turn t (fun b e => by cases e; exact ⟨HBu.out.rT, HF.out.2.2.2.2.2⟩)).back HBu.out.sub HF.out.2.2.2.2.1, Turn.trans HBu.out.keep t (fun b e => .inl (fun d => by cases e; exact HF.out.2.2.1 d))⟩)
      have HE := Shut.mk (show EpD J P C (ds ++ r2 ++ r4 ++ r6 ++ r ++ rt) ⟨j, t4, t6, a0, a1, a2, a3, a4, a5, tt, a6⟩ from ⟨DenL.cons ((((((HDj.out).more r2).more r4).more r6).more r).more rt) (DenL.cons ((((D4.out).more r6).more r).more rt) (DenL.cons (((D6.out).more r).more rt) (DenL.cons ((HD.out 0 (by decide)).more rt) (DenL.cons ((HD.out 1 (by decide)).more rt) (DenL.cons ((HD.out 2 (by decide)).more rt) (DenL.cons ((HD.out 3 (by decide)).more rt) (DenL.cons ((HD.out 4 (by decide)).more rt) (DenL.cons ((HD.out 5 (by decide)).more rt) (DenL.cons ((HD.out 6 (by decide)).more rt) (DenL.nil _)))))))))), DT.out⟩)
      have HAS := Shut.mk (show ds ++ r2 ++ r4 ++ r6 ++ r ++ rt = ds ++ (r2 ++ r4 ++ r6 ++ r ++ rt) by simp only [List.append_assoc])
      have HLN := Shut.mk (show (r2 ++ r4 ++ r6 ++ r ++ rt).length ≤ 40 by simp only [List.length_append]; omega)
      clear HBu HD DT HF HDj HDc D2 D4 D6 HSZ HK0 HBq hr hr2 hr4 hr6 hrt hl hk0
      go_wp2
      have hb2 := (((((((((((HR.out).set 0 (.int .i64 j)).set 1 (.int .i64 t4)).set 2 (.int .i64 t6)).set 3 (.int .i64 a0)).set 4 (.int .i64 a1)).set 5 (.int .i64 a2)).set 6 (.int .i64 a3)).set 7 (.int .i64 a4)).set 8 (.int .i64 a5)).set 9 (.int .i64 tt)).set 10 (.int .i64 a6)
      simp only [List.set_cons_zero, List.set_cons_succ] at hb2
      have d0 := hb2.cell 0
      have d1 := hb2.cell 1
      have d2 := hb2.cell 2
      have d3 := hb2.cell 3
      have d4 := hb2.cell 4
      have d5 := hb2.cell 5
      have d6 := hb2.cell 6
      have d7 := hb2.cell 7
      have d8 := hb2.cell 8
      have d9 := hb2.cell 9
      have d10 := hb2.cell 10
      simp only [List.getElem?_cons_zero, List.getElem?_cons_succ] at d0 d1 d2 d3 d4 d5 d6 d7 d8 d9 d10
      have hfin := HK.out _ (Turn.trans (Turn.trans (Turn.trans (Turn.trans (Turn.trans (Turn.trans (Turn.trans (Turn.trans (Turn.trans (Turn.trans (Turn.trans (Turn.refl _ _) (turn_setCell _ ⟨w.heap.size, 0, none⟩ (.int .i64 j)) (fun b e => .inl e)) (turn_setCell _ ⟨w.heap.size, 1, none⟩ (.int .i64 t4)) (fun b e => .inl e)) (turn_setCell _ ⟨w.heap.size, 2, none⟩ (.int .i64 t6)) (fun b e => .inl e)) (turn_setCell _ ⟨w.heap.size, 3, none⟩ (.int .i64 a0)) (fun b e => .inl e)) (turn_setCell _ ⟨w.heap.size, 4, none⟩ (.int .i64 a1)) (fun b e => .inl e)) (turn_setCell _ ⟨w.heap.size, 5, none⟩ (.int .i64 a2)) (fun b e => .inl e)) (turn_setCell _ ⟨w.heap.size, 6, none⟩ (.int .i64 a3)) (fun b e => .inl e)) (turn_setCell _ ⟨w.heap.size, 7, none⟩ (.int .i64 a4)) (fun b e => .inl e)) (turn_setCell _ ⟨w.heap.size, 8, none⟩ (.int .i64 a5)) (fun b e => .inl e)) (turn_setCell _ ⟨w.heap.size, 9, none⟩ (.int .i64 tt)) (fun b e => .inl e)) (turn_setCell _ ⟨w.heap.size, 10, none⟩ (.int .i64 a6)) (fun b e => .inl e))
      rw [HAS.out] at hfin
      have hep := HE.out
      rw [HAS.out] at hep
      exact bodyPost_ret (v := .tuple #[epV ⟨j, t4, t6, a0, a1, a2, a3, a4, a5, tt, a6⟩, .int .i64 0]) (by simp [results, Tryd.results21, go_sem, epV, d0, d1, d2, d3, d4, d5, d6, d7, d8, d9, d10]) rfl ⟨_, _, rfl, hfin.1, HLN.out, hep, hfin.2⟩
end Go.Proofs.YtekieioffaafaaaDoor
end
