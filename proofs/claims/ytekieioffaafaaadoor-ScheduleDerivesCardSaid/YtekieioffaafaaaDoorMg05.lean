/- Texts of one proof, put together: CrB, CrC, CrD, ScA, ScB, ScC, ScD, ScE, ScF. -/
import Derived.Test.YtekieioffaafaaaDoorMg03
import Derived.StillTailTactics
import Derived.Deep.DeepCutAuto
import Derived.Deep.WholeRow
import Derived.Shelf.Abstract
import Derived.Laws.EntriesVeiled
import Derived.Deep.RegionHeld3
import Derived.Deep.Cut
section
/- Walks of package crypto: parts. -/
set_option linter.unusedSimpArgs false
set_option linter.unusedVariables false
namespace Go.Proofs.YtekieioffaafaaaDoor
open Go.RowKit Go.Maps

theorem ones4 (a b c d : Int) : (#[Value.int .i64 a, .int .i64 b, .int .i64 c, .int .i64 d].all fun x => x.oneCell') = true := by simp [Value.oneCell']
/-- Four numbers, as an array. -/
def arr4 (l : List Int) : Value := .agg #[.int .i64 (l.getD 0 0), .int .i64 (l.getD 1 0), .int .i64 (l.getD 2 0), .int .i64 (l.getD 3 0)]
theorem partsL_no {ds : List Nd} {op t : Int} (h : partsB ds op t = false) : partsL ds op t = [0, 0, 0, 0] := by unfold partsL; rw [h]; rfl
theorem partsL_yes {ds : List Nd} {op t : Int} (h : partsB ds op t = true) : partsL ds op t = ((ndAt ds t).l ++ [0, 0, 0, 0]).take 4 := by unfold partsL; rw [h]; rfl
theorem partsB_cases {ds : List Nd} {op t : Int} (h : partsB ds op t = false) : ndE ds t = 4 ∨ (ndE ds t = 0 ∧ ¬ (ndAt ds t).op = op) := by
  unfold partsB at h
  rw [ndE_eq]
  by_cases c : IsT ds t
  · rw [if_pos c]
    refine .inr ⟨rfl, fun e => ?_⟩
    rw [decide_eq_true c, decide_eq_true e] at h
    cases h
  · exact .inl (if_neg c)
theorem partsB_true {ds : List Nd} {op t : Int} (h : partsB ds op t = true) : ndE ds t = 0 ∧ (ndAt ds t).op = op := by
  unfold partsB at h
  rw [Bool.and_eq_true] at h
  exact ⟨by rw [ndE_eq, if_pos (of_decide_eq_true h.1)], of_decide_eq_true h.2⟩

/-- What is laid over the head of four zeros. -/
theorem splice4 (l : List Int) : splice [Value.int .i64 0, .int .i64 0, .int .i64 0, .int .i64 0] 0 ((l.take 4).map (Value.int .i64)) = (((l ++ [0, 0, 0, 0]).take 4).map (Value.int .i64)) := by
  match l with
  | [] => rfl
  | [a] => rfl
  | [a, b] => rfl
  | [a, b, c] => rfl
  | a :: b :: c :: d :: r => simp [splice]
theorem four (l : List Int) : ((l ++ [0, 0, 0, 0]).take 4).length = 4 := by rw [List.length_take, List.length_append]; simp
theorem arr4_cells {l : List Int} (h : l.length = 4) : l.map (Value.int .i64) = [.int .i64 (l.getD 0 0), .int .i64 (l.getD 1 0), .int .i64 (l.getD 2 0), .int .i64 (l.getD 3 0)] := by
  match l, h with
  | [a, b, c, d], _ => rfl

end Go.Proofs.YtekieioffaafaaaDoor
end

section
/- Walks of package crypto: what is made of terms. -/
set_option linter.unusedSimpArgs false
set_option linter.unusedVariables false
namespace Go.Proofs.YtekieioffaafaaaDoor
open Go.RowKit Go.Maps

set_option maxHeartbeats 4000000 in
set_option maxRecDepth 100000 in
theorem extractA {w0 : World} {S : Nat → Prop} {w : World} {p : Value} {ds : List Nd} (h : At w0 S w p ds) {a b : Int} (ha : I64 a) (hb : I64 b) :
    Calls Tryd.prog 41 #[p, .int .i64 a, .int .i64 b] w (MkPost w0 S w p (made ds 5 [a, b])) := by
  have k0 : Kept w (w.alloc (.cells #[.int .i64 a, .int .i64 b] 3)) := (Kept.refl w).alloc _
  have hr : RdI (w.alloc (.cells #[.int .i64 a, .int .i64 b] 3)) (.slice (some ⟨w.heap.size, 0, none⟩) 2 2) [a, b] := RdI.lit w [a, b] (by simp)
  have hm := madeA (h.step k0) hr (op := 5) (i64_lit (by simp)) (fun x hx => by
    simp only [List.mem_cons, List.not_mem_nil, or_false] at hx
    rcases hx with rfl | rfl
    · exact ha
    · exact hb)
  generalize made ds 5 [a, b] = m at hm ⊢
  clear hr
  go_enter Tryd.func41, Tryd.ntmps41
  go_wp2_with fail
  refine hm.mono ?_
  rintro e w' ⟨rfl, r1, r2⟩
  go_wp2
  go_ret2
  exact ⟨rfl, r1, (k0.keep S).trans r2⟩

set_option maxHeartbeats 4000000 in
set_option maxRecDepth 100000 in
theorem publicA {w0 : World} {S : Nat → Prop} {w : World} {p : Value} {ds : List Nd} (h : At w0 S w p ds) {a : Int} (ha : I64 a) :
    Calls Tryd.prog 49 #[p, .int .i64 a] w (MkPost w0 S w p (made ds 7 [a])) := by
  have k0 : Kept w (w.alloc (.cells #[.int .i64 a] 3)) := (Kept.refl w).alloc _
  have hr : RdI (w.alloc (.cells #[.int .i64 a] 3)) (.slice (some ⟨w.heap.size, 0, none⟩) 1 1) [a] := RdI.lit w [a] (by simp)
  have hm := madeA (h.step k0) hr (op := 7) (i64_lit (by simp)) (fun x hx => by
    simp only [List.mem_cons, List.not_mem_nil, or_false] at hx
    rcases hx with rfl
    · exact ha)
  generalize made ds 7 [a] = m at hm ⊢
  clear hr
  go_enter Tryd.func49, Tryd.ntmps49
  go_wp2_with fail
  refine hm.mono ?_
  rintro e w' ⟨rfl, r1, r2⟩
  go_wp2
  go_ret2
  exact ⟨rfl, r1, (k0.keep S).trans r2⟩

theorem mk_t64' (ds : List Nd) (d : Nd) (hl : ds.length ≤ 100000) : I64 (mk ds d).2.1 := by
  have := mk_t64 ds d hl
  exact ⟨by omega, by omega⟩
theorem mk_e64 (ds : List Nd) (d : Nd) : I64 (mk ds d).2.2 := by
  rcases mk_e ds d with e | e | e <;> rw [e] <;> exact i64_lit (by simp)

set_option maxHeartbeats 4000000 in
set_option maxRecDepth 100000 in
theorem expandA {w0 : World} {S : Nat → Prop} {w : World} {p : Value} {ds : List Nd} (h : At w0 S w p ds) {s c : Int} {x : List UInt8} (hs : I64 s) (hc : I64 c) (hx : x.length ≤ maxLen) :
    Calls Tryd.prog 35 #[p, .int .i64 s, .string (strB x), .int .i64 c] w (MkPost w0 S w p (expandM ds s x c)) := by
  have k0 : Kept w (w.alloc (.cells #[.int .i64 s, .int .i64 c] 3)) := (Kept.refl w).alloc _
  have hr : RdI (w.alloc (.cells #[.int .i64 s, .int .i64 c] 3)) (.slice (some ⟨w.heap.size, 0, none⟩) 2 2) [s, c] := RdI.lit w [s, c] (by simp)
  have h1 := termsA (h.step k0) hr
  have h2 := fun W (k : Kept w W) => textA (h.step k) x hx
  have h3 : ∀ (W : World) (_ : At w0 S W p (mk ds ⟨2, 0, x, []⟩).1) (v : Value) (hv : RdI W v [s, (mk ds ⟨2, 0, x, []⟩).2.1, c]), Calls Tryd.prog 65 #[p, .int .i64 6, v] W (MkPost w0 S W p (made (mk ds ⟨2, 0, x, []⟩).1 6 [s, (mk ds ⟨2, 0, x, []⟩).2.1, c])) := fun W hW v hv => madeA hW hv (i64_lit (by simp)) (fun y hy => by
    simp only [List.mem_cons, List.not_mem_nil, or_false] at hy
    rcases hy with rfl | rfl | rfl
    · exact hs
    · exact mk_t64' ds _ h.few
    · exact hc)
  have hM : expandM ds s x c = if termsB ds [s, c] then if (mk ds ⟨2, 0, x, []⟩).2.2 = 0 then made (mk ds ⟨2, 0, x, []⟩).1 6 [s, (mk ds ⟨2, 0, x, []⟩).2.1, c] else ((mk ds ⟨2, 0, x, []⟩).1, 0, (mk ds ⟨2, 0, x, []⟩).2.2) else ((mk ds ⟨2, 0, x, []⟩).1, 0, 1) := rfl
  generalize expandM ds s x c = m at hM ⊢
  generalize mk ds ⟨2, 0, x, []⟩ = t at h2 h3 hM
  obtain ⟨ds1, t1, e1⟩ := t
  simp only at h2 h3 hM
  generalize hmm : made ds1 6 [s, t1, c] = m3 at h3 hM
  generalize termsB ds [s, c] = b at h1 hM
  clear hr hmm hx
  generalize strB x = X at h2 ⊢
  have HX := Shut.mk hM
  clear hM
  go_enter Tryd.func35, Tryd.ntmps35
  go_wp2_with fail
  refine h1.mono ?_
  rintro e w1 ⟨rfl, k1⟩
  go_wp2_with fail
  refine (h2 w1 (k0.trans k1)).mono ?_
  rintro e w2 ⟨rfl, a2, k2⟩
  have kk2 : Keep S w w2 := ((k0.trans k1).keep S).trans k2
  cases b with
  | false =>
    have HM := Shut.mk (show m = (ds1, 0, 1) from HX.out)
    go_wp2
    go_ret2
    exact ⟨by rw [HM.out]; rfl, by rw [HM.out]; exact a2, kk2⟩
  | true =>
    by_cases he : e1 = 0
    · subst he
      have HM := Shut.mk (show m = m3 from HX.out)
      have k3 : Kept w2 (w2.alloc (.cells #[.int .i64 s, .int .i64 t1, .int .i64 c] 3)) := (Kept.refl w2).alloc _
      have hr3 : RdI (w2.alloc (.cells #[.int .i64 s, .int .i64 t1, .int .i64 c] 3)) (.slice (some ⟨w2.heap.size, 0, none⟩) 3 3) [s, t1, c] := RdI.lit w2 [s, t1, c] (by simp)
      have h3' := h3 _ (a2.step k3) _ hr3
      clear hr3 h3
      go_wp2_with fail
      refine h3'.mono ?_
      rintro e w4 ⟨rfl, a4, k4⟩
      go_wp2
      go_ret2
      exact ⟨by rw [HM.out]; rfl, by rw [HM.out]; exact a4, (kk2.kept k3).trans k4⟩
    · have HM := Shut.mk (show m = (ds1, 0, e1) by rw [HX.out, if_pos rfl, if_neg he])
      have hd : (e1 != 0) = true := by simpa using he
      clear he
      go_wp2
      go_ret2
      exact ⟨by rw [HM.out]; rfl, by rw [HM.out]; exact a2, kk2⟩
end Go.Proofs.YtekieioffaafaaaDoor
end

section
/- Walks of package crypto: Derive, Seal, Open, Unlock. -/
set_option linter.unusedSimpArgs false
set_option linter.unusedVariables false
namespace Go.Proofs.YtekieioffaafaaaDoor
open Go.RowKit Go.Maps

set_option maxHeartbeats 4000000 in
set_option maxRecDepth 100000 in
theorem deriveA {w0 : World} {S : Nat → Prop} {w : World} {p : Value} {ds : List Nd} (h : At w0 S w p ds) {s : Int} {x : List UInt8} (hs : I64 s) (hx : x.length ≤ maxLen) :
    Calls Tryd.prog 34 #[p, .int .i64 s, .string (strB x)] w (MkPost w0 S w p (deriveM ds s x)) := by
  have k0 : Kept w (w.alloc (.cells #[.int .i64 s] 3)) := (Kept.refl w).alloc _
  have hr : RdI (w.alloc (.cells #[.int .i64 s] 3)) (.slice (some ⟨w.heap.size, 0, none⟩) 1 1) [s] := RdI.lit w [s] (by simp)
  have h1 := termsA (h.step k0) hr
  have h2 := fun W (k : Kept w W) => listA (h.step k) (RdI.nil W) (fun y hy => by cases hy)
  have h3 : ∀ (W : World) (_ : At w0 S W p (mk ds ⟨3, 0, [], []⟩).1), Calls Tryd.prog 50 #[p, .string (strB x)] W (MkPost w0 S W p (mk (mk ds ⟨3, 0, [], []⟩).1 ⟨2, 0, x, []⟩)) := fun W hW => textA hW x hx
  have h4 : ∀ (W : World) (_ : At w0 S W p (mk ds ⟨3, 0, [], []⟩).1), Calls Tryd.prog 35 #[p, .int .i64 s, .string (strB x), .int .i64 (mk ds ⟨3, 0, [], []⟩).2.1] W (MkPost w0 S W p (expandM (mk ds ⟨3, 0, [], []⟩).1 s x (mk ds ⟨3, 0, [], []⟩).2.1)) := fun W hW => expandA hW hs (mk_t64' ds _ h.few) hx
  have hM : deriveM ds s x = if termsB ds [s] then if (mk ds ⟨3, 0, [], []⟩).2.2 = 0 then expandM (mk ds ⟨3, 0, [], []⟩).1 s x (mk ds ⟨3, 0, [], []⟩).2.1 else ((mk ds ⟨3, 0, [], []⟩).1, 0, (mk ds ⟨3, 0, [], []⟩).2.2) else ((mk (mk ds ⟨3, 0, [], []⟩).1 ⟨2, 0, x, []⟩).1, 0, 1) := rfl
  generalize deriveM ds s x = m at hM ⊢
  generalize mk ds ⟨3, 0, [], []⟩ = t at h2 h3 h4 hM
  obtain ⟨ds1, t1, e1⟩ := t
  simp only at h2 h3 h4 hM
  generalize mk ds1 ⟨2, 0, x, []⟩ = m2 at h3 hM
  generalize expandM ds1 s x t1 = m3 at h4 hM
  obtain ⟨ds2, t2, e2⟩ := m2
  simp only at h3 hM
  generalize termsB ds [s] = b at h1 hM
  generalize strB x = X at h3 h4 ⊢
  have HX := Shut.mk hM
  clear hM hr hx
  go_enter Tryd.func34, Tryd.ntmps34
  go_wp2_with fail
  refine h1.mono ?_
  rintro e w1 ⟨rfl, k1⟩
  go_wp2_with fail
  refine (h2 w1 (k0.trans k1)).mono ?_
  rintro e w2 ⟨rfl, a2, k2⟩
  have kk2 : Keep S w w2 := ((k0.trans k1).keep S).trans k2
  cases b with
  | false =>
    have HM := Shut.mk (show m = (ds2, 0, 1) from HX.out)
    go_wp2_with fail
    refine (h3 w2 a2).mono ?_
    rintro e w3 ⟨rfl, a3, k3⟩
    go_wp2
    go_ret2
    exact ⟨by rw [HM.out]; rfl, by rw [HM.out]; exact a3, kk2.trans k3⟩
  | true =>
    by_cases he : e1 = 0
    · subst he
      have HM := Shut.mk (show m = m3 from HX.out)
      go_wp2_with fail
      refine (h4 w2 a2).mono ?_
      rintro e w3 ⟨rfl, a3, k3⟩
      go_wp2
      go_ret2
      exact ⟨by rw [HM.out]; rfl, by rw [HM.out]; exact a3, kk2.trans k3⟩
    · have HM := Shut.mk (show m = (ds1, 0, e1) by rw [HX.out, if_pos rfl, if_neg he])
      have hd : (e1 != 0) = true := by simpa using he
      clear he
      go_wp2
      go_ret2
      exact ⟨by rw [HM.out]; rfl, by rw [HM.out]; exact a2, kk2⟩

end Go.Proofs.YtekieioffaafaaaDoor
end

section
/- The program's terms as trees: Derive, Public, Extract, Expand. -/
set_option linter.unusedSimpArgs false
set_option linter.unusedVariables false
namespace Go.Proofs.YtekieioffaafaaaDoor
open Go.RowKit Go.Maps

/-- What a call leaves that makes terms, no more than n, and of the one it answers Q. -/
def PMk (w0 : World) (S : Nat → Prop) (w : World) (p : Value) (ds : List Nd) (n : Nat) (Q : List Nd → Int → Prop) (e : Ending) (w' : World) : Prop :=
  ∃ (r : List Nd) (t : Int), e = .returned (.tuple #[.int .i64 t, .int .i64 0]) ∧ At w0 S w' p (ds ++ r) ∧ r.length ≤ n ∧ Q (ds ++ r) t ∧ Keep S w w'
theorem PMk.of {w0 : World} {S : Nat → Prop} {w : World} {p : Value} {ds : List Nd} {n : Nat} {Q : List Nd → Int → Prop} {m : List Nd × Int × Int} (hm : ∃ r t, m = (ds ++ r, t, 0) ∧ r.length ≤ n ∧ (Good (ds ++ r) → Q (ds ++ r) t)) {e : Ending} {w' : World} (h : MkPost w0 S w p m e w') : PMk w0 S w p ds n Q e w' := by
  obtain ⟨r, t, rfl, hr, hq⟩ := hm
  obtain ⟨he, ha, hk⟩ := h
  exact ⟨r, t, he, ha, hr, hq ha.good, hk⟩
theorem derive_den {ds : List Nd} {s : Int} {T : Tr} {x : List UInt8} (hs : Den T ds s) (hx : x.length ≤ 200) (hl : ds.length + 3 < 100000) : ∃ r t, deriveM ds s x = (ds ++ r, t, 0) ∧ r.length ≤ 3 ∧ (Good (ds ++ r) → Den (derT T x) (ds ++ r) t) := by
  obtain ⟨r1, t1, h1, hr1, i1⟩ := mk_is (may_list ds (l := []) (by simp) (fun x h => by cases h)) (by omega)
  obtain ⟨r2, y, t2, h2, hr2, i2, i3⟩ := expand_is (ds := ds ++ r1) (hs.1.more r1) i1.isT hx (by rw [List.length_append]; omega)
  refine ⟨r1 ++ r2, y, ?_, by rw [List.length_append]; omega, fun hg => ?_⟩
  · unfold deriveM
    rw [h1]
    simp only [terms_of (fun z hz => by rw [List.mem_singleton.1 hz]; exact hs.1), if_true]
    rw [h2, List.append_assoc]
  · rw [← List.append_assoc] at hg ⊢
    exact den_key hg i3 ((hs.more r1).more r2) i2 (den_list hg (i1.more r2) (DenL.nil _))
theorem pderive_ok {w0 : World} {S : Nat → Prop} {w : World} {p : Value} {ds : List Nd} {s : Int} {T : Tr} (h : At w0 S w p ds) (hs : Den T ds s) (x : List UInt8) (hx : x.length ≤ 200) (hl : ds.length + 3 < 100000) :
    Calls Tryd.prog 34 #[p, .int .i64 s, .string (strB x)] w (PMk w0 S w p ds 3 (Den (derT T x))) :=
  (deriveA h (hs.1.i64' (by omega)) (by unfold maxLen; omega)).mono fun _ _ q => PMk.of (derive_den hs hx hl) q
theorem ppublic_ok {w0 : World} {S : Nat → Prop} {w : World} {p : Value} {ds : List Nd} {s : Int} {T : Tr} (h : At w0 S w p ds) (hs : Den T ds s) (hl : ds.length < 100000) :
    Calls Tryd.prog 49 #[p, .int .i64 s] w (PMk w0 S w p ds 1 (Den (pubT T))) :=
  (publicA h (hs.1.i64' (by omega))).mono fun _ _ q => PMk.of (by
    obtain ⟨r, t, h1, hr, i1⟩ := mk_is (may1 (op := 7) (.inr rfl) hs.1) hl
    refine ⟨r, t, h1, hr, fun hg => ⟨i1.isT, ?_⟩⟩
    rw [den_is hg i1]
    unfold trN pubT
    simp only [List.map_cons, List.map_nil, (hs.more r).2]) q
theorem pextract_ok {w0 : World} {S : Nat → Prop} {w : World} {p : Value} {ds : List Nd} {a b : Int} {A B : Tr} (h : At w0 S w p ds) (ha : Den A ds a) (hb : Den B ds b) (hl : ds.length < 100000) :
    Calls Tryd.prog 41 #[p, .int .i64 a, .int .i64 b] w (PMk w0 S w p ds 1 (Den (mixT A B))) :=
  (extractA h (ha.1.i64' (by omega)) (hb.1.i64' (by omega))).mono fun _ _ q => PMk.of (by
    obtain ⟨r, t, h1, hr, i1⟩ := mk_is (may2 (op := 5) (.inl rfl) ha.1 hb.1) hl
    exact ⟨r, t, h1, hr, fun hg => den_mix hg i1 (ha.more r) (hb.more r)⟩) q
theorem expand_den {ds : List Nd} {s c : Int} {T C : Tr} {x : List UInt8} (hs : Den T ds s) (hc : Den C ds c) (hx : x.length ≤ 200) (hl : ds.length + 2 < 100000) : ∃ r t, expandM ds s x c = (ds ++ r, t, 0) ∧ r.length ≤ 2 ∧ (Good (ds ++ r) → Den (keyT T x C) (ds ++ r) t) := by
  obtain ⟨r, y, t, h1, hr, i1, i2⟩ := expand_is hs.1 hc.1 hx (by omega)
  exact ⟨r, y, h1, hr, fun hg => den_key hg i2 (hs.more r) i1 (hc.more r)⟩
theorem pexpand_ok {w0 : World} {S : Nat → Prop} {w : World} {p : Value} {ds : List Nd} {s c : Int} {T C : Tr} (h : At w0 S w p ds) (hs : Den T ds s) (hc : Den C ds c) (x : List UInt8) (hx : x.length ≤ 200) (hl : ds.length + 2 < 100000) :
    Calls Tryd.prog 35 #[p, .int .i64 s, .string (strB x), .int .i64 c] w (PMk w0 S w p ds 2 (Den (keyT T x C))) :=
  (expandA h (hs.1.i64' (by omega)) (hc.1.i64' (by omega)) (by unfold maxLen; omega)).mono fun _ _ q => PMk.of (expand_den hs hc hx hl) q
theorem ptext_ok {w0 : World} {S : Nat → Prop} {w : World} {p : Value} {ds : List Nd} (h : At w0 S w p ds) (x : List UInt8) (hx : x.length ≤ 200) (hl : ds.length < 100000) :
    Calls Tryd.prog 50 #[p, .string (strB x)] w (PMk w0 S w p ds 1 (Den (textT x))) :=
  (textA h x (by unfold maxLen; omega)).mono fun _ _ q => PMk.of (by
    obtain ⟨r, t, h1, hr, i1⟩ := mk_is (may_text ds hx) hl
    exact ⟨r, t, h1, hr, fun hg => den_text hg i1⟩) q
/-- What a call leaves that tells an error: no more than n terms were made. -/
def PNo (w0 : World) (S : Nat → Prop) (w : World) (p : Value) (ds : List Nd) (n : Nat) (e : Ending) (w' : World) : Prop :=
  ∃ r : List Nd, e = .returned (.tuple #[.int .i64 0, .int .i64 1]) ∧ At w0 S w' p (ds ++ r) ∧ r.length ≤ n ∧ Keep S w w'
theorem mk_long {ds : List Nd} {x : List UInt8} (hx : 200 < x.length) : mk ds ⟨2, 0, x, []⟩ = (ds, 0, 1) := mk_bad (fun h => by have := h.s0; simp only at this; omega)
theorem derive_long {ds : List Nd} {s : Int} {x : List UInt8} (hs : IsT ds s) (hx : 200 < x.length) (hl : ds.length < 100000) : ∃ r, deriveM ds s x = (ds ++ r, 0, 1) ∧ r.length ≤ 1 := by
  obtain ⟨r1, t1, h1, hr1, i1⟩ := mk_is (may_list ds (l := []) (by simp) (fun x h => by cases h)) hl
  refine ⟨r1, ?_, hr1⟩
  unfold deriveM
  rw [h1]
  simp only [terms_of (fun z hz => by rw [List.mem_singleton.1 hz]; exact hs), if_true]
  unfold expandM
  simp only [mk_long hx, terms2 (hs.more r1) i1.isT, if_true]
  rw [if_neg (by decide)]
theorem pderive_long {w0 : World} {S : Nat → Prop} {w : World} {p : Value} {ds : List Nd} {s : Int} (h : At w0 S w p ds) (hs : IsT ds s) (x : List UInt8) (hx : 200 < x.length) (hm : x.length ≤ maxLen) (hl : ds.length < 100000) :
    Calls Tryd.prog 34 #[p, .int .i64 s, .string (strB x)] w (PNo w0 S w p ds 1) :=
  (deriveA h (hs.i64' (by omega)) hm).mono fun e w' q => by
    obtain ⟨r, h1, hr⟩ := derive_long hs hx hl
    rw [h1] at q
    exact ⟨r, q.1, q.2.1, hr, q.2.2⟩
end Go.Proofs.YtekieioffaafaaaDoor
end

section
/- Package schedule: terms, Psk, Joiner, Inner, Export. -/
set_option linter.unusedSimpArgs false
set_option linter.unusedVariables false
namespace Go.Proofs.YtekieioffaafaaaDoor
open Go.RowKit Go.Maps

set_option maxHeartbeats 4000000 in
set_option maxRecDepth 100000 in
theorem sterms_any {w0 : World} {S : Nat → Prop} {w : World} {p : Value} {ds : List Nd} (ha : At w0 S w p ds) {v : Value} {l : List Int} (hd : RdI w v l) :
    Calls Tryd.prog 31 #[p, v] w fun e w' => e = .returned (.bool (termsB ds l)) ∧ w = w' := by
  obtain ⟨F, h, _⟩ := ha.ar
  have hfew := ha.few
  clear ha
  obtain ⟨la, lc, rfl, l1, l2, l3⟩ := hd.len
  have l63 : ((l.length : Nat) : Int) ≤ 9223372036854775807 := by unfold maxLen at l2; omega
  go_enter Tryd.func31, Tryd.ntmps31
  go_wp2
  go_loop [9] (fun i => ∃ k : Nat, (k ≤ l.length ∧ ∀ j, j < k → IsT ds (l.getD j 0)) ∧ i = .int .i64 k) (fun i => l.length - (intOf i).toNat)
  case atStart => exact ⟨0, ⟨Nat.zero_le _, fun j hj => absurd hj (Nat.not_lt_zero _)⟩, rfl⟩
  case round =>
    obtain ⟨k, ⟨hk0, hall⟩, rfl⟩ := hrel
    have HALL := Shut.mk hall
    clear hall
    by_cases hlt : k < l.length
    · obtain ⟨rb, ro, rc, hrv, _, _, hrb, hcell⟩ := hd.addr (by omega)
      simp only [Value.slice.injEq] at hrv
      obtain ⟨rfl, hdrop, rfl⟩ := hrv
      clear hdrop
      have x1 := hcell k hlt
      clear hcell
      generalize hx : l.getD k 0 = x at x1
      have HX := Shut.mk hx
      clear hx
      by_cases hT : 0 ≤ x ∧ x < (ds.length : Int)
      · have t0 := hT.1
        have t1 := hT.2
        have b0 : decide (x < 0) = false := decide_eq_false (by omega)
        have b1 : decide (x ≥ (ds.length : Int)) = false := decide_eq_false (by omega)
        have b2 : decide ((ds.length : Int) ≤ x) = false := decide_eq_false (by omega)
        have HT := Shut.mk hT
        clear hT
        go_wp2_with (go_at_call 39; refine (arg_len h).mono ?_; rintro e w' ⟨rfl, rfl⟩)
        go_round
        case rel => exact ⟨k + 1, ⟨hlt, fun j hj => by
          by_cases c : j < k
          · exact HALL.out j c
          · obtain rfl : j = k := by omega
            rw [HX.out]; exact HT.out⟩, rfl⟩
        case measure => simp [intOf]; omega
      · have HF := Shut.mk (terms_not hlt (by rw [HX.out]; exact hT))
        by_cases t0 : x < 0
        · clear hT
          go_wp2_with (go_at_call 39; refine (arg_len h).mono ?_; rintro e w' ⟨rfl, rfl⟩)
          go_ret
          exact ⟨by rw [HF.out]; rfl, rfl⟩
        · have t1 : (ds.length : Int) ≤ x := by omega
          have b0 : decide (x < 0) = false := decide_eq_false t0
          have b1 : decide (x ≥ (ds.length : Int)) = true := decide_eq_true t1
          have b2 : decide ((ds.length : Int) ≤ x) = true := decide_eq_true t1
          clear hT
          go_wp2_with (go_at_call 39; refine (arg_len h).mono ?_; rintro e w' ⟨rfl, rfl⟩)
          go_ret
          exact ⟨by rw [HF.out]; rfl, rfl⟩
    · obtain rfl : k = l.length := by omega
      have HT := Shut.mk (terms_take HALL.out)
      go_wp2
      go_ret
      exact ⟨by rw [HT.out]; rfl, rfl⟩

theorem At.ptr {w0 : World} {S : Nat → Prop} {w : World} {p : Value} {ds : List Nd} (h : At w0 S w p ds) : ∃ pb, p = .pointer (some ⟨pb, 0, none⟩) := by
  obtain ⟨F, hF, _⟩ := h.ar
  obtain ⟨pb, mb, nv, rfl, _, _, _⟩ := hF.nodes
  exact ⟨pb, rfl⟩

set_option maxHeartbeats 4000000 in
set_option maxRecDepth 100000 in
theorem PPsk_no {w0 : World} {S : Nat → Prop} {w : World} {p v : Value} {ds : List Nd} {l : List Int} (h : At w0 S w p ds) (hr : RdI w v l) (hb : termsB ds l = false) :
    Calls Tryd.prog 22 #[p, v] w fun e w' => e = .returned (.tuple #[.int .i64 0, .int .i64 1]) ∧ w = w' := by
  have HT := Lib.hid (sterms_any h hr)
  rw [hb] at HT
  obtain ⟨pb, rfl⟩ := h.ptr
  obtain ⟨va, vc, rfl, _, _, _⟩ := hr.len
  clear h hb
  go_enter Tryd.func22, Tryd.ntmps22
  go_wp2_with fail
  (with_reducible refine HT.out.mono ?_); rintro e wx ⟨rfl, rfl⟩
  go_wp2
  go_ret2
  exact ⟨rfl, rfl⟩

/-- Numbers that are read, wherever S stays. -/
def RdK (S : Nat → Prop) (w : World) (v : Value) (l : List Int) : Prop := ∀ W, Keep S w W → RdI W v l
theorem RdK.rd {S : Nat → Prop} {w : World} {v : Value} {l : List Int} (h : RdK S w v l) : RdI w v l := h w (Keep.refl S w)
theorem RdK.keep {S : Nat → Prop} {w w' : World} {v : Value} {l : List Int} (h : RdK S w v l) (k : Keep S w w') : RdK S w' v l := fun W k2 => h W (k.trans k2)
theorem RdI.rdK {S : Nat → Prop} {w0 w : World} {v : Value} {l : List Int} (h : RdI w0 v l) (k : Kept w0 w) (hb : ∀ b, b < w0.heap.size → S b) : RdK S w v l := fun W k2 => h.kept (k2.of k hb)
theorem RdK.nil (S : Nat → Prop) (w : World) : RdK S w (.slice none 0 0) [] := fun W _ => RdI.nil W
theorem RdK.own {S : Nat → Prop} {w : World} {B : Nat} {v : Value} {l : List Int} (h : OwnI B w v l) (hs : ∀ b, Blks v b → S b) : RdK S w v l := fun W k => (k.owni h hs).rd

set_option maxHeartbeats 4000000 in
set_option maxRecDepth 100000 in
theorem PPsk_ok {w0 : World} {S : Nat → Prop} {w : World} {p v : Value} {ds : List Nd} {l : List Int} {L : List Tr} (h : At w0 S w p ds) (hk : RdK S w v l) (hL : DenL L ds l) (hl : ds.length + l.length + 1 < 100000) :
    Calls Tryd.prog 22 #[p, v] w (PMk w0 S w p ds (l.length + 1) (Den (pskT L))) := by
  have HT := Lib.hid (sterms_any h hk.rd)
  rw [terms_of hL.1] at HT
  have HX := Lib.hid (ptext_ok h [] (by simp) (by omega))
  rw [show strB [] = ⟨#[]⟩ from rfl] at HX
  have hE := fun W (r : List Nd) (t x : Int) (A B : Tr) (a : At w0 S W p (ds ++ r)) (ht : Den A (ds ++ r) t) (hx : Den B (ds ++ r) x) (hr : r.length ≤ l.length + 1) => pextract_ok a ht hx (by rw [List.length_append]; omega)
  have HE := Lib.hid hE
  have HLl : L.length = l.length := by rw [← hL.2, List.length_map]
  have HLL := Shut.mk HLl
  have HL := Shut.mk (show ∀ k (r : List Nd), k < l.length → Den (L.getD k tr0) (ds ++ r) (l.getD k 0) from fun k r hk => by
    have e2 : l.getD k 0 = l[k] := by rw [List.getD_eq_getElem?_getD, List.getElem?_eq_getElem hk]; rfl
    rw [e2]
    refine Den.more ⟨hL.1 _ (List.getElem_mem hk), ?_⟩ r
    rw [← hL.2, List.getD_eq_getElem?_getD, List.getElem?_eq_getElem (by rw [List.length_map]; exact hk), Option.getD_some, List.getElem_map])
  obtain ⟨pb, rfl⟩ := h.ptr
  obtain ⟨va, vc, rfl, l1, l2, l3⟩ := hk.rd.len
  have l63 : ((l.length : Nat) : Int) ≤ 9223372036854775807 := by unfold maxLen at l2; omega
  have HR := Lib.hid hk
  clear h hL hE hk HLl
  go_enter Tryd.func22, Tryd.ntmps22
  go_wp2_with fail
  (with_reducible refine HT.out.mono ?_); rintro e wx ⟨rfl, rfl⟩
  go_wp2_with fail
  (with_reducible refine HX.out.mono ?_); rintro e w2 ⟨r2, t2, rfl, a2, hr2, d2, k2⟩
  have A2 := Lib.hid a2
  have K2 := Lib.hid k2
  have D2 := Shut.mk d2
  clear a2 k2 d2 HT HX
  go_wp2
  go_loopw [6, 7, 21] (fun tv ev i wr => ∃ (k : Nat) (r : List Nd) (t : Int), k ≤ l.length ∧ i = .int .i64 k ∧ ev = .int .i64 0 ∧ tv = .int .i64 t ∧ At w0 S wr (.pointer (some ⟨pb, 0, none⟩)) (ds ++ r) ∧ r.length ≤ k + 1 ∧ Den (pskT (L.take k)) (ds ++ r) t ∧ Keep S w wr) (fun _ _ i _ => l.length - (intOf i).toNat)
  case atStart => exact ⟨0, r2, t2, Nat.zero_le _, rfl, rfl, rfl, A2.out, hr2, D2.out, K2.out⟩
  case round =>
    obtain ⟨k, r, t, hk0, rfl, rfl, rfl, a3, hr3, d3, k3⟩ := hrel
    have A3 := Lib.hid a3
    have D3 := Shut.mk d3
    have K3 := Lib.hid k3
    by_cases hlt : k < l.length
    · obtain ⟨rb, ro, rc, hrv, _, _, hrb, hcl⟩ := (HR.out wr k3).addr (by omega)
      simp only [Value.slice.injEq] at hrv
      obtain ⟨rfl, hdrop, rfl⟩ := hrv
      clear hdrop
      have x0 := hcl k hlt
      have HX := Lib.hid (HE.out wr r t _ _ _ a3 d3 (HL.out k r hlt) (by omega))
      have HTK := Shut.mk (show pskT (L.take (k + 1)) = mixT (pskT (L.take k)) (L.getD k tr0) by
        rw [List.take_succ_eq_append_getElem (by rw [HLL.out]; exact hlt), pskT_snoc, List.getD_eq_getElem?_getD, List.getElem?_eq_getElem (by rw [HLL.out]; exact hlt)]; rfl)
      clear hcl a3 d3 k3
      generalize l.getD k 0 = x at *
      generalize L.getD k tr0 = X at *
      go_wp2_with fail
      (with_reducible refine HX.out.mono ?_); rintro e w4 ⟨r4, t4, rfl, a4, hr4, d4, k4⟩
      have A4 := Lib.hid a4
      have D4 := Shut.mk d4
      have K4 := Lib.hid k4
      clear a4 d4 k4
      go_wp2
      go_roundw
      case rel =>
        refine ⟨k + 1, r ++ r4, t4, hlt, by go_num, rfl, rfl, by rw [← List.append_assoc]; exact A4.out, by rw [List.length_append]; omega, by rw [← List.append_assoc, HTK.out]; exact D4.out, K3.out.trans K4.out⟩
      case measure => simp [intOf]; omega
    · obtain rfl : k = l.length := by omega
      clear a3 d3 k3
      go_wp2
      go_ret2
      refine ⟨r, t, rfl, A3.out, hr3, ?_, K3.out⟩
      have := D3.out
      rwa [List.take_of_length_le (by rw [HLL.out]; exact Nat.le_refl _)] at this

set_option maxHeartbeats 4000000 in
set_option maxRecDepth 100000 in
theorem PJoiner_no {w0 : World} {S : Nat → Prop} {w : World} {p : Value} {ds : List Nd} {i c x : Int} (h : At w0 S w p ds) (hb : termsB ds [i, c, x] = false) :
    Calls Tryd.prog 18 #[p, .int .i64 i, .int .i64 c, .int .i64 x] w fun e w' => e = .returned (.tuple #[.int .i64 0, .int .i64 1]) ∧ Kept w w' := by
  have k1 : Kept w (w.alloc (.cells #[.int .i64 i, .int .i64 c, .int .i64 x] 3)) := (Kept.refl w).alloc _
  have HT := Lib.hid (sterms_any (h.step k1) (RdI.sl3 w i c x))
  rw [hb] at HT
  obtain ⟨pb, rfl⟩ := h.ptr
  clear h hb
  go_enter Tryd.func18, Tryd.ntmps18
  go_wp2_with fail
  (with_reducible refine HT.out.mono ?_); rintro e wx ⟨rfl, rfl⟩
  go_wp2
  go_ret2
  exact ⟨rfl, k1⟩
set_option maxHeartbeats 4000000 in
set_option maxRecDepth 100000 in
theorem PJoiner_ok {w0 : World} {S : Nat → Prop} {w : World} {p : Value} {ds : List Nd} {i c x : Int} {I C X : Tr} (h : At w0 S w p ds) (hi : Den I ds i) (hc : Den C ds c) (hx : Den X ds x) (hl : ds.length + 3 < 100000) :
    Calls Tryd.prog 18 #[p, .int .i64 i, .int .i64 c, .int .i64 x] w (PMk w0 S w p ds 3 (Den (joinT I C X))) := by
  have k1 : Kept w (w.alloc (.cells #[.int .i64 i, .int .i64 c, .int .i64 x] 3)) := (Kept.refl w).alloc _
  have HT := Lib.hid (sterms_any (h.step k1) (RdI.sl3 w i c x))
  rw [terms3 hi.1 hc.1 hx.1] at HT
  have HM := Lib.hid (pextract_ok (h.step k1) hi hc (by omega))
  have HE := Lib.hid (fun W (r : List Nd) (t : Int) (a : At w0 S W p (ds ++ r)) (hr : r.length ≤ 1) (d : Den (mixT I C) (ds ++ r) t) => pexpand_ok a d (hx.more r) joinerS (by decide) (by rw [List.length_append]; omega))
  have es : strB joinerS = ⟨#[106, 111, 105, 110, 101, 114]⟩ := rfl
  rw [es] at HE
  obtain ⟨pb, rfl⟩ := h.ptr
  clear h hi hc hx es
  go_enter Tryd.func18, Tryd.ntmps18
  go_wp2_with fail
  (with_reducible refine HT.out.mono ?_); rintro e wx ⟨rfl, rfl⟩
  go_wp2_with fail
  (with_reducible refine HM.out.mono ?_); rintro e w2 ⟨r2, t2, rfl, a2, hr2, d2, k2⟩
  have HX := Lib.hid (HE.out w2 r2 t2 a2 hr2 d2)
  clear HT HM HE a2 d2
  go_wp2_with fail
  (with_reducible refine HX.out.mono ?_); rintro e w3 ⟨r3, t3, rfl, a3, hr3, d3, k3⟩
  go_wp2
  go_ret2
  exact ⟨r2 ++ r3, t3, rfl, by rw [← List.append_assoc]; exact a3, by rw [List.length_append]; omega, by rw [← List.append_assoc]; exact d3, ((k1.keep S).trans k2).trans k3⟩

/-- An epoch in memory. -/
def epL (x : Ep) : List Value := [.int .i64 x.joiner, .int .i64 x.welcome, .int .i64 x.epoch, .int .i64 x.sender, .int .i64 x.encryption, .int .i64 x.exporter, .int .i64 x.confirm, .int .i64 x.membership, .int .i64 x.resumption, .int .i64 x.external, .int .i64 x.init]
def epV (x : Ep) : Value := .agg #[.int .i64 x.joiner, .int .i64 x.welcome, .int .i64 x.epoch, .int .i64 x.sender, .int .i64 x.encryption, .int .i64 x.exporter, .int .i64 x.confirm, .int .i64 x.membership, .int .i64 x.resumption, .int .i64 x.external, .int .i64 x.init]
end Go.Proofs.YtekieioffaafaaaDoor
end

section
/- Package schedule: the closures of Begin (written by gen_scc.py). -/
set_option linter.unusedSimpArgs false
set_option linter.unusedVariables false
namespace Go.Proofs.YtekieioffaafaaaDoor
open Go.RowKit Go.Maps

/-- What a call turns that has an error's box of its caller. -/
def We (S : Nat → Prop) (eb : Nat) : Nat → Prop := fun b => ¬ S b ∨ b = eb
/-- The arena p with the terms ds; in the box eb no error yet. S stays. -/
structure Ly (w0 : World) (S : Nat → Prop) (w : World) (eb : Nat) (p : Value) (ds : List Nd) : Prop where
  arena : At w0 S w p ds
  blk : Blk w eb 31 [.int .i64 0]
  inS : S eb
  new : w0.heap.size ≤ eb
theorem Ly.step {w0 : World} {S : Nat → Prop} {w w' : World} {eb : Nat} {p : Value} {ds : List Nd} (h : Ly w0 S w eb p ds) (k : Kept w w') : Ly w0 S w' eb p ds :=
  ⟨h.arena.step k, h.blk.kept k, h.inS, h.new⟩
theorem Ly.more {w0 : World} {S T : Nat → Prop} {w w' : World} {eb : Nat} {p : Value} {ds : List Nd} (h : Ly w0 S w eb p ds) (k : Kept w w') (hT : ∀ b, T b → (S b ∨ w.heap.size ≤ b) ∧ b < w'.heap.size) (hs : ∀ b, S b → T b) : Ly w0 T w' eb p ds :=
  ⟨h.arena.more k hT (fun b hb => hs b (h.arena.base b hb)), h.blk.kept k, hs _ h.inS, h.new⟩
/-- S, and all that is new since w. -/
def PlusE (S : Nat → Prop) (w w' : World) : Nat → Prop := fun b => S b ∨ (w.heap.size ≤ b ∧ b < w'.heap.size)
theorem Ly.plus {w0 : World} {S : Nat → Prop} {w w' : World} {eb : Nat} {p : Value} {ds : List Nd} (h : Ly w0 S w eb p ds) (k : Kept w w') : Ly w0 (PlusE S w w') w' eb p ds :=
  h.more k (fun b hb => by
    rcases hb with hb | hb
    · exact ⟨.inl hb, Nat.lt_of_lt_of_le (h.arena.old b hb) k.size⟩
    · exact ⟨.inr hb.1, hb.2⟩) (fun b hb => .inl hb)
theorem At.fewer {w0 : World} {S T : Nat → Prop} {w : World} {p : Value} {ds : List Nd} (h : At w0 T w p ds) (hs : ∀ b, S b → T b) (hb : ∀ b, b < w0.heap.size → S b) : At w0 S w p ds :=
  h.more (Kept.refl w) (fun b hb => ⟨.inl (hs b hb), h.old b (hs b hb)⟩) hb
theorem Ly.fewer {w0 : World} {S T : Nat → Prop} {w : World} {eb : Nat} {p : Value} {ds : List Nd} (h : Ly w0 T w eb p ds) (hs : ∀ b, S b → T b) (hb0 : ∀ b, b < w0.heap.size → S b) (h1 : S eb) : Ly w0 S w eb p ds :=
  ⟨h.arena.fewer hs hb0, h.blk, h1, h.new⟩
/-- What a call leaves that makes terms: no more than n, and of the last one Q. -/
def LMk (w0 : World) (S : Nat → Prop) (w : World) (eb : Nat) (p : Value) (ds : List Nd) (n : Nat) (Q : List Nd → Int → Prop) (e : Ending) (w' : World) : Prop :=
  ∃ (r : List Nd) (t : Int), e = .returned (.int .i64 t) ∧ Ly w0 S w' eb p (ds ++ r) ∧ r.length ≤ n ∧ Q (ds ++ r) t ∧ Turn (We S eb) w w'
theorem LMk.back {w0 : World} {S T : Nat → Prop} {w w1 : World} {eb : Nat} {p : Value} {ds : List Nd} {n : Nat} {Q : List Nd → Int → Prop} {e : Ending} {w' : World} (h : LMk w0 T w1 eb p ds n Q e w') (hs : ∀ b, S b → T b) (hb0 : ∀ b, b < w0.heap.size → S b) (h1 : S eb) (k : Turn (We S eb) w w1) : LMk w0 S w eb p ds n Q e w' := by
  obtain ⟨r, t, h2, h3, h4, h5, h6⟩ := h
  exact ⟨r, t, h2, h3.fewer hs hb0 h1, h4, h5, Turn.trans k h6 (fun b q => .inl (q.elim (fun c => .inl fun d => c (hs b d)) .inr))⟩
theorem Blk.we {S : Nat → Prop} {w w' : World} {eb b : Nat} {ty : TypeId} {cs : List Value} (h : Blk w b ty cs) (t : Turn (We S eb) w w') (hs : S b) (hn : b ≠ eb) : Blk w' b ty cs :=
  h.turn t (fun c => c.elim (fun d => d hs) (fun d => hn d))
set_option maxHeartbeats 4000000 in
set_option maxRecDepth 100000 in
/-- What is laid by a function that is handed in. -/
theorem lay_ok {w0 : World} {S : Nat → Prop} {w : World} {eb : Nat} {p : Value} {ds : List Nd} {n : Nat} {Q : List Nd → Int → Prop} (h : Ly w0 S w eb p ds) (g : Nat) (caps : Array Value) (eg : ∀ args w, (callFunc g args).run Tryd.prog w = .ok (.enter g args) w)
    (hG : ∀ W, Kept w W → Calls Tryd.prog g caps W (PMk w0 S W p ds n Q)) :
    Calls Tryd.prog 43 #[.func (.func g) #[] caps, .pointer (some ⟨eb, 0, none⟩)] w (LMk w0 S w eb p ds n Q) := by
  have HH := Lib.hid h
  have HG := Lib.hid (hG w (Kept.refl w))
  have g0 := h.blk.cell 0
  simp only [List.getElem?_cons_zero] at g0
  clear h hG
  go_enter Tryd.func43, Tryd.ntmps43
  go_wp2_with fail
  refine HG.out.mono ?_
  rintro e w2 ⟨r, t, rfl, a2, hr, hQ, t2⟩
  have b2 := Keep.blk t2 HH.out.blk HH.out.inS
  have q0 := b2.cell 0
  have f0 := b2.frozen 0
  simp only [List.getElem?_cons_zero] at q0
  go_wp2
  go_ret
  have a3 := a2.turn (turn_setCell w2 ⟨eb, 0, none⟩ (.int .i64 0)) (fun b e => by cases e; exact ⟨HH.out.inS, HH.out.new⟩)
  have b3 := b2.set 0 (.int .i64 0)
  have t3 : Turn (We S eb) w (w2.setCell ⟨eb, 0, none⟩ (.int .i64 0)) := Turn.trans (t2.mono fun b q => .inl q) (turn_setCell w2 ⟨eb, 0, none⟩ (.int .i64 0)) (fun b e => .inl (.inr e))
  exact ⟨r, t, rfl, ⟨a3, b3, HH.out.inS, HH.out.new⟩, hr, hQ, t3⟩
set_option maxHeartbeats 4000000 in
set_option maxRecDepth 100000 in
theorem bder1 {w0 : World} {S : Nat → Prop} {w : World} {b0 b1 b2 : Nat} {p : Value} {ds : List Nd} {s : Int} {T : Tr} {x : List UInt8} (h : At w0 S w p ds) (hs : Den T ds s) (hx : x.length ≤ 200) (hl : ds.length + 3 < 100000)
    (c0 : w.cell? ⟨b0, 0, none⟩ = some (p)) (c1 : w.cell? ⟨b1, 0, none⟩ = some (.int .i64 s)) (c2 : w.cell? ⟨b2, 0, none⟩ = some (.string (strB x))) :
    Calls Tryd.prog 45 #[.pointer (some ⟨b0, 0, none⟩), .pointer (some ⟨b1, 0, none⟩), .pointer (some ⟨b2, 0, none⟩)] w (PMk w0 S w p ds 3 (Den (derT T x))) := by
  have HD := Lib.hid (pderive_ok h hs x hx hl)
  obtain ⟨pb, rfl⟩ := h.ptr
  clear h
  generalize strB x = X at *
  go_enter Tryd.func45, Tryd.ntmps45
  go_wp2_with fail
  (with_reducible refine HD.out.mono ?_); rintro e w2 ⟨r, t, rfl, a2, hr, hQ, t2⟩
  go_wp2
  go_ret2
  exact ⟨r, t, rfl, a2, hr, hQ, t2⟩
set_option maxHeartbeats 4000000 in
set_option maxRecDepth 100000 in
theorem bext {w0 : World} {S : Nat → Prop} {w : World} {b0 b1 b2 : Nat} {p : Value} {ds : List Nd} {i j : Int} {I J : Tr} (h : At w0 S w p ds) (hi : Den I ds i) (hj : Den J ds j) (hl : ds.length < 100000)
    (c0 : w.cell? ⟨b0, 0, none⟩ = some (p)) (c1 : w.cell? ⟨b1, 0, none⟩ = some (.int .i64 i)) (c2 : w.cell? ⟨b2, 0, none⟩ = some (.int .i64 j)) :
    Calls Tryd.prog 46 #[.pointer (some ⟨b0, 0, none⟩), .pointer (some ⟨b1, 0, none⟩), .pointer (some ⟨b2, 0, none⟩)] w (PMk w0 S w p ds 1 (Den (mixT I J))) := by
  have HD := Lib.hid (pextract_ok h hi hj hl)
  obtain ⟨pb, rfl⟩ := h.ptr
  clear h
  go_enter Tryd.func46, Tryd.ntmps46
  go_wp2_with fail
  (with_reducible refine HD.out.mono ?_); rintro e w2 ⟨r, t, rfl, a2, hr, hQ, t2⟩
  go_wp2
  go_ret2
  exact ⟨r, t, rfl, a2, hr, hQ, t2⟩
set_option maxHeartbeats 4000000 in
set_option maxRecDepth 100000 in
theorem bpub {w0 : World} {S : Nat → Prop} {w : World} {b0 b1 : Nat} {p : Value} {ds : List Nd} {s : Int} {T : Tr} (h : At w0 S w p ds) (hs : Den T ds s) (hl : ds.length < 100000)
    (c0 : w.cell? ⟨b0, 0, none⟩ = some (p)) (c1 : w.cell? ⟨b1, 0, none⟩ = some (.int .i64 s)) :
    Calls Tryd.prog 48 #[.pointer (some ⟨b0, 0, none⟩), .pointer (some ⟨b1, 0, none⟩)] w (PMk w0 S w p ds 1 (Den (pubT T))) := by
  have HD := Lib.hid (ppublic_ok h hs hl)
  obtain ⟨pb, rfl⟩ := h.ptr
  clear h
  go_enter Tryd.func48, Tryd.ntmps48
  go_wp2_with fail
  (with_reducible refine HD.out.mono ?_); rintro e w2 ⟨r, t, rfl, a2, hr, hQ, t2⟩
  go_wp2
  go_ret2
  exact ⟨r, t, rfl, a2, hr, hQ, t2⟩
set_option maxHeartbeats 4000000 in
set_option maxRecDepth 100000 in
theorem bexp {w0 : World} {S : Nat → Prop} {w : World} {b0 b1 b2 : Nat} {p : Value} {ds : List Nd} {s c : Int} {T C : Tr} (h : At w0 S w p ds) (hs : Den T ds s) (hc : Den C ds c) (hl : ds.length + 2 < 100000)
    (c0 : w.cell? ⟨b0, 0, none⟩ = some (p)) (c1 : w.cell? ⟨b1, 0, none⟩ = some (.int .i64 s)) (c2 : w.cell? ⟨b2, 0, none⟩ = some (.int .i64 c)) :
    Calls Tryd.prog 47 #[.pointer (some ⟨b0, 0, none⟩), .pointer (some ⟨b1, 0, none⟩), .pointer (some ⟨b2, 0, none⟩)] w (PMk w0 S w p ds 2 (Den (keyT T epochS C))) := by
  have HD := Lib.hid (pexpand_ok h hs hc epochS (by decide) hl)
  rw [show strB epochS = ⟨#[101, 112, 111, 99, 104]⟩ from rfl] at HD
  obtain ⟨pb, rfl⟩ := h.ptr
  clear h
  go_enter Tryd.func47, Tryd.ntmps47
  go_wp2_with fail
  (with_reducible refine HD.out.mono ?_); rintro e w2 ⟨r, t, rfl, a2, hr, hQ, t2⟩
  go_wp2
  go_ret2
  exact ⟨r, t, rfl, a2, hr, hQ, t2⟩
/-- The function that lays, in memory. -/
def layV (eb : Nat) : Value := .func (.func 43) #[] #[.pointer (some ⟨eb, 0, none⟩)]
set_option maxHeartbeats 4000000 in
set_option maxRecDepth 100000 in
theorem bder_ok {w0 : World} {S : Nat → Prop} {w : World} {eb lb ab : Nat} {p : Value} {ds : List Nd} {s : Int} {T : Tr} {x : List UInt8} (h : Ly w0 S w eb p ds) (hs : Den T ds s) (hx : x.length ≤ 200) (hl : ds.length + 3 < 100000)
    (cl : w.cell? ⟨lb, 0, none⟩ = some (layV eb)) (ca : w.cell? ⟨ab, 0, none⟩ = some p) :
    Calls Tryd.prog 44 #[.int .i64 s, .string (strB x), .pointer (some ⟨lb, 0, none⟩), .pointer (some ⟨ab, 0, none⟩)] w (LMk w0 S w eb p ds 3 (Den (derT T x))) := by
  have k0 : Kept w ((w.alloc (.cells #[.int .i64 s] 3)).alloc (.cells #[.string (strB x)] 9)) := ((Kept.refl w).alloc (.cells #[.int .i64 s] 3)).alloc (.cells #[.string (strB x)] 9)
  have b0 := (Blk.new w [.int .i64 s] 3).kept ((Kept.refl _).alloc (.cells #[.string (strB x)] 9))
  have b1 := Blk.new (w.alloc (.cells #[.int .i64 s] 3)) [.string (strB x)] 9
  simp only [World.size_alloc] at b1
  have ca1 := (k0.cell (World.block_lt_of_cell? _ _ ca)).trans ca
  have HS := Lib.hid (fun W (k : Kept ((w.alloc (.cells #[.int .i64 s] 3)).alloc (.cells #[.string (strB x)] 9)) W) => lay_ok ((h.step k0).step k) 45 #[.pointer (some ⟨ab, 0, none⟩), .pointer (some ⟨w.heap.size, 0, none⟩), .pointer (some ⟨w.heap.size + 1, 0, none⟩)] (enters_of Tryd.func45 (by kernel_rfl) rfl)
    (fun W' k' => bder1 (((h.step k0).step k).step k').arena hs hx hl (((k.trans k').cell (World.block_lt_of_cell? _ _ ca1)).trans ca1) (((b0.kept k).kept k').cell 0) (((b1.kept k).kept k').cell 0)))
  have HB := Lib.hid (fun e w2 (q : LMk w0 S ((w.alloc (.cells #[.int .i64 s] 3)).alloc (.cells #[.string (strB x)] 9)) eb p ds 3 (Den (derT T x)) e w2) => q.back (fun b q => q) h.arena.base h.inS (k0.turn _))
  have cl1 := (k0.cell (World.block_lt_of_cell? _ _ cl)).trans cl
  unfold layV at cl1
  generalize strB x = X at *
  clear h b0 b1 k0 ca ca1 cl
  go_enter Tryd.func44, Tryd.ntmps44
  go_wp2_with fail
  (with_reducible refine (HS.out _ (Kept.refl _)).mono ?_); rintro e w2 ⟨r, t, rfl, h2, hr, hQ, t2⟩
  go_wp2
  go_ret
  exact HB.out _ _ ⟨r, t, rfl, h2, hr, hQ, t2⟩
end Go.Proofs.YtekieioffaafaaaDoor
end

section
/- Package schedule: Begin (written by gen_scd.py). -/
set_option linter.unusedSimpArgs false
set_option linter.unusedVariables false
namespace Go.Proofs.YtekieioffaafaaaDoor
open Go.RowKit Go.Maps

theorem At.plusE {w0 : World} {S : Nat → Prop} {w w' : World} {p : Value} {ds : List Nd} (h : At w0 S w p ds) (k : Kept w w') : At w0 (PlusE S w w') w' p ds :=
  h.more k (fun b hb => by
    rcases hb with hb | hb
    · exact ⟨.inl hb, Nat.lt_of_lt_of_le (h.old b hb) k.size⟩
    · exact ⟨.inr hb.1, hb.2⟩) (fun b hb => .inl (h.base b hb))
/-- Begin's memory: boxes that stay (K), the error's box eb, the epoch's block sb with x, the result's rb; since w only blocks that are not of S have turned. -/
structure Bs (w0 : World) (S : Nat → Prop) (w : World) (T : Nat → Prop) (W : World) (eb sb rb : Nat) (K : List (Nat × TypeId × Value)) (p : Value) (ds : List Nd) (x : List Value) : Prop where
  ly : Ly w0 T W eb p ds
  con : ∀ k ∈ K, Blk W k.1 k.2.1 [k.2.2] ∧ T k.1 ∧ k.1 ≠ eb ∧ k.1 ≠ sb
  ep : Blk W sb 30 x
  sT : T sb
  res : Blk W rb 30 [.int .i64 0, .int .i64 0, .int .i64 0, .int .i64 0, .int .i64 0, .int .i64 0, .int .i64 0, .int .i64 0, .int .i64 0, .int .i64 0, .int .i64 0]
  rT : T rb
  ne : sb ≠ eb ∧ rb ≠ eb ∧ rb ≠ sb
  sub : ∀ b, S b → T b
  new : ¬ S eb ∧ ¬ S sb
  sW : w0.heap.size ≤ sb
  keep : Keep S w W
theorem Bs.step {w0 : World} {S : Nat → Prop} {w : World} {T : Nat → Prop} {W W' : World} {eb sb rb : Nat} {K : List (Nat × TypeId × Value)} {p : Value} {ds : List Nd} {x : List Value} (h : Bs w0 S w T W eb sb rb K p ds x) (k : Kept W W') : Bs w0 S w T W' eb sb rb K p ds x :=
  ⟨h.ly.step k, fun c hc => ⟨(h.con c hc).1.kept k, (h.con c hc).2⟩, h.ep.kept k, h.sT, h.res.kept k, h.rT, h.ne, h.sub, h.new, h.sW, h.keep.kept k⟩
/-- Behind a call that makes terms. -/
theorem Bs.call {w0 : World} {S : Nat → Prop} {w : World} {T : Nat → Prop} {W W' : World} {eb sb rb : Nat} {K : List (Nat × TypeId × Value)} {p : Value} {ds es : List Nd} {x : List Value} (h : Bs w0 S w T W eb sb rb K p ds x) (l : Ly w0 T W' eb p es) (t : Turn (We T eb) W W') : Bs w0 S w T W' eb sb rb K p es x :=
  ⟨l, fun c hc => ⟨(h.con c hc).1.we t (h.con c hc).2.1 (h.con c hc).2.2.1, (h.con c hc).2⟩, h.ep.we t h.sT h.ne.1, h.sT, h.res.we t h.rT h.ne.2.1, h.rT, h.ne, h.sub, h.new, h.sW, Turn.trans h.keep t (fun b q => .inl (q.elim (fun c d => c (h.sub b d)) (fun c d => h.new.1 (c ▸ d))))⟩
/-- A field of the epoch is written. -/
theorem Bs.set {w0 : World} {S : Nat → Prop} {w : World} {T : Nat → Prop} {W : World} {eb sb rb : Nat} {K : List (Nat × TypeId × Value)} {p : Value} {ds : List Nd} {x : List Value} (h : Bs w0 S w T W eb sb rb K p ds x) (i : Nat) (v : Value) : Bs w0 S w T (W.setCell ⟨sb, i, none⟩ v) eb sb rb K p ds (x.set i v) := by
  have t := turn_setCell W ⟨sb, i, none⟩ v
  exact ⟨⟨h.ly.arena.turn t (fun b e => by cases e; exact ⟨h.sT, h.sW⟩), h.ly.blk.turn t (fun e => h.ne.1 e.symm), h.ly.inS, h.ly.new⟩, fun c hc => ⟨(h.con c hc).1.turn t (fun e => (h.con c hc).2.2.2 e), (h.con c hc).2⟩, h.ep.set i v, h.sT, h.res.turn t (fun e => h.ne.2.2 e), h.rT, h.ne, h.sub, h.new, h.sW, Turn.trans h.keep t (fun b e => .inl (fun d => h.new.2 (by cases e; exact d)))⟩
/-- One more box. -/
theorem Bs.box {w0 : World} {S : Nat → Prop} {w : World} {T : Nat → Prop} {W : World} {eb sb rb : Nat} {K : List (Nat × TypeId × Value)} {p : Value} {ds : List Nd} {x : List Value} (h : Bs w0 S w T W eb sb rb K p ds x) (ty : TypeId) (v : Value) : Bs w0 S w (PlusE T W (W.alloc (.cells #[v] ty))) (W.alloc (.cells #[v] ty)) eb sb rb ((W.heap.size, ty, v) :: K) p ds x := by
  have k : Kept W (W.alloc (.cells #[v] ty)) := (Kept.refl W).alloc _
  have b := Blk.new W [v] ty
  refine ⟨h.ly.plus k, fun c hc => ?_, h.ep.kept k, .inl h.sT, h.res.kept k, .inl h.rT, h.ne, fun b q => .inl (h.sub b q), h.new, h.sW, h.keep.kept k⟩
  rcases List.mem_cons.1 hc with rfl | hc
  · exact ⟨b, .inr ⟨Nat.le_refl _, b.lt⟩, (fun e => absurd h.ly.blk.lt (by rw [← e]; exact Nat.lt_irrefl _)), (fun e => absurd h.ep.lt (by rw [← e]; exact Nat.lt_irrefl _))⟩
  · exact ⟨(h.con c hc).1.kept k, .inl (h.con c hc).2.1, (h.con c hc).2.2⟩
theorem Bs.at {w0 : World} {S : Nat → Prop} {w : World} {T : Nat → Prop} {W : World} {eb sb rb : Nat} {K : List (Nat × TypeId × Value)} {p : Value} {ds : List Nd} {x : List Value} (h : Bs w0 S w T W eb sb rb K p ds x) {b : Nat} {ty : TypeId} {v : Value} (hm : (b, ty, v) ∈ K) : W.cell? ⟨b, 0, none⟩ = some v := (h.con _ hm).1.cell 0
/-- What a call leaves that derives an epoch. -/
def EMk (w0 : World) (S : Nat → Prop) (w : World) (p : Value) (ds : List Nd) (n : Nat) (Q : List Nd → Ep → Prop) (e : Ending) (w' : World) : Prop :=
  ∃ (r : List Nd) (x : Ep), e = .returned (.tuple #[epV x, .int .i64 0]) ∧ At w0 S w' p (ds ++ r) ∧ r.length ≤ n ∧ Q (ds ++ r) x ∧ Keep S w w'

set_option maxHeartbeats 16000000 in
set_option maxRecDepth 100000 in
theorem PBegin_ok {w0 : World} {S : Nat → Prop} {w : World} {p : Value} {ds : List Nd} {j q c : Int} {J P C : Tr} (h : At w0 S w p ds) (hj : Den J ds j) (hq : Den P ds q) (hc : Den C ds c) (hl : ds.length + 31 < 100000) :
    Calls Tryd.prog 20 #[p, .int .i64 j, .int .i64 q, .int .i64 c] w (EMk w0 S w p ds 31 (EpD J P C)) := by
  obtain ⟨pb, rfl⟩ := h.ptr
  have kA : Kept w ((((((w.alloc (.cells #[.pointer (some ⟨pb, 0, none⟩)] 25)).alloc (.cells #[.int .i64 j] 3)).alloc (.cells #[.int .i64 q] 3)).alloc (.cells #[.int .i64 c] 3)).alloc (.cells #[.int .i64 0, .int .i64 0, .int .i64 0, .int .i64 0, .int .i64 0, .int .i64 0, .int .i64 0, .int .i64 0, .int .i64 0, .int .i64 0, .int .i64 0] 30)).alloc (.cells #[.int .i64 j, .int .i64 q, .int .i64 c] 3)) := ((((((Kept.refl w).alloc _).alloc _).alloc _).alloc _).alloc _).alloc _
  have b0 := (((((Blk.new w [.pointer (some ⟨pb, 0, none⟩)] 25).kept ((Kept.refl _).alloc (.cells #[.int .i64 j] 3))).kept ((Kept.refl _).alloc (.cells #[.int .i64 q] 3))).kept ((Kept.refl _).alloc (.cells #[.int .i64 c] 3))).kept ((Kept.refl _).alloc (.cells #[.int .i64 0, .int .i64 0, .int .i64 0, .int .i64 0, .int .i64 0, .int .i64 0, .int .i64 0, .int .i64 0, .int .i64 0, .int .i64 0, .int .i64 0] 30))).kept ((Kept.refl _).alloc (.cells #[.int .i64 j, .int .i64 q, .int .i64 c] 3))
  have b1 := ((((Blk.new (w.alloc (.cells #[.pointer (some ⟨pb, 0, none⟩)] 25)) [.int .i64 j] 3).kept ((Kept.refl _).alloc (.cells #[.int .i64 q] 3))).kept ((Kept.refl _).alloc (.cells #[.int .i64 c] 3))).kept ((Kept.refl _).alloc (.cells #[.int .i64 0, .int .i64 0, .int .i64 0, .int .i64 0, .int .i64 0, .int .i64 0, .int .i64 0, .int .i64 0, .int .i64 0, .int .i64 0, .int .i64 0] 30))).kept ((Kept.refl _).alloc (.cells #[.int .i64 j, .int .i64 q, .int .i64 c] 3))
  have b2 := (((Blk.new ((w.alloc (.cells #[.pointer (some ⟨pb, 0, none⟩)] 25)).alloc (.cells #[.int .i64 j] 3)) [.int .i64 q] 3).kept ((Kept.refl _).alloc (.cells #[.int .i64 c] 3))).kept ((Kept.refl _).alloc (.cells #[.int .i64 0, .int .i64 0, .int .i64 0, .int .i64 0, .int .i64 0, .int .i64 0, .int .i64 0, .int .i64 0, .int .i64 0, .int .i64 0, .int .i64 0] 30))).kept ((Kept.refl _).alloc (.cells #[.int .i64 j, .int .i64 q, .int .i64 c] 3))
  have b3 := ((Blk.new (((w.alloc (.cells #[.pointer (some ⟨pb, 0, none⟩)] 25)).alloc (.cells #[.int .i64 j] 3)).alloc (.cells #[.int .i64 q] 3)) [.int .i64 c] 3).kept ((Kept.refl _).alloc (.cells #[.int .i64 0, .int .i64 0, .int .i64 0, .int .i64 0, .int .i64 0, .int .i64 0, .int .i64 0, .int .i64 0, .int .i64 0, .int .i64 0, .int .i64 0] 30))).kept ((Kept.refl _).alloc (.cells #[.int .i64 j, .int .i64 q, .int .i64 c] 3))
  have b4 := (Blk.new ((((w.alloc (.cells #[.pointer (some ⟨pb, 0, none⟩)] 25)).alloc (.cells #[.int .i64 j] 3)).alloc (.cells #[.int .i64 q] 3)).alloc (.cells #[.int .i64 c] 3)) [.int .i64 0, .int .i64 0, .int .i64 0, .int .i64 0, .int .i64 0, .int .i64 0, .int .i64 0, .int .i64 0, .int .i64 0, .int .i64 0, .int .i64 0] 30).kept ((Kept.refl _).alloc (.cells #[.int .i64 j, .int .i64 q, .int .i64 c] 3))
  have hr := RdI.sl3 (((((w.alloc (.cells #[.pointer (some ⟨pb, 0, none⟩)] 25)).alloc (.cells #[.int .i64 j] 3)).alloc (.cells #[.int .i64 q] 3)).alloc (.cells #[.int .i64 c] 3)).alloc (.cells #[.int .i64 0, .int .i64 0, .int .i64 0, .int .i64 0, .int .i64 0, .int .i64 0, .int .i64 0, .int .i64 0, .int .i64 0, .int .i64 0, .int .i64 0] 30)) j q c
  simp only [World.size_alloc] at b1 b2 b3 b4 hr
  have HT := Lib.hid (sterms_any (h.step kA) hr)
  rw [terms3 hj.1 hq.1 hc.1] at HT
  have HSA := Shut.mk (show ((((((w.alloc (.cells #[.pointer (some ⟨pb, 0, none⟩)] 25)).alloc (.cells #[.int .i64 j] 3)).alloc (.cells #[.int .i64 q] 3)).alloc (.cells #[.int .i64 c] 3)).alloc (.cells #[.int .i64 0, .int .i64 0, .int .i64 0, .int .i64 0, .int .i64 0, .int .i64 0, .int .i64 0, .int .i64 0, .int .i64 0, .int .i64 0, .int .i64 0] 30)).alloc (.cells #[.int .i64 j, .int .i64 q, .int .i64 c] 3)).heap.size = w.heap.size + 6 by simp only [World.size_alloc])
  clear hr
  go_enter Tryd.func20, Tryd.ntmps20
  go_wp2_with fail
  generalize hwA : ((((((w.alloc (.cells #[.pointer (some ⟨pb, 0, none⟩)] 25)).alloc (.cells #[.int .i64 j] 3)).alloc (.cells #[.int .i64 q] 3)).alloc (.cells #[.int .i64 c] 3)).alloc (.cells #[.int .i64 0, .int .i64 0, .int .i64 0, .int .i64 0, .int .i64 0, .int .i64 0, .int .i64 0, .int .i64 0, .int .i64 0, .int .i64 0, .int .i64 0] 30)).alloc (.cells #[.int .i64 j, .int .i64 q, .int .i64 c] 3)) = wA at *
  have HwA := Shut.mk hwA
  clear hwA
  (with_reducible refine HT.out.mono ?_); rintro e wx ⟨rfl, rfl⟩
  clear HT
  have y1 := b1.cell 0
  simp only [List.getElem?_cons_zero] at y1
  have kB : Kept wA (((wA.alloc (.cells #[.int .i64 j, .int .i64 0, .int .i64 0, .int .i64 0, .int .i64 0, .int .i64 0, .int .i64 0, .int .i64 0, .int .i64 0, .int .i64 0, .int .i64 0] 30)).alloc (.cells #[.int .i64 0] 31)).alloc (.cells #[.func (.func 43) #[] #[.pointer (some ⟨wA.heap.size + 1, 0, none⟩)]] 82)) := (((Kept.refl wA).alloc _).alloc _).alloc _
  have e0 := ((Blk.new wA [.int .i64 j, .int .i64 0, .int .i64 0, .int .i64 0, .int .i64 0, .int .i64 0, .int .i64 0, .int .i64 0, .int .i64 0, .int .i64 0, .int .i64 0] 30).kept ((Kept.refl _).alloc (.cells #[.int .i64 0] 31))).kept ((Kept.refl _).alloc (.cells #[.func (.func 43) #[] #[.pointer (some ⟨wA.heap.size + 1, 0, none⟩)]] 82))
  have e1 := (Blk.new (wA.alloc (.cells #[.int .i64 j, .int .i64 0, .int .i64 0, .int .i64 0, .int .i64 0, .int .i64 0, .int .i64 0, .int .i64 0, .int .i64 0, .int .i64 0, .int .i64 0] 30)) [.int .i64 0] 31).kept ((Kept.refl _).alloc (.cells #[.func (.func 43) #[] #[.pointer (some ⟨wA.heap.size + 1, 0, none⟩)]] 82))
  have e2 := Blk.new ((wA.alloc (.cells #[.int .i64 j, .int .i64 0, .int .i64 0, .int .i64 0, .int .i64 0, .int .i64 0, .int .i64 0, .int .i64 0, .int .i64 0, .int .i64 0, .int .i64 0] 30)).alloc (.cells #[.int .i64 0] 31)) [.func (.func 43) #[] #[.pointer (some ⟨wA.heap.size + 1, 0, none⟩)]] 82
  simp only [World.size_alloc] at e1 e2
  have HSB := Shut.mk (show (((wA.alloc (.cells #[.int .i64 j, .int .i64 0, .int .i64 0, .int .i64 0, .int .i64 0, .int .i64 0, .int .i64 0, .int .i64 0, .int .i64 0, .int .i64 0, .int .i64 0] 30)).alloc (.cells #[.int .i64 0] 31)).alloc (.cells #[.func (.func 43) #[] #[.pointer (some ⟨wA.heap.size + 1, 0, none⟩)]] 82)).heap.size = w.heap.size + 9 by have := HSA.out; simp only [World.size_alloc]; omega)
  have HB := Lib.hid (show Bs w0 S w (PlusE S w (((wA.alloc (.cells #[.int .i64 j, .int .i64 0, .int .i64 0, .int .i64 0, .int .i64 0, .int .i64 0, .int .i64 0, .int .i64 0, .int .i64 0, .int .i64 0, .int .i64 0] 30)).alloc (.cells #[.int .i64 0] 31)).alloc (.cells #[.func (.func 43) #[] #[.pointer (some ⟨wA.heap.size + 1, 0, none⟩)]] 82))) (((wA.alloc (.cells #[.int .i64 j, .int .i64 0, .int .i64 0, .int .i64 0, .int .i64 0, .int .i64 0, .int .i64 0, .int .i64 0, .int .i64 0, .int .i64 0, .int .i64 0] 30)).alloc (.cells #[.int .i64 0] 31)).alloc (.cells #[.func (.func 43) #[] #[.pointer (some ⟨wA.heap.size + 1, 0, none⟩)]] 82)) (wA.heap.size + 1) wA.heap.size (w.heap.size + 1 + 1 + 1 + 1) [(wA.heap.size + 1 + 1, 82, layV (wA.heap.size + 1)), (w.heap.size, 25, .pointer (some ⟨pb, 0, none⟩)), (w.heap.size + 1, 3, .int .i64 j), (w.heap.size + 1 + 1, 3, .int .i64 q), (w.heap.size + 1 + 1 + 1, 3, .int .i64 c)] (.pointer (some ⟨pb, 0, none⟩)) ds [.int .i64 j, .int .i64 0, .int .i64 0, .int .i64 0, .int .i64 0, .int .i64 0, .int .i64 0, .int .i64 0, .int .i64 0, .int .i64 0, .int .i64 0] by
    have hsA := HSA.out
    have hsB := HSB.out
    have hin : ∀ b, w.heap.size ≤ b → b < w.heap.size + 9 → PlusE S w (((wA.alloc (.cells #[.int .i64 j, .int .i64 0, .int .i64 0, .int .i64 0, .int .i64 0, .int .i64 0, .int .i64 0, .int .i64 0, .int .i64 0, .int .i64 0, .int .i64 0] 30)).alloc (.cells #[.int .i64 0] 31)).alloc (.cells #[.func (.func 43) #[] #[.pointer (some ⟨wA.heap.size + 1, 0, none⟩)]] 82)) b := fun b c d => .inr ⟨c, by rw [hsB]; exact d⟩
    have h0 : w0.heap.size ≤ w.heap.size := h.kept.size
    refine ⟨⟨h.plusE (kA.trans kB), e1, hin _ (by omega) (by omega), by omega⟩, fun k hk => ?_, e0, hin _ (by omega) (by omega), b4.kept kB, hin _ (by omega) (by omega), ⟨by omega, by omega, by omega⟩, fun b q => .inl q, ⟨fun q => by have := h.old _ q; omega, fun q => by have := h.old _ q; omega⟩, by omega, (kA.trans kB).keep S⟩
    simp only [List.mem_cons, List.not_mem_nil, or_false] at hk
    rcases hk with rfl | rfl | rfl | rfl | rfl
    · exact ⟨e2, hin _ (by simp only; omega) (by simp only; omega), by simp only; omega, by simp only; omega⟩
    · exact ⟨b0.kept kB, hin _ (by simp only; omega) (by simp only; omega), by simp only; omega, by simp only; omega⟩
    · exact ⟨b1.kept kB, hin _ (by simp only; omega) (by simp only; omega), by simp only; omega, by simp only; omega⟩
    · exact ⟨b2.kept kB, hin _ (by simp only; omega) (by simp only; omega), by simp only; omega, by simp only; omega⟩
    · exact ⟨b3.kept kB, hin _ (by simp only; omega) (by simp only; omega), by simp only; omega, by simp only; omega⟩)
  go_wp2_with fail
  generalize hwB : (((wA.alloc (.cells #[.int .i64 j, .int .i64 0, .int .i64 0, .int .i64 0, .int .i64 0, .int .i64 0, .int .i64 0, .int .i64 0, .int .i64 0, .int .i64 0, .int .i64 0] 30)).alloc (.cells #[.int .i64 0] 31)).alloc (.cells #[.func (.func 43) #[] #[.pointer (some ⟨wA.heap.size + 1, 0, none⟩)]] 82)) = wB at *
  have HA0 := Lib.hid h
  have HDj := Shut.mk hj
  have HDq := Shut.mk hq
  have HDc := Shut.mk hc
  generalize hT0 : PlusE S w wB = T0 at *
  clear hwB hT0 b0 b1 b2 b3 b4 e0 e1 e2 kA kB y1 h hj hq hc
  generalize hK0 : [(wA.heap.size + 1 + 1, 82, layV (wA.heap.size + 1)), (w.heap.size, 25, .pointer (some ⟨pb, 0, none⟩)), (w.heap.size + 1, 3, .int .i64 j), (w.heap.size + 1 + 1, 3, .int .i64 q), (w.heap.size + 1 + 1 + 1, 3, .int .i64 c)] = K0 at *
  have HK0 := Shut.mk hK0.symm
  clear hK0
  have HC1 := Lib.hid (lay_ok HB.out.ly 46 #[.pointer (some ⟨w.heap.size, 0, none⟩), .pointer (some ⟨w.heap.size + 1, 0, none⟩), .pointer (some ⟨w.heap.size + 1 + 1, 0, none⟩)] (enters_of Tryd.func46 (by kernel_rfl) rfl) (fun W k => bext (HB.out.ly.step k).arena HDj.out HDq.out (by omega) ((HB.out.step k).at (show (w.heap.size, 25, Value.pointer (some ⟨pb, 0, none⟩)) ∈ K0 by rw [HK0.out]; simp)) ((HB.out.step k).at (show (w.heap.size + 1, 3, Value.int .i64 j) ∈ K0 by rw [HK0.out]; simp)) ((HB.out.step k).at (show (w.heap.size + 1 + 1, 3, Value.int .i64 q) ∈ K0 by rw [HK0.out]; simp))))
  (with_reducible refine HC1.out.mono ?_); rintro e w1 ⟨r1, t1, rfl, l1, hr1, d1, u1⟩
  have HB1 := Lib.hid (HB.out.call l1 u1)
  have D1 := Shut.mk d1
  clear l1 u1 d1 HC1 HB
  go_upto_region 7 with fail
  have HX1 := Lib.hid (HB1.out.box 3 (.int .i64 t1))
  have f1 := HX1.out.at (b := w1.heap.size) (ty := 3) (v := .int .i64 t1) List.mem_cons_self
  clear HB1
  generalize hm : w1.heap.size = mb at *
  generalize hv1 : w1.alloc (.cells #[.int .i64 t1] 3) = v1 at *
  clear hv1
  generalize PlusE T0 w1 v1 = T1 at *
  have HC2 := Lib.hid (bder_ok HX1.out.ly (D1.out) (x := welcomeS) (by decide) (by simp only [List.length_append]; omega) (HX1.out.at (List.mem_cons_of_mem _ (show (wA.heap.size + 1 + 1, 82, layV (wA.heap.size + 1)) ∈ K0 by rw [HK0.out]; simp))) (HX1.out.at (List.mem_cons_of_mem _ (show (w.heap.size, 25, Value.pointer (some ⟨pb, 0, none⟩)) ∈ K0 by rw [HK0.out]; simp))))
  rw [show strB welcomeS = ⟨#[119, 101, 108, 99, 111, 109, 101]⟩ from rfl] at HC2
  go_wp2_with fail
  (with_reducible refine HC2.out.mono ?_); rintro e w2 ⟨r2, t2, rfl, l2, hr2, d2, u2⟩
  have HB2 := Lib.hid (HX1.out.call l2 u2)
  have D2 := Shut.mk d2
  clear l2 u2 d2 HC2 HX1
  have g2 := HB2.out.ep.cell 1
  have z2 := HB2.out.ep.frozen 1
  simp only [List.set_cons_succ, List.set_cons_zero, List.getElem?_cons_succ, List.getElem?_cons_zero] at g2
  go_upto_region 8 with fail
  have HP2 := Lib.hid (HB2.out.set 1 (.int .i64 t2))
  generalize w2.setCell ⟨wA.heap.size, 1, none⟩ (.int .i64 t2) = v2 at *
  clear g2 z2 HB2
  have HC3 := Lib.hid (lay_ok HP2.out.ly 47 #[.pointer (some ⟨w.heap.size, 0, none⟩), .pointer (some ⟨mb, 0, none⟩), .pointer (some ⟨w.heap.size + 1 + 1 + 1, 0, none⟩)] (enters_of Tryd.func47 (by kernel_rfl) rfl) (fun W k => bexp (HP2.out.ly.step k).arena ((D1.out).more r2) (((HDc.out).more r1).more r2) (by simp only [List.length_append]; omega) ((HP2.out.step k).at (List.mem_cons_of_mem _ (show (w.heap.size, 25, Value.pointer (some ⟨pb, 0, none⟩)) ∈ K0 by rw [HK0.out]; simp))) ((HP2.out.step k).at (b := mb) (ty := 3) (v := .int .i64 t1) List.mem_cons_self) ((HP2.out.step k).at (List.mem_cons_of_mem _ (show (w.heap.size + 1 + 1 + 1, 3, Value.int .i64 c) ∈ K0 by rw [HK0.out]; simp)))))
  have yl := (HP2.out.at (List.mem_cons_of_mem _ (show (wA.heap.size + 1 + 1, 82, layV (wA.heap.size + 1)) ∈ K0 by rw [HK0.out]; simp)))
  unfold layV at yl
  go_wp2_with fail
  (with_reducible refine HC3.out.mono ?_); rintro e w3 ⟨r3, t3, rfl, l3, hr3, d3, u3⟩
  have HB3 := Lib.hid (HP2.out.call l3 u3)
  have D3 := Shut.mk d3
  clear l3 u3 d3 HC3 yl f1 HP2
  have g3 := HB3.out.ep.cell 2
  have z3 := HB3.out.ep.frozen 2
  simp only [List.set_cons_succ, List.set_cons_zero, List.getElem?_cons_succ, List.getElem?_cons_zero] at g3
  go_upto_region 9 with fail
  have HP3 := Lib.hid (HB3.out.set 2 (.int .i64 t3))
  generalize w3.setCell ⟨wA.heap.size, 2, none⟩ (.int .i64 t3) = v3 at *
  clear g3 z3 HB3
  have y4 := HP3.out.ep.cell 2
  simp only [List.set_cons_succ, List.set_cons_zero, List.getElem?_cons_succ, List.getElem?_cons_zero] at y4
  have HC4 := Lib.hid (bder_ok HP3.out.ly (D3.out) (x := senderS) (by decide) (by simp only [List.length_append]; omega) (HP3.out.at (List.mem_cons_of_mem _ (show (wA.heap.size + 1 + 1, 82, layV (wA.heap.size + 1)) ∈ K0 by rw [HK0.out]; simp))) (HP3.out.at (List.mem_cons_of_mem _ (show (w.heap.size, 25, Value.pointer (some ⟨pb, 0, none⟩)) ∈ K0 by rw [HK0.out]; simp))))
  rw [show strB senderS = ⟨#[115, 101, 110, 100, 101, 114]⟩ from rfl] at HC4
  go_wp2_with fail
  (with_reducible refine HC4.out.mono ?_); rintro e w4 ⟨r4, t4, rfl, l4, hr4, d4, u4⟩
  have HB4 := Lib.hid (HP3.out.call l4 u4)
  have D4 := Shut.mk d4
  clear l4 u4 d4 HC4 HP3
  clear y4
  have g4 := HB4.out.ep.cell 3
  have z4 := HB4.out.ep.frozen 3
  simp only [List.set_cons_succ, List.set_cons_zero, List.getElem?_cons_succ, List.getElem?_cons_zero] at g4
  go_upto_region 10 with fail
  have HP4 := Lib.hid (HB4.out.set 3 (.int .i64 t4))
  generalize w4.setCell ⟨wA.heap.size, 3, none⟩ (.int .i64 t4) = v4 at *
  clear g4 z4 HB4
  have y5 := HP4.out.ep.cell 2
  simp only [List.set_cons_succ, List.set_cons_zero, List.getElem?_cons_succ, List.getElem?_cons_zero] at y5
  have HC5 := Lib.hid (bder_ok HP4.out.ly ((D3.out).more r4) (x := encryptionS) (by decide) (by simp only [List.length_append]; omega) (HP4.out.at (List.mem_cons_of_mem _ (show (wA.heap.size + 1 + 1, 82, layV (wA.heap.size + 1)) ∈ K0 by rw [HK0.out]; simp))) (HP4.out.at (List.mem_cons_of_mem _ (show (w.heap.size, 25, Value.pointer (some ⟨pb, 0, none⟩)) ∈ K0 by rw [HK0.out]; simp))))
  rw [show strB encryptionS = ⟨#[101, 110, 99, 114, 121, 112, 116, 105, 111, 110]⟩ from rfl] at HC5
  go_wp2_with fail
  (with_reducible refine HC5.out.mono ?_); rintro e w5 ⟨r5, t5, rfl, l5, hr5, d5, u5⟩
  have HB5 := Lib.hid (HP4.out.call l5 u5)
  have D5 := Shut.mk d5
  clear l5 u5 d5 HC5 HP4
  clear y5
  have g5 := HB5.out.ep.cell 4
  have z5 := HB5.out.ep.frozen 4
  simp only [List.set_cons_succ, List.set_cons_zero, List.getElem?_cons_succ, List.getElem?_cons_zero] at g5
  go_upto_region 11 with fail
  have HP5 := Lib.hid (HB5.out.set 4 (.int .i64 t5))
  generalize w5.setCell ⟨wA.heap.size, 4, none⟩ (.int .i64 t5) = v5 at *
  clear g5 z5 HB5
  have y6 := HP5.out.ep.cell 2
  simp only [List.set_cons_succ, List.set_cons_zero, List.getElem?_cons_succ, List.getElem?_cons_zero] at y6
  have HC6 := Lib.hid (bder_ok HP5.out.ly (((D3.out).more r4).more r5) (x := exporterS) (by decide) (by simp only [List.length_append]; omega) (HP5.out.at (List.mem_cons_of_mem _ (show (wA.heap.size + 1 + 1, 82, layV (wA.heap.size + 1)) ∈ K0 by rw [HK0.out]; simp))) (HP5.out.at (List.mem_cons_of_mem _ (show (w.heap.size, 25, Value.pointer (some ⟨pb, 0, none⟩)) ∈ K0 by rw [HK0.out]; simp))))
  rw [show strB exporterS = ⟨#[101, 120, 112, 111, 114, 116, 101, 114]⟩ from rfl] at HC6
  go_wp2_with fail
  (with_reducible refine HC6.out.mono ?_); rintro e w6 ⟨r6, t6, rfl, l6, hr6, d6, u6⟩
  have HB6 := Lib.hid (HP5.out.call l6 u6)
  have D6 := Shut.mk d6
  clear l6 u6 d6 HC6 HP5
  clear y6
  have g6 := HB6.out.ep.cell 5
  have z6 := HB6.out.ep.frozen 5
  simp only [List.set_cons_succ, List.set_cons_zero, List.getElem?_cons_succ, List.getElem?_cons_zero] at g6
  go_upto_region 12 with fail
  have HP6 := Lib.hid (HB6.out.set 5 (.int .i64 t6))
  generalize w6.setCell ⟨wA.heap.size, 5, none⟩ (.int .i64 t6) = v6 at *
  clear g6 z6 HB6
  have y7 := HP6.out.ep.cell 2
  simp only [List.set_cons_succ, List.set_cons_zero, List.getElem?_cons_succ, List.getElem?_cons_zero] at y7
  have HC7 := Lib.hid (bder_ok HP6.out.ly ((((D3.out).more r4).more r5).more r6) (x := confirmS) (by decide) (by simp only [List.length_append]; omega) (HP6.out.at (List.mem_cons_of_mem _ (show (wA.heap.size + 1 + 1, 82, layV (wA.heap.size + 1)) ∈ K0 by rw [HK0.out]; simp))) (HP6.out.at (List.mem_cons_of_mem _ (show (w.heap.size, 25, Value.pointer (some ⟨pb, 0, none⟩)) ∈ K0 by rw [HK0.out]; simp))))
  rw [show strB confirmS = ⟨#[99, 111, 110, 102, 105, 114, 109]⟩ from rfl] at HC7
  go_wp2_with fail
  (with_reducible refine HC7.out.mono ?_); rintro e w7 ⟨r7, t7, rfl, l7, hr7, d7, u7⟩
  have HB7 := Lib.hid (HP6.out.call l7 u7)
  have D7 := Shut.mk d7
  clear l7 u7 d7 HC7 HP6
  clear y7
  have g7 := HB7.out.ep.cell 6
  have z7 := HB7.out.ep.frozen 6
  simp only [List.set_cons_succ, List.set_cons_zero, List.getElem?_cons_succ, List.getElem?_cons_zero] at g7
  go_upto_region 13 with fail
  have HP7 := Lib.hid (HB7.out.set 6 (.int .i64 t7))
  generalize w7.setCell ⟨wA.heap.size, 6, none⟩ (.int .i64 t7) = v7 at *
  clear g7 z7 HB7
  have y8 := HP7.out.ep.cell 2
  simp only [List.set_cons_succ, List.set_cons_zero, List.getElem?_cons_succ, List.getElem?_cons_zero] at y8
  have HC8 := Lib.hid (bder_ok HP7.out.ly (((((D3.out).more r4).more r5).more r6).more r7) (x := membershipS) (by decide) (by simp only [List.length_append]; omega) (HP7.out.at (List.mem_cons_of_mem _ (show (wA.heap.size + 1 + 1, 82, layV (wA.heap.size + 1)) ∈ K0 by rw [HK0.out]; simp))) (HP7.out.at (List.mem_cons_of_mem _ (show (w.heap.size, 25, Value.pointer (some ⟨pb, 0, none⟩)) ∈ K0 by rw [HK0.out]; simp))))
  rw [show strB membershipS = ⟨#[109, 101, 109, 98, 101, 114, 115, 104, 105, 112]⟩ from rfl] at HC8
  go_wp2_with fail
  (with_reducible refine HC8.out.mono ?_); rintro e w8 ⟨r8, t8, rfl, l8, hr8, d8, u8⟩
  have HB8 := Lib.hid (HP7.out.call l8 u8)
  have D8 := Shut.mk d8
  clear l8 u8 d8 HC8 HP7
  clear y8
  have g8 := HB8.out.ep.cell 7
  have z8 := HB8.out.ep.frozen 7
  simp only [List.set_cons_succ, List.set_cons_zero, List.getElem?_cons_succ, List.getElem?_cons_zero] at g8
  go_upto_region 14 with fail
  have HP8 := Lib.hid (HB8.out.set 7 (.int .i64 t8))
  generalize w8.setCell ⟨wA.heap.size, 7, none⟩ (.int .i64 t8) = v8 at *
  clear g8 z8 HB8
  have y9 := HP8.out.ep.cell 2
  simp only [List.set_cons_succ, List.set_cons_zero, List.getElem?_cons_succ, List.getElem?_cons_zero] at y9
  have HC9 := Lib.hid (bder_ok HP8.out.ly ((((((D3.out).more r4).more r5).more r6).more r7).more r8) (x := resumptionS) (by decide) (by simp only [List.length_append]; omega) (HP8.out.at (List.mem_cons_of_mem _ (show (wA.heap.size + 1 + 1, 82, layV (wA.heap.size + 1)) ∈ K0 by rw [HK0.out]; simp))) (HP8.out.at (List.mem_cons_of_mem _ (show (w.heap.size, 25, Value.pointer (some ⟨pb, 0, none⟩)) ∈ K0 by rw [HK0.out]; simp))))
  rw [show strB resumptionS = ⟨#[114, 101, 115, 117, 109, 112, 116, 105, 111, 110]⟩ from rfl] at HC9
  go_wp2_with fail
  (with_reducible refine HC9.out.mono ?_); rintro e w9 ⟨r9, t9, rfl, l9, hr9, d9, u9⟩
  have HB9 := Lib.hid (HP8.out.call l9 u9)
  have D9 := Shut.mk d9
  clear l9 u9 d9 HC9 HP8
  clear y9
  have g9 := HB9.out.ep.cell 8
  have z9 := HB9.out.ep.frozen 8
  simp only [List.set_cons_succ, List.set_cons_zero, List.getElem?_cons_succ, List.getElem?_cons_zero] at g9
  go_upto_region 15 with fail
  have HP9 := Lib.hid (HB9.out.set 8 (.int .i64 t9))
  generalize w9.setCell ⟨wA.heap.size, 8, none⟩ (.int .i64 t9) = v9 at *
  clear g9 z9 HB9
  have y10 := HP9.out.ep.cell 2
  simp only [List.set_cons_succ, List.set_cons_zero, List.getElem?_cons_succ, List.getElem?_cons_zero] at y10
  have HC10 := Lib.hid (bder_ok HP9.out.ly (((((((D3.out).more r4).more r5).more r6).more r7).more r8).more r9) (x := externalS) (by decide) (by simp only [List.length_append]; omega) (HP9.out.at (List.mem_cons_of_mem _ (show (wA.heap.size + 1 + 1, 82, layV (wA.heap.size + 1)) ∈ K0 by rw [HK0.out]; simp))) (HP9.out.at (List.mem_cons_of_mem _ (show (w.heap.size, 25, Value.pointer (some ⟨pb, 0, none⟩)) ∈ K0 by rw [HK0.out]; simp))))
  rw [show strB externalS = ⟨#[101, 120, 116, 101, 114, 110, 97, 108]⟩ from rfl] at HC10
  go_wp2_with fail
  (with_reducible refine HC10.out.mono ?_); rintro e w10 ⟨r10, t10, rfl, l10, hr10, d10, u10⟩
  have HB10 := Lib.hid (HP9.out.call l10 u10)
  have D10 := Shut.mk d10
  clear l10 u10 d10 HC10 HP9
  clear y10
  go_upto_region 16 with fail
  have HX10 := Lib.hid (HB10.out.box 3 (.int .i64 t10))
  have f10 := HX10.out.at (b := w10.heap.size) (ty := 3) (v := .int .i64 t10) List.mem_cons_self
  clear HB10
  generalize hxb : w10.heap.size = xb at *
  generalize hv10 : w10.alloc (.cells #[.int .i64 t10] 3) = v10 at *
  clear hv10
  generalize PlusE T1 w10 v10 = T2 at *
  have HC11 := Lib.hid (lay_ok HX10.out.ly 48 #[.pointer (some ⟨w.heap.size, 0, none⟩), .pointer (some ⟨xb, 0, none⟩)] (enters_of Tryd.func48 (by kernel_rfl) rfl) (fun W k => bpub (HX10.out.ly.step k).arena (D10.out) (by simp only [List.length_append]; omega) ((HX10.out.step k).at (List.mem_cons_of_mem _ (List.mem_cons_of_mem _ (show (w.heap.size, 25, Value.pointer (some ⟨pb, 0, none⟩)) ∈ K0 by rw [HK0.out]; simp)))) ((HX10.out.step k).at (b := xb) (ty := 3) (v := .int .i64 t10) List.mem_cons_self)))
  have yl := (HX10.out.at (List.mem_cons_of_mem _ (List.mem_cons_of_mem _ (show (wA.heap.size + 1 + 1, 82, layV (wA.heap.size + 1)) ∈ K0 by rw [HK0.out]; simp))))
  unfold layV at yl
  go_wp2_with fail
  (with_reducible refine HC11.out.mono ?_); rintro e w11 ⟨r11, t11, rfl, l11, hr11, d11, u11⟩
  have HB11 := Lib.hid (HX10.out.call l11 u11)
  have D11 := Shut.mk d11
  clear l11 u11 d11 HC11 yl f10 HX10
  have g11 := HB11.out.ep.cell 9
  have z11 := HB11.out.ep.frozen 9
  simp only [List.set_cons_succ, List.set_cons_zero, List.getElem?_cons_succ, List.getElem?_cons_zero] at g11
  go_upto_region 17 with fail
  have HP11 := Lib.hid (HB11.out.set 9 (.int .i64 t11))
  generalize w11.setCell ⟨wA.heap.size, 9, none⟩ (.int .i64 t11) = v11 at *
  clear g11 z11 HB11
  have y12 := HP11.out.ep.cell 2
  simp only [List.set_cons_succ, List.set_cons_zero, List.getElem?_cons_succ, List.getElem?_cons_zero] at y12
  have HC12 := Lib.hid (bder_ok HP11.out.ly (((((((((D3.out).more r4).more r5).more r6).more r7).more r8).more r9).more r10).more r11) (x := initS) (by decide) (by simp only [List.length_append]; omega) (HP11.out.at (List.mem_cons_of_mem _ (List.mem_cons_of_mem _ (show (wA.heap.size + 1 + 1, 82, layV (wA.heap.size + 1)) ∈ K0 by rw [HK0.out]; simp)))) (HP11.out.at (List.mem_cons_of_mem _ (List.mem_cons_of_mem _ (show (w.heap.size, 25, Value.pointer (some ⟨pb, 0, none⟩)) ∈ K0 by rw [HK0.out]; simp)))))
  rw [show strB initS = ⟨#[105, 110, 105, 116]⟩ from rfl] at HC12
  go_wp2_with fail
  (with_reducible refine HC12.out.mono ?_); rintro e w12 ⟨r12, t12, rfl, l12, hr12, d12, u12⟩
  have HB12 := Lib.hid (HP11.out.call l12 u12)
  have D12 := Shut.mk d12
  clear l12 u12 d12 HC12 HP11
  clear y12
  have g12 := HB12.out.ep.cell 10
  have z12 := HB12.out.ep.frozen 10
  simp only [List.set_cons_succ, List.set_cons_zero, List.getElem?_cons_succ, List.getElem?_cons_zero] at g12
  go_upto_region 18 with fail
  have HP12 := Lib.hid (HB12.out.set 10 (.int .i64 t12))
  generalize w12.setCell ⟨wA.heap.size, 10, none⟩ (.int .i64 t12) = v12 at *
  clear g12 z12 HB12
  have ye := HP12.out.ly.blk.cell 0
  simp only [List.getElem?_cons_zero] at ye
  have s0 := HP12.out.ep.cell 0
  have s1 := HP12.out.ep.cell 1
  have s2 := HP12.out.ep.cell 2
  have s3 := HP12.out.ep.cell 3
  have s4 := HP12.out.ep.cell 4
  have s5 := HP12.out.ep.cell 5
  have s6 := HP12.out.ep.cell 6
  have s7 := HP12.out.ep.cell 7
  have s8 := HP12.out.ep.cell 8
  have s9 := HP12.out.ep.cell 9
  have s10 := HP12.out.ep.cell 10
  have q0 := HP12.out.res.cell 0
  have n0 := HP12.out.res.frozen 0
  have q1 := HP12.out.res.cell 1
  have n1 := HP12.out.res.frozen 1
  have q2 := HP12.out.res.cell 2
  have n2 := HP12.out.res.frozen 2
  have q3 := HP12.out.res.cell 3
  have n3 := HP12.out.res.frozen 3
  have q4 := HP12.out.res.cell 4
  have n4 := HP12.out.res.frozen 4
  have q5 := HP12.out.res.cell 5
  have n5 := HP12.out.res.frozen 5
  have q6 := HP12.out.res.cell 6
  have n6 := HP12.out.res.frozen 6
  have q7 := HP12.out.res.cell 7
  have n7 := HP12.out.res.frozen 7
  have q8 := HP12.out.res.cell 8
  have n8 := HP12.out.res.frozen 8
  have q9 := HP12.out.res.cell 9
  have n9 := HP12.out.res.frozen 9
  have q10 := HP12.out.res.cell 10
  have n10 := HP12.out.res.frozen 10
  simp only [List.set_cons_succ, List.set_cons_zero, List.getElem?_cons_succ, List.getElem?_cons_zero] at s0 q0 s1 q1 s2 q2 s3 q3 s4 q4 s5 q5 s6 q6 s7 q7 s8 q8 s9 q9 s10 q10
  have HR := Shut.mk HP12.out.res
  have HK := Shut.mk (show ∀ W, Turn (fun b => b = w.heap.size + 1 + 1 + 1 + 1) v12 W → At w0 S W (.pointer (some ⟨pb, 0, none⟩)) (((((((((((((ds ++ r1) ++ r2) ++ r3) ++ r4) ++ r5) ++ r6) ++ r7) ++ r8) ++ r9) ++ r10) ++ r11) ++ r12)) ∧ Keep S w W from fun W t => ⟨(HP12.out.ly.arena.turn t (fun b e => by cases e; exact ⟨HP12.out.rT, by have := HA0.out.kept.size; omega⟩)).fewer HP12.out.sub HA0.out.base, Turn.trans HP12.out.keep t (fun b e => .inl (fun d => by cases e; have := HA0.out.old _ d; omega))⟩)
  have HE := Shut.mk (show EpD J P C (((((((((((((ds ++ r1) ++ r2) ++ r3) ++ r4) ++ r5) ++ r6) ++ r7) ++ r8) ++ r9) ++ r10) ++ r11) ++ r12)) ⟨j, t2, t3, t4, t5, t6, t7, t8, t9, t11, t12⟩ from ⟨DenL.cons (((((((((((((HDj.out).more r1).more r2).more r3).more r4).more r5).more r6).more r7).more r8).more r9).more r10).more r11).more r12) (DenL.cons (((((((((((D2.out).more r3).more r4).more r5).more r6).more r7).more r8).more r9).more r10).more r11).more r12) (DenL.cons ((((((((((D3.out).more r4).more r5).more r6).more r7).more r8).more r9).more r10).more r11).more r12) (DenL.cons (((((((((D4.out).more r5).more r6).more r7).more r8).more r9).more r10).more r11).more r12) (DenL.cons ((((((((D5.out).more r6).more r7).more r8).more r9).more r10).more r11).more r12) (DenL.cons (((((((D6.out).more r7).more r8).more r9).more r10).more r11).more r12) (DenL.cons ((((((D7.out).more r8).more r9).more r10).more r11).more r12) (DenL.cons (((((D8.out).more r9).more r10).more r11).more r12) (DenL.cons ((((D9.out).more r10).more r11).more r12) (DenL.cons (D12.out) (DenL.nil _)))))))))), (D11.out).more r12⟩)
  have HAS := Shut.mk (show ((((((((((((ds ++ r1) ++ r2) ++ r3) ++ r4) ++ r5) ++ r6) ++ r7) ++ r8) ++ r9) ++ r10) ++ r11) ++ r12) = ds ++ (r1 ++ r2 ++ r3 ++ r4 ++ r5 ++ r6 ++ r7 ++ r8 ++ r9 ++ r10 ++ r11 ++ r12) by simp only [List.append_assoc])
  have HLN := Shut.mk (show (r1 ++ r2 ++ r3 ++ r4 ++ r5 ++ r6 ++ r7 ++ r8 ++ r9 ++ r10 ++ r11 ++ r12).length ≤ 31 by simp only [List.length_append]; omega)
  clear HP12 HA0 HDj HDq HDc D1 D2 D3 D4 D5 D6 D7 D8 D9 D10 D11 D12 hr1 hr2 hr3 hr4 hr5 hr6 hr7 hr8 hr9 hr10 hr11 hr12 hl HSA HwA HSB
  go_wp2
  have hb2 := (((((((((((HR.out).set 0 (.int .i64 j)).set 1 (.int .i64 t2)).set 2 (.int .i64 t3)).set 3 (.int .i64 t4)).set 4 (.int .i64 t5)).set 5 (.int .i64 t6)).set 6 (.int .i64 t7)).set 7 (.int .i64 t8)).set 8 (.int .i64 t9)).set 9 (.int .i64 t11)).set 10 (.int .i64 t12)
  simp only [List.set_cons_zero, List.set_cons_succ] at hb2
  have d0 := hb2.cell 0
  have d1 := hb2.cell 1
  have d2 := hb2.cell 2
  have d3 := hb2.cell 3
  have d4 := hb2.cell 4
  have d5 := hb2.cell 5
  have d6 := hb2.cell 6
  have d7 := hb2.cell 7
  have d8 := hb2.cell 8
  have d9 := hb2.cell 9
  have d10 := hb2.cell 10
  simp only [List.getElem?_cons_zero, List.getElem?_cons_succ] at d0 d1 d2 d3 d4 d5 d6 d7 d8 d9 d10
  have hfin := HK.out _ (Turn.trans (Turn.trans (Turn.trans (Turn.trans (Turn.trans (Turn.trans (Turn.trans (Turn.trans (Turn.trans (Turn.trans (Turn.trans (Turn.refl _ _) (turn_setCell _ ⟨w.heap.size + 1 + 1 + 1 + 1, 0, none⟩ (.int .i64 j)) (fun b e => .inl e)) (turn_setCell _ ⟨w.heap.size + 1 + 1 + 1 + 1, 1, none⟩ (.int .i64 t2)) (fun b e => .inl e)) (turn_setCell _ ⟨w.heap.size + 1 + 1 + 1 + 1, 2, none⟩ (.int .i64 t3)) (fun b e => .inl e)) (turn_setCell _ ⟨w.heap.size + 1 + 1 + 1 + 1, 3, none⟩ (.int .i64 t4)) (fun b e => .inl e)) (turn_setCell _ ⟨w.heap.size + 1 + 1 + 1 + 1, 4, none⟩ (.int .i64 t5)) (fun b e => .inl e)) (turn_setCell _ ⟨w.heap.size + 1 + 1 + 1 + 1, 5, none⟩ (.int .i64 t6)) (fun b e => .inl e)) (turn_setCell _ ⟨w.heap.size + 1 + 1 + 1 + 1, 6, none⟩ (.int .i64 t7)) (fun b e => .inl e)) (turn_setCell _ ⟨w.heap.size + 1 + 1 + 1 + 1, 7, none⟩ (.int .i64 t8)) (fun b e => .inl e)) (turn_setCell _ ⟨w.heap.size + 1 + 1 + 1 + 1, 8, none⟩ (.int .i64 t9)) (fun b e => .inl e)) (turn_setCell _ ⟨w.heap.size + 1 + 1 + 1 + 1, 9, none⟩ (.int .i64 t11)) (fun b e => .inl e)) (turn_setCell _ ⟨w.heap.size + 1 + 1 + 1 + 1, 10, none⟩ (.int .i64 t12)) (fun b e => .inl e))
  rw [HAS.out] at hfin
  have hep := HE.out
  rw [HAS.out] at hep
  exact bodyPost_ret (v := .tuple #[epV ⟨j, t2, t3, t4, t5, t6, t7, t8, t9, t11, t12⟩, .int .i64 0]) (by simp [results, Tryd.results20, go_sem, epV, d0, d1, d2, d3, d4, d5, d6, d7, d8, d9, d10]) rfl ⟨_, _, rfl, hfin.1, HLN.out, hep, hfin.2⟩

set_option maxHeartbeats 8000000 in
set_option maxRecDepth 100000 in
theorem PBegin_no {w0 : World} {S : Nat → Prop} {w : World} {p : Value} {ds : List Nd} {j q c : Int} (h : At w0 S w p ds) (hb : termsB ds [j, q, c] = false) :
    Calls Tryd.prog 20 #[p, .int .i64 j, .int .i64 q, .int .i64 c] w fun e w' => e = .returned (.tuple #[epV ep0, .int .i64 1]) ∧ Kept w w' := by
  obtain ⟨pb, rfl⟩ := h.ptr
  have kA : Kept w ((((((w.alloc (.cells #[.pointer (some ⟨pb, 0, none⟩)] 25)).alloc (.cells #[.int .i64 j] 3)).alloc (.cells #[.int .i64 q] 3)).alloc (.cells #[.int .i64 c] 3)).alloc (.cells #[.int .i64 0, .int .i64 0, .int .i64 0, .int .i64 0, .int .i64 0, .int .i64 0, .int .i64 0, .int .i64 0, .int .i64 0, .int .i64 0, .int .i64 0] 30)).alloc (.cells #[.int .i64 j, .int .i64 q, .int .i64 c] 3)) := ((((((Kept.refl w).alloc _).alloc _).alloc _).alloc _).alloc _).alloc _
  have hr := RdI.sl3 (((((w.alloc (.cells #[.pointer (some ⟨pb, 0, none⟩)] 25)).alloc (.cells #[.int .i64 j] 3)).alloc (.cells #[.int .i64 q] 3)).alloc (.cells #[.int .i64 c] 3)).alloc (.cells #[.int .i64 0, .int .i64 0, .int .i64 0, .int .i64 0, .int .i64 0, .int .i64 0, .int .i64 0, .int .i64 0, .int .i64 0, .int .i64 0, .int .i64 0] 30)) j q c
  have b4 := (Blk.new ((((w.alloc (.cells #[.pointer (some ⟨pb, 0, none⟩)] 25)).alloc (.cells #[.int .i64 j] 3)).alloc (.cells #[.int .i64 q] 3)).alloc (.cells #[.int .i64 c] 3)) [.int .i64 0, .int .i64 0, .int .i64 0, .int .i64 0, .int .i64 0, .int .i64 0, .int .i64 0, .int .i64 0, .int .i64 0, .int .i64 0, .int .i64 0] 30).kept ((Kept.refl _).alloc (.cells #[.int .i64 j, .int .i64 q, .int .i64 c] 3))
  simp only [World.size_alloc] at hr b4
  have HT := Lib.hid (sterms_any (h.step kA) hr)
  rw [hb] at HT
  clear hr h hb
  have q0 := b4.cell 0
  have n0 := b4.frozen 0
  have q1 := b4.cell 1
  have n1 := b4.frozen 1
  have q2 := b4.cell 2
  have n2 := b4.frozen 2
  have q3 := b4.cell 3
  have n3 := b4.frozen 3
  have q4 := b4.cell 4
  have n4 := b4.frozen 4
  have q5 := b4.cell 5
  have n5 := b4.frozen 5
  have q6 := b4.cell 6
  have n6 := b4.frozen 6
  have q7 := b4.cell 7
  have n7 := b4.frozen 7
  have q8 := b4.cell 8
  have n8 := b4.frozen 8
  have q9 := b4.cell 9
  have n9 := b4.frozen 9
  have q10 := b4.cell 10
  have n10 := b4.frozen 10
  simp only [List.getElem?_cons_succ, List.getElem?_cons_zero] at q0 q1 q2 q3 q4 q5 q6 q7 q8 q9 q10
  go_enter Tryd.func20, Tryd.ntmps20
  go_wp2_with fail
  generalize hwA : ((((((w.alloc (.cells #[.pointer (some ⟨pb, 0, none⟩)] 25)).alloc (.cells #[.int .i64 j] 3)).alloc (.cells #[.int .i64 q] 3)).alloc (.cells #[.int .i64 c] 3)).alloc (.cells #[.int .i64 0, .int .i64 0, .int .i64 0, .int .i64 0, .int .i64 0, .int .i64 0, .int .i64 0, .int .i64 0, .int .i64 0, .int .i64 0, .int .i64 0] 30)).alloc (.cells #[.int .i64 j, .int .i64 q, .int .i64 c] 3)) = wA at *
  have HwA := Shut.mk hwA
  clear hwA
  (with_reducible refine HT.out.mono ?_); rintro e wx ⟨rfl, rfl⟩
  have HR := Shut.mk b4
  have HKe := Shut.mk (show ∀ W, Turn (fun b => b = w.heap.size + 1 + 1 + 1 + 1) wA W → Kept w W from fun W t => Turn.keptOf kA t (fun b e => by cases e; omega))
  clear b4 HT kA HwA
  go_wp2
  have hb2 := (((((((((((HR.out).set 0 (.int .i64 0)).set 1 (.int .i64 0)).set 2 (.int .i64 0)).set 3 (.int .i64 0)).set 4 (.int .i64 0)).set 5 (.int .i64 0)).set 6 (.int .i64 0)).set 7 (.int .i64 0)).set 8 (.int .i64 0)).set 9 (.int .i64 0)).set 10 (.int .i64 0)
  simp only [List.set_cons_zero, List.set_cons_succ] at hb2
  have d0 := hb2.cell 0
  have d1 := hb2.cell 1
  have d2 := hb2.cell 2
  have d3 := hb2.cell 3
  have d4 := hb2.cell 4
  have d5 := hb2.cell 5
  have d6 := hb2.cell 6
  have d7 := hb2.cell 7
  have d8 := hb2.cell 8
  have d9 := hb2.cell 9
  have d10 := hb2.cell 10
  simp only [List.getElem?_cons_zero, List.getElem?_cons_succ] at d0 d1 d2 d3 d4 d5 d6 d7 d8 d9 d10
  exact bodyPost_ret (v := .tuple #[epV ep0, .int .i64 1]) (by simp [results, Tryd.results20, go_sem, epV, ep0, d0, d1, d2, d3, d4, d5, d6, d7, d8, d9, d10]) rfl ⟨rfl, HKe.out _ (Turn.trans (Turn.trans (Turn.trans (Turn.trans (Turn.trans (Turn.trans (Turn.trans (Turn.trans (Turn.trans (Turn.trans (Turn.trans (Turn.refl _ _) (turn_setCell _ ⟨w.heap.size + 1 + 1 + 1 + 1, 0, none⟩ (.int .i64 0)) (fun b e => .inl e)) (turn_setCell _ ⟨w.heap.size + 1 + 1 + 1 + 1, 1, none⟩ (.int .i64 0)) (fun b e => .inl e)) (turn_setCell _ ⟨w.heap.size + 1 + 1 + 1 + 1, 2, none⟩ (.int .i64 0)) (fun b e => .inl e)) (turn_setCell _ ⟨w.heap.size + 1 + 1 + 1 + 1, 3, none⟩ (.int .i64 0)) (fun b e => .inl e)) (turn_setCell _ ⟨w.heap.size + 1 + 1 + 1 + 1, 4, none⟩ (.int .i64 0)) (fun b e => .inl e)) (turn_setCell _ ⟨w.heap.size + 1 + 1 + 1 + 1, 5, none⟩ (.int .i64 0)) (fun b e => .inl e)) (turn_setCell _ ⟨w.heap.size + 1 + 1 + 1 + 1, 6, none⟩ (.int .i64 0)) (fun b e => .inl e)) (turn_setCell _ ⟨w.heap.size + 1 + 1 + 1 + 1, 7, none⟩ (.int .i64 0)) (fun b e => .inl e)) (turn_setCell _ ⟨w.heap.size + 1 + 1 + 1 + 1, 8, none⟩ (.int .i64 0)) (fun b e => .inl e)) (turn_setCell _ ⟨w.heap.size + 1 + 1 + 1 + 1, 9, none⟩ (.int .i64 0)) (fun b e => .inl e)) (turn_setCell _ ⟨w.heap.size + 1 + 1 + 1 + 1, 10, none⟩ (.int .i64 0)) (fun b e => .inl e))⟩
end Go.Proofs.YtekieioffaafaaaDoor
end

section
/- Package schedule: Next, Inner, Export. -/
set_option linter.unusedSimpArgs false
set_option linter.unusedVariables false
namespace Go.Proofs.YtekieioffaafaaaDoor
open Go.RowKit Go.Maps

set_option maxHeartbeats 4000000 in
set_option maxRecDepth 100000 in
theorem PInner_any (w : World) (x : Ep) :
    Calls Tryd.prog 23 #[epV x] w fun e w' => ∃ v, e = .returned v ∧ OwnI w.heap.size w' v x.inner ∧ Kept w w' := by
  obtain ⟨x0, x1, x2, x3, x4, x5, x6, x7, x8, x9, x10⟩ := x
  unfold epV Ep.inner
  simp only
  go_enter Tryd.func23, Tryd.ntmps23
  go_wp2
  go_ret
  refine ⟨_, rfl, ?_, ((Kept.refl w).alloc _).alloc _⟩
  have := Ownv.lit (B := w.heap.size) 3 (w := w.alloc (.cells #[.int .i64 x0, .int .i64 x1, .int .i64 x2, .int .i64 x3, .int .i64 x4, .int .i64 x5, .int .i64 x6, .int .i64 x7, .int .i64 x8, .int .i64 x9, .int .i64 x10] 30)) (([x0, x1, x2, x3, x4, x5, x6, x7, x8, x10] : List Int).map (Value.int .i64)) (by simp) (by unfold maxLen; simp)
  simp only [World.size_alloc] at this
  exact this

set_option maxHeartbeats 4000000 in
set_option maxRecDepth 100000 in
theorem PExport_no {w0 : World} {S : Nat → Prop} {w : World} {p : Value} {ds : List Nd} {x : Ep} {o : Int} {s : List UInt8} (h : At w0 S w p ds) (ho : ¬ IsT ds o) :
    Calls Tryd.prog 14 #[p, epV x, .string (strB s), .int .i64 o] w fun e w' => e = .returned (.tuple #[.int .i64 0, .int .i64 1]) ∧ Kept w w' := by
  obtain ⟨x0, x1, x2, x3, x4, x5, x6, x7, x8, x9, x10⟩ := x
  unfold epV
  simp only
  have k1 : Kept w ((w.alloc (.cells #[.int .i64 x0, .int .i64 x1, .int .i64 x2, .int .i64 x3, .int .i64 x4, .int .i64 x5, .int .i64 x6, .int .i64 x7, .int .i64 x8, .int .i64 x9, .int .i64 x10] 30)).alloc (.cells #[.int .i64 o] 3)) := ((Kept.refl w).alloc _).alloc _
  have hr := RdI.sl1 (w.alloc (.cells #[.int .i64 x0, .int .i64 x1, .int .i64 x2, .int .i64 x3, .int .i64 x4, .int .i64 x5, .int .i64 x6, .int .i64 x7, .int .i64 x8, .int .i64 x9, .int .i64 x10] 30)) o
  simp only [World.size_alloc] at hr
  have HT := Lib.hid (sterms_any (h.step k1) hr)
  rw [show termsB ds [o] = false from terms_not (j := 0) (by simp) ho] at HT
  obtain ⟨pb, rfl⟩ := h.ptr
  generalize strB s = X at *
  clear h ho hr
  go_enter Tryd.func14, Tryd.ntmps14
  go_wp2_with fail
  (with_reducible refine HT.out.mono ?_); rintro e wx ⟨rfl, rfl⟩
  go_wp2
  go_ret2
  exact ⟨rfl, k1⟩

set_option maxHeartbeats 4000000 in
set_option maxRecDepth 100000 in
theorem PExport_long {w0 : World} {S : Nat → Prop} {w : World} {p : Value} {ds : List Nd} {x : Ep} {o : Int} {s : List UInt8} (h : At w0 S w p ds) (ho : IsT ds o) (hx : IsT ds x.exporter) (hs : 200 < s.length) (hm : s.length ≤ maxLen) (hl : ds.length < 100000) :
    Calls Tryd.prog 14 #[p, epV x, .string (strB s), .int .i64 o] w (PNo w0 S w p ds 1) := by
  obtain ⟨x0, x1, x2, x3, x4, x5, x6, x7, x8, x9, x10⟩ := x
  unfold epV
  simp only at hx ⊢
  have k1 : Kept w ((w.alloc (.cells #[.int .i64 x0, .int .i64 x1, .int .i64 x2, .int .i64 x3, .int .i64 x4, .int .i64 x5, .int .i64 x6, .int .i64 x7, .int .i64 x8, .int .i64 x9, .int .i64 x10] 30)).alloc (.cells #[.int .i64 o] 3)) := ((Kept.refl w).alloc _).alloc _
  have b0 := (Blk.new w [.int .i64 x0, .int .i64 x1, .int .i64 x2, .int .i64 x3, .int .i64 x4, .int .i64 x5, .int .i64 x6, .int .i64 x7, .int .i64 x8, .int .i64 x9, .int .i64 x10] 30).kept ((Kept.refl _).alloc (.cells #[.int .i64 o] 3))
  have hr := RdI.sl1 (w.alloc (.cells #[.int .i64 x0, .int .i64 x1, .int .i64 x2, .int .i64 x3, .int .i64 x4, .int .i64 x5, .int .i64 x6, .int .i64 x7, .int .i64 x8, .int .i64 x9, .int .i64 x10] 30)) o
  simp only [World.size_alloc] at hr
  have HT := Lib.hid (sterms_any (h.step k1) hr)
  rw [show termsB ds [o] = true from terms_of (fun y hy => by rw [List.mem_singleton.1 hy]; exact ho)] at HT
  have HD := Lib.hid (pderive_long (h.step k1) hx s hs hm hl)
  have y5 := b0.cell 5
  simp only [List.getElem?_cons_zero, List.getElem?_cons_succ] at y5
  obtain ⟨pb, rfl⟩ := h.ptr
  generalize strB s = X at *
  clear h ho hr hx hs hm b0
  go_enter Tryd.func14, Tryd.ntmps14
  go_wp2_with fail
  (with_reducible refine HT.out.mono ?_); rintro e wx ⟨rfl, rfl⟩
  go_wp2_with fail
  (with_reducible refine HD.out.mono ?_); rintro e w2 ⟨r, rfl, a2, hr, k2⟩
  go_wp2
  go_ret2
  exact ⟨r, rfl, a2, hr, (k1.keep S).trans k2⟩

set_option maxHeartbeats 4000000 in
set_option maxRecDepth 100000 in
theorem PExport_ok {w0 : World} {S : Nat → Prop} {w : World} {p : Value} {ds : List Nd} {x : Ep} {o : Int} {s : List UInt8} {X O : Tr} (h : At w0 S w p ds) (ho : Den O ds o) (hx : Den X ds x.exporter) (hs : s.length ≤ 200) (hl : ds.length + 5 < 100000) :
    Calls Tryd.prog 14 #[p, epV x, .string (strB s), .int .i64 o] w (PMk w0 S w p ds 5 (Den (keyT (derT X s) exportedS O))) := by
  obtain ⟨x0, x1, x2, x3, x4, x5, x6, x7, x8, x9, x10⟩ := x
  unfold epV
  simp only at hx ⊢
  have k1 : Kept w ((w.alloc (.cells #[.int .i64 x0, .int .i64 x1, .int .i64 x2, .int .i64 x3, .int .i64 x4, .int .i64 x5, .int .i64 x6, .int .i64 x7, .int .i64 x8, .int .i64 x9, .int .i64 x10] 30)).alloc (.cells #[.int .i64 o] 3)) := ((Kept.refl w).alloc _).alloc _
  have b0 := (Blk.new w [.int .i64 x0, .int .i64 x1, .int .i64 x2, .int .i64 x3, .int .i64 x4, .int .i64 x5, .int .i64 x6, .int .i64 x7, .int .i64 x8, .int .i64 x9, .int .i64 x10] 30).kept ((Kept.refl _).alloc (.cells #[.int .i64 o] 3))
  have hr := RdI.sl1 (w.alloc (.cells #[.int .i64 x0, .int .i64 x1, .int .i64 x2, .int .i64 x3, .int .i64 x4, .int .i64 x5, .int .i64 x6, .int .i64 x7, .int .i64 x8, .int .i64 x9, .int .i64 x10] 30)) o
  simp only [World.size_alloc] at hr
  have HT := Lib.hid (sterms_any (h.step k1) hr)
  rw [show termsB ds [o] = true from terms_of (fun y hy => by rw [List.mem_singleton.1 hy]; exact ho.1)] at HT
  have HD := Lib.hid (pderive_ok (h.step k1) hx s hs (by omega))
  have HE := Lib.hid (fun W (r : List Nd) (t : Int) (a : At w0 S W p (ds ++ r)) (hr : r.length ≤ 3) (d : Den (derT X s) (ds ++ r) t) => pexpand_ok a d (ho.more r) exportedS (by decide) (by rw [List.length_append]; omega))
  rw [show strB exportedS = ⟨#[101, 120, 112, 111, 114, 116, 101, 100]⟩ from rfl] at HE
  have y5 := b0.cell 5
  simp only [List.getElem?_cons_zero, List.getElem?_cons_succ] at y5
  obtain ⟨pb, rfl⟩ := h.ptr
  generalize strB s = Y at *
  clear h ho hr hx hs b0
  go_enter Tryd.func14, Tryd.ntmps14
  go_wp2_with fail
  (with_reducible refine HT.out.mono ?_); rintro e wx ⟨rfl, rfl⟩
  go_wp2_with fail
  (with_reducible refine HD.out.mono ?_); rintro e w2 ⟨r2, t2, rfl, a2, hr2, d2, k2⟩
  have HX := Lib.hid (HE.out w2 r2 t2 a2 hr2 d2)
  clear HT HD HE a2 d2
  go_wp2_with fail
  (with_reducible refine HX.out.mono ?_); rintro e w3 ⟨r3, t3, rfl, a3, hr3, d3, k3⟩
  go_wp2
  go_ret2
  exact ⟨r2 ++ r3, t3, rfl, by rw [← List.append_assoc]; exact a3, by rw [List.length_append]; omega, by rw [← List.append_assoc]; exact d3, ((k1.keep S).trans k2).trans k3⟩
end Go.Proofs.YtekieioffaafaaaDoor
end

section
/- Package schedule: Next (written by gen_scf.py). -/
set_option linter.unusedSimpArgs false
set_option linter.unusedVariables false
namespace Go.Proofs.YtekieioffaafaaaDoor
open Go.RowKit Go.Maps

theorem RdK.up {S T : Nat → Prop} {w w1 : World} {v : Value} {l : List Int} (h : RdK S w v l) (k : Kept w w1) (hs : ∀ b, S b → T b) : RdK T w1 v l := fun W k2 => h W ((k.keep S).trans (k2.mono fun b c d => c (hs b d)))
theorem Keep.down {S T : Nat → Prop} {w w1 : World} (k : Keep T w w1) (hs : ∀ b, S b → T b) : Keep S w w1 := k.mono fun b c d => c (hs b d)
set_option maxHeartbeats 8000000 in
set_option maxRecDepth 100000 in
theorem PNext_no {w0 : World} {S : Nat → Prop} {w : World} {p v : Value} {ds : List Nd} {i c x : Int} {l : List Int} (h : At w0 S w p ds) (hr : RdI w v l) (hb : (termsB ds [i, c, x] && termsB ds l) = false) :
    Calls Tryd.prog 11 #[p, .int .i64 i, .int .i64 c, .int .i64 x, v] w fun e w' => e = .returned (.tuple #[epV ep0, .int .i64 1]) ∧ Kept w w' := by
  have k1 : Kept w ((w.alloc (.cells #[.int .i64 0, .int .i64 0, .int .i64 0, .int .i64 0, .int .i64 0, .int .i64 0, .int .i64 0, .int .i64 0, .int .i64 0, .int .i64 0, .int .i64 0] 30)).alloc (.cells #[.int .i64 i, .int .i64 c, .int .i64 x] 3)) := ((Kept.refl w).alloc _).alloc _
  have b0 := (Blk.new w [.int .i64 0, .int .i64 0, .int .i64 0, .int .i64 0, .int .i64 0, .int .i64 0, .int .i64 0, .int .i64 0, .int .i64 0, .int .i64 0, .int .i64 0] 30).kept ((Kept.refl _).alloc (.cells #[.int .i64 i, .int .i64 c, .int .i64 x] 3))
  have hs := RdI.sl3 (w.alloc (.cells #[.int .i64 0, .int .i64 0, .int .i64 0, .int .i64 0, .int .i64 0, .int .i64 0, .int .i64 0, .int .i64 0, .int .i64 0, .int .i64 0, .int .i64 0] 30)) i c x
  simp only [World.size_alloc] at hs
  have HT := Lib.hid (sterms_any (h.step k1) hs)
  have HT2 := Lib.hid (sterms_any (h.step k1) (hr.kept k1))
  obtain ⟨pb, rfl⟩ := h.ptr
  obtain ⟨va, vc, rfl, _, _, _⟩ := hr.len
  have HR := Shut.mk b0
  have HK := Shut.mk (show ∀ W, Turn (fun b => b = w.heap.size) ((w.alloc (.cells #[.int .i64 0, .int .i64 0, .int .i64 0, .int .i64 0, .int .i64 0, .int .i64 0, .int .i64 0, .int .i64 0, .int .i64 0, .int .i64 0, .int .i64 0] 30)).alloc (.cells #[.int .i64 i, .int .i64 c, .int .i64 x] 3)) W → Kept w W from fun W t => Turn.keptOf k1 t (fun b e => by cases e; omega))
  have q0 := b0.cell 0
  have n0 := b0.frozen 0
  have q1 := b0.cell 1
  have n1 := b0.frozen 1
  have q2 := b0.cell 2
  have n2 := b0.frozen 2
  have q3 := b0.cell 3
  have n3 := b0.frozen 3
  have q4 := b0.cell 4
  have n4 := b0.frozen 4
  have q5 := b0.cell 5
  have n5 := b0.frozen 5
  have q6 := b0.cell 6
  have n6 := b0.frozen 6
  have q7 := b0.cell 7
  have n7 := b0.frozen 7
  have q8 := b0.cell 8
  have n8 := b0.frozen 8
  have q9 := b0.cell 9
  have n9 := b0.frozen 9
  have q10 := b0.cell 10
  have n10 := b0.frozen 10
  simp only [List.getElem?_cons_succ, List.getElem?_cons_zero] at q0 q1 q2 q3 q4 q5 q6 q7 q8 q9 q10
  clear h hr hs b0 k1
  generalize termsB ds [i, c, x] = b1 at *
  generalize termsB ds l = b2 at *
  cases b1 with
  | false =>
    clear hb HT2
    go_enter Tryd.func11, Tryd.ntmps11
    go_wp2_with fail
    generalize hw1 : ((w.alloc (.cells #[.int .i64 0, .int .i64 0, .int .i64 0, .int .i64 0, .int .i64 0, .int .i64 0, .int .i64 0, .int .i64 0, .int .i64 0, .int .i64 0, .int .i64 0] 30)).alloc (.cells #[.int .i64 i, .int .i64 c, .int .i64 x] 3)) = w1 at *
    clear hw1
    (with_reducible refine HT.out.mono ?_); rintro e wx ⟨rfl, rfl⟩
    go_wp2
    have hb2 := (((((((((((HR.out).set 0 (.int .i64 0)).set 1 (.int .i64 0)).set 2 (.int .i64 0)).set 3 (.int .i64 0)).set 4 (.int .i64 0)).set 5 (.int .i64 0)).set 6 (.int .i64 0)).set 7 (.int .i64 0)).set 8 (.int .i64 0)).set 9 (.int .i64 0)).set 10 (.int .i64 0)
    simp only [List.set_cons_zero, List.set_cons_succ] at hb2
    have d0 := hb2.cell 0
    have d1 := hb2.cell 1
    have d2 := hb2.cell 2
    have d3 := hb2.cell 3
    have d4 := hb2.cell 4
    have d5 := hb2.cell 5
    have d6 := hb2.cell 6
    have d7 := hb2.cell 7
    have d8 := hb2.cell 8
    have d9 := hb2.cell 9
    have d10 := hb2.cell 10
    simp only [List.getElem?_cons_zero, List.getElem?_cons_succ] at d0 d1 d2 d3 d4 d5 d6 d7 d8 d9 d10
    have hfin := HK.out _ (Turn.trans (Turn.trans (Turn.trans (Turn.trans (Turn.trans (Turn.trans (Turn.trans (Turn.trans (Turn.trans (Turn.trans (Turn.trans (Turn.refl _ _) (turn_setCell _ ⟨w.heap.size, 0, none⟩ (.int .i64 0)) (fun b e => .inl e)) (turn_setCell _ ⟨w.heap.size, 1, none⟩ (.int .i64 0)) (fun b e => .inl e)) (turn_setCell _ ⟨w.heap.size, 2, none⟩ (.int .i64 0)) (fun b e => .inl e)) (turn_setCell _ ⟨w.heap.size, 3, none⟩ (.int .i64 0)) (fun b e => .inl e)) (turn_setCell _ ⟨w.heap.size, 4, none⟩ (.int .i64 0)) (fun b e => .inl e)) (turn_setCell _ ⟨w.heap.size, 5, none⟩ (.int .i64 0)) (fun b e => .inl e)) (turn_setCell _ ⟨w.heap.size, 6, none⟩ (.int .i64 0)) (fun b e => .inl e)) (turn_setCell _ ⟨w.heap.size, 7, none⟩ (.int .i64 0)) (fun b e => .inl e)) (turn_setCell _ ⟨w.heap.size, 8, none⟩ (.int .i64 0)) (fun b e => .inl e)) (turn_setCell _ ⟨w.heap.size, 9, none⟩ (.int .i64 0)) (fun b e => .inl e)) (turn_setCell _ ⟨w.heap.size, 10, none⟩ (.int .i64 0)) (fun b e => .inl e))
    exact bodyPost_ret (v := .tuple #[epV ep0, .int .i64 1]) (by simp [results, Tryd.results11, go_sem, epV, ep0, d0, d1, d2, d3, d4, d5, d6, d7, d8, d9, d10]) rfl ⟨rfl, hfin⟩
  | true =>
    obtain rfl : b2 = false := by simpa using hb
    clear hb
    go_enter Tryd.func11, Tryd.ntmps11
    go_wp2_with fail
    generalize hw1 : ((w.alloc (.cells #[.int .i64 0, .int .i64 0, .int .i64 0, .int .i64 0, .int .i64 0, .int .i64 0, .int .i64 0, .int .i64 0, .int .i64 0, .int .i64 0, .int .i64 0] 30)).alloc (.cells #[.int .i64 i, .int .i64 c, .int .i64 x] 3)) = w1 at *
    clear hw1
    (with_reducible refine HT.out.mono ?_); rintro e wx ⟨rfl, rfl⟩
    go_wp2_with fail
    (with_reducible refine HT2.out.mono ?_); rintro e wx ⟨rfl, rfl⟩
    go_wp2
    have hb2 := (((((((((((HR.out).set 0 (.int .i64 0)).set 1 (.int .i64 0)).set 2 (.int .i64 0)).set 3 (.int .i64 0)).set 4 (.int .i64 0)).set 5 (.int .i64 0)).set 6 (.int .i64 0)).set 7 (.int .i64 0)).set 8 (.int .i64 0)).set 9 (.int .i64 0)).set 10 (.int .i64 0)
    simp only [List.set_cons_zero, List.set_cons_succ] at hb2
    have d0 := hb2.cell 0
    have d1 := hb2.cell 1
    have d2 := hb2.cell 2
    have d3 := hb2.cell 3
    have d4 := hb2.cell 4
    have d5 := hb2.cell 5
    have d6 := hb2.cell 6
    have d7 := hb2.cell 7
    have d8 := hb2.cell 8
    have d9 := hb2.cell 9
    have d10 := hb2.cell 10
    simp only [List.getElem?_cons_zero, List.getElem?_cons_succ] at d0 d1 d2 d3 d4 d5 d6 d7 d8 d9 d10
    have hfin := HK.out _ (Turn.trans (Turn.trans (Turn.trans (Turn.trans (Turn.trans (Turn.trans (Turn.trans (Turn.trans (Turn.trans (Turn.trans (Turn.trans (Turn.refl _ _) (turn_setCell _ ⟨w.heap.size, 0, none⟩ (.int .i64 0)) (fun b e => .inl e)) (turn_setCell _ ⟨w.heap.size, 1, none⟩ (.int .i64 0)) (fun b e => .inl e)) (turn_setCell _ ⟨w.heap.size, 2, none⟩ (.int .i64 0)) (fun b e => .inl e)) (turn_setCell _ ⟨w.heap.size, 3, none⟩ (.int .i64 0)) (fun b e => .inl e)) (turn_setCell _ ⟨w.heap.size, 4, none⟩ (.int .i64 0)) (fun b e => .inl e)) (turn_setCell _ ⟨w.heap.size, 5, none⟩ (.int .i64 0)) (fun b e => .inl e)) (turn_setCell _ ⟨w.heap.size, 6, none⟩ (.int .i64 0)) (fun b e => .inl e)) (turn_setCell _ ⟨w.heap.size, 7, none⟩ (.int .i64 0)) (fun b e => .inl e)) (turn_setCell _ ⟨w.heap.size, 8, none⟩ (.int .i64 0)) (fun b e => .inl e)) (turn_setCell _ ⟨w.heap.size, 9, none⟩ (.int .i64 0)) (fun b e => .inl e)) (turn_setCell _ ⟨w.heap.size, 10, none⟩ (.int .i64 0)) (fun b e => .inl e))
    exact bodyPost_ret (v := .tuple #[epV ep0, .int .i64 1]) (by simp [results, Tryd.results11, go_sem, epV, ep0, d0, d1, d2, d3, d4, d5, d6, d7, d8, d9, d10]) rfl ⟨rfl, hfin⟩

set_option maxHeartbeats 8000000 in
set_option maxRecDepth 100000 in
theorem PNext_ok {w0 : World} {S : Nat → Prop} {w : World} {p v : Value} {ds : List Nd} {i c x : Int} {l : List Int} {I C X : Tr} {L : List Tr} (h : At w0 S w p ds) (hk : RdK S w v l) (hi : Den I ds i) (hc : Den C ds c) (hx : Den X ds x) (hL : DenL L ds l) (hl : ds.length + l.length + 40 < 100000) :
    Calls Tryd.prog 11 #[p, .int .i64 i, .int .i64 c, .int .i64 x, v] w (EMk w0 S w p ds (l.length + 40) (EpD (joinT I C X) (pskT L) X)) := by
  have k1 : Kept w ((w.alloc (.cells #[.int .i64 0, .int .i64 0, .int .i64 0, .int .i64 0, .int .i64 0, .int .i64 0, .int .i64 0, .int .i64 0, .int .i64 0, .int .i64 0, .int .i64 0] 30)).alloc (.cells #[.int .i64 i, .int .i64 c, .int .i64 x] 3)) := ((Kept.refl w).alloc _).alloc _
  have b0 := (Blk.new w [.int .i64 0, .int .i64 0, .int .i64 0, .int .i64 0, .int .i64 0, .int .i64 0, .int .i64 0, .int .i64 0, .int .i64 0, .int .i64 0, .int .i64 0] 30).kept ((Kept.refl _).alloc (.cells #[.int .i64 i, .int .i64 c, .int .i64 x] 3))
  have hs := RdI.sl3 (w.alloc (.cells #[.int .i64 0, .int .i64 0, .int .i64 0, .int .i64 0, .int .i64 0, .int .i64 0, .int .i64 0, .int .i64 0, .int .i64 0, .int .i64 0, .int .i64 0] 30)) i c x
  simp only [World.size_alloc] at hs
  have HT := Lib.hid (sterms_any (h.step k1) hs)
  have HT2 := Lib.hid (sterms_any (h.step k1) (hk.rd.kept k1))
  rw [terms3 hi.1 hc.1 hx.1] at HT
  rw [terms_of hL.1] at HT2
  have hsub : ∀ b, S b → PlusE S w ((w.alloc (.cells #[.int .i64 0, .int .i64 0, .int .i64 0, .int .i64 0, .int .i64 0, .int .i64 0, .int .i64 0, .int .i64 0, .int .i64 0, .int .i64 0, .int .i64 0] 30)).alloc (.cells #[.int .i64 i, .int .i64 c, .int .i64 x] 3)) b := fun b q => .inl q
  have hrb : PlusE S w ((w.alloc (.cells #[.int .i64 0, .int .i64 0, .int .i64 0, .int .i64 0, .int .i64 0, .int .i64 0, .int .i64 0, .int .i64 0, .int .i64 0, .int .i64 0, .int .i64 0] 30)).alloc (.cells #[.int .i64 i, .int .i64 c, .int .i64 x] 3)) w.heap.size := .inr ⟨Nat.le_refl _, b0.lt⟩
  have HJ := Lib.hid (PJoiner_ok (h.plusE k1) hi hc hx (by omega))
  have HP := Lib.hid (fun W (r : List Nd) (a : At w0 (PlusE S w ((w.alloc (.cells #[.int .i64 0, .int .i64 0, .int .i64 0, .int .i64 0, .int .i64 0, .int .i64 0, .int .i64 0, .int .i64 0, .int .i64 0, .int .i64 0, .int .i64 0] 30)).alloc (.cells #[.int .i64 i, .int .i64 c, .int .i64 x] 3))) W p (ds ++ r)) (hr : r.length ≤ 3) (k : Keep (PlusE S w ((w.alloc (.cells #[.int .i64 0, .int .i64 0, .int .i64 0, .int .i64 0, .int .i64 0, .int .i64 0, .int .i64 0, .int .i64 0, .int .i64 0, .int .i64 0, .int .i64 0] 30)).alloc (.cells #[.int .i64 i, .int .i64 c, .int .i64 x] 3))) ((w.alloc (.cells #[.int .i64 0, .int .i64 0, .int .i64 0, .int .i64 0, .int .i64 0, .int .i64 0, .int .i64 0, .int .i64 0, .int .i64 0, .int .i64 0, .int .i64 0] 30)).alloc (.cells #[.int .i64 i, .int .i64 c, .int .i64 x] 3)) W) => PPsk_ok a ((hk.up k1 hsub).keep k) (hL.more r) (by rw [List.length_append]; omega))
  have HB := Lib.hid (fun W (r s : List Nd) (j q : Int) (a : At w0 (PlusE S w ((w.alloc (.cells #[.int .i64 0, .int .i64 0, .int .i64 0, .int .i64 0, .int .i64 0, .int .i64 0, .int .i64 0, .int .i64 0, .int .i64 0, .int .i64 0, .int .i64 0] 30)).alloc (.cells #[.int .i64 i, .int .i64 c, .int .i64 x] 3))) W p (ds ++ r ++ s)) (hr : r.length ≤ 3) (hs : s.length ≤ l.length + 1) (dj : Den (joinT I C X) (ds ++ r ++ s) j) (dq : Den (pskT L) (ds ++ r ++ s) q) => PBegin_ok a dj dq ((hx.more r).more s) (by simp only [List.length_append]; omega))
  have HF := Shut.mk (And.intro hsub (And.intro hrb (And.intro h.base h.kept.size)))
  have HO := Shut.mk h.old
  obtain ⟨pb, rfl⟩ := h.ptr
  obtain ⟨va, vc, rfl, _, _, _⟩ := hk.rd.len
  have HB0 := Shut.mk b0
  have HK1 := Shut.mk k1
  clear h hk hs b0 k1 hi hc hx hL hsub hrb
  go_enter Tryd.func11, Tryd.ntmps11
  go_wp2_with fail
  generalize hT : PlusE S w ((w.alloc (.cells #[.int .i64 0, .int .i64 0, .int .i64 0, .int .i64 0, .int .i64 0, .int .i64 0, .int .i64 0, .int .i64 0, .int .i64 0, .int .i64 0, .int .i64 0] 30)).alloc (.cells #[.int .i64 i, .int .i64 c, .int .i64 x] 3)) = T at *
  generalize hw1 : ((w.alloc (.cells #[.int .i64 0, .int .i64 0, .int .i64 0, .int .i64 0, .int .i64 0, .int .i64 0, .int .i64 0, .int .i64 0, .int .i64 0, .int .i64 0, .int .i64 0] 30)).alloc (.cells #[.int .i64 i, .int .i64 c, .int .i64 x] 3)) = w1 at *
  clear hT hw1
  (with_reducible refine HT.out.mono ?_); rintro e wx ⟨rfl, rfl⟩
  go_wp2_with fail
  (with_reducible refine HT2.out.mono ?_); rintro e wx ⟨rfl, rfl⟩
  go_wp2_with fail
  (with_reducible refine HJ.out.mono ?_); rintro e w2 ⟨r2, t2, rfl, a2, hr2, d2, u2⟩
  have HPx := Lib.hid (HP.out w2 r2 a2 hr2 u2)
  have D2 := Shut.mk d2
  have U2 := Lib.hid u2
  clear HT HT2 HJ HP a2 d2 u2
  go_wp2_with fail
  (with_reducible refine HPx.out.mono ?_); rintro e w3 ⟨r3, t3, rfl, a3, hr3, d3, u3⟩
  have HBx := Lib.hid (HB.out w3 r2 r3 t2 t3 a3 hr2 hr3 (D2.out.more r3) d3)
  have U3 := Lib.hid (U2.out.trans u3)
  clear HPx HB a3 d3 u3 U2 D2
  go_wp2_with fail
  (with_reducible refine HBx.out.mono ?_); rintro e w4 ⟨r4, y, rfl, a4, hr4, d4, u4⟩
  obtain ⟨x0, x1, x2, x3, x4, x5, x6, x7, x8, x9, x10⟩ := y
  have U4 := U3.out.trans u4
  have b4 := Keep.blk U4 HB0.out HF.out.2.1
  have HR := Shut.mk b4
  have HK := Shut.mk (show ∀ W, Turn (fun b => b = w.heap.size) w4 W → At w0 S W (.pointer (some ⟨pb, 0, none⟩)) (ds ++ (r2 ++ r3 ++ r4)) ∧ Keep S w W from fun W t => by
    have e : ds ++ (r2 ++ r3 ++ r4) = ds ++ r2 ++ r3 ++ r4 := by simp only [List.append_assoc]
    rw [e]
    refine ⟨(a4.turn t (fun b e => by cases e; exact ⟨HF.out.2.1, HF.out.2.2.2⟩)).fewer HF.out.1 HF.out.2.2.1, ?_⟩
    exact Turn.trans ((HK1.out.keep S).trans (U4.down HF.out.1)) t (fun b e => .inl (fun d => by cases e; have := HO.out _ d; omega)))
  have HD := Shut.mk (show EpD (joinT I C X) (pskT L) X (ds ++ (r2 ++ r3 ++ r4)) ⟨x0, x1, x2, x3, x4, x5, x6, x7, x8, x9, x10⟩ from by
    have e : ds ++ (r2 ++ r3 ++ r4) = ds ++ r2 ++ r3 ++ r4 := by simp only [List.append_assoc]
    rw [e]; exact d4)
  have HL := Shut.mk (show (r2 ++ r3 ++ r4).length ≤ l.length + 40 by simp only [List.length_append]; omega)
  unfold epV
  simp only
  have q0 := b4.cell 0
  have n0 := b4.frozen 0
  have q1 := b4.cell 1
  have n1 := b4.frozen 1
  have q2 := b4.cell 2
  have n2 := b4.frozen 2
  have q3 := b4.cell 3
  have n3 := b4.frozen 3
  have q4 := b4.cell 4
  have n4 := b4.frozen 4
  have q5 := b4.cell 5
  have n5 := b4.frozen 5
  have q6 := b4.cell 6
  have n6 := b4.frozen 6
  have q7 := b4.cell 7
  have n7 := b4.frozen 7
  have q8 := b4.cell 8
  have n8 := b4.frozen 8
  have q9 := b4.cell 9
  have n9 := b4.frozen 9
  have q10 := b4.cell 10
  have n10 := b4.frozen 10
  simp only [List.getElem?_cons_succ, List.getElem?_cons_zero] at q0 q1 q2 q3 q4 q5 q6 q7 q8 q9 q10
  clear U3 U4 u4 a4 d4 HBx HB0 HF HO HK1 b4 hr2 hr3 hr4
  go_wp2
  have hb2 := (((((((((((HR.out).set 0 (.int .i64 x0)).set 1 (.int .i64 x1)).set 2 (.int .i64 x2)).set 3 (.int .i64 x3)).set 4 (.int .i64 x4)).set 5 (.int .i64 x5)).set 6 (.int .i64 x6)).set 7 (.int .i64 x7)).set 8 (.int .i64 x8)).set 9 (.int .i64 x9)).set 10 (.int .i64 x10)
  simp only [List.set_cons_zero, List.set_cons_succ] at hb2
  have d0 := hb2.cell 0
  have d1 := hb2.cell 1
  have d2 := hb2.cell 2
  have d3 := hb2.cell 3
  have d4 := hb2.cell 4
  have d5 := hb2.cell 5
  have d6 := hb2.cell 6
  have d7 := hb2.cell 7
  have d8 := hb2.cell 8
  have d9 := hb2.cell 9
  have d10 := hb2.cell 10
  simp only [List.getElem?_cons_zero, List.getElem?_cons_succ] at d0 d1 d2 d3 d4 d5 d6 d7 d8 d9 d10
  have hfin := HK.out _ (Turn.trans (Turn.trans (Turn.trans (Turn.trans (Turn.trans (Turn.trans (Turn.trans (Turn.trans (Turn.trans (Turn.trans (Turn.trans (Turn.refl _ _) (turn_setCell _ ⟨w.heap.size, 0, none⟩ (.int .i64 x0)) (fun b e => .inl e)) (turn_setCell _ ⟨w.heap.size, 1, none⟩ (.int .i64 x1)) (fun b e => .inl e)) (turn_setCell _ ⟨w.heap.size, 2, none⟩ (.int .i64 x2)) (fun b e => .inl e)) (turn_setCell _ ⟨w.heap.size, 3, none⟩ (.int .i64 x3)) (fun b e => .inl e)) (turn_setCell _ ⟨w.heap.size, 4, none⟩ (.int .i64 x4)) (fun b e => .inl e)) (turn_setCell _ ⟨w.heap.size, 5, none⟩ (.int .i64 x5)) (fun b e => .inl e)) (turn_setCell _ ⟨w.heap.size, 6, none⟩ (.int .i64 x6)) (fun b e => .inl e)) (turn_setCell _ ⟨w.heap.size, 7, none⟩ (.int .i64 x7)) (fun b e => .inl e)) (turn_setCell _ ⟨w.heap.size, 8, none⟩ (.int .i64 x8)) (fun b e => .inl e)) (turn_setCell _ ⟨w.heap.size, 9, none⟩ (.int .i64 x9)) (fun b e => .inl e)) (turn_setCell _ ⟨w.heap.size, 10, none⟩ (.int .i64 x10)) (fun b e => .inl e))
  exact bodyPost_ret (v := .tuple #[epV ⟨x0, x1, x2, x3, x4, x5, x6, x7, x8, x9, x10⟩, .int .i64 0]) (by simp [results, Tryd.results11, go_sem, epV, ep0, d0, d1, d2, d3, d4, d5, d6, d7, d8, d9, d10]) rfl ⟨_, _, rfl, hfin.1, HL.out, HD.out, hfin.2⟩
end Go.Proofs.YtekieioffaafaaaDoor
end
