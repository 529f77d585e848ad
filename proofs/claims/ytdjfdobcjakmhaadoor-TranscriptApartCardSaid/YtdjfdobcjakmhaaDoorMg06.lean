/- Texts of one proof, put together: CrB, CrC, CrD, ScA, ScB, ScG, TsA, TsB, TsR, TsS, TsV, ScC, ScD, ScE, ScF, ScI, ScJ, ScQ, ScL, ScM, ScN, ScO, ScU, ScW. -/
import Derived.Test.YtdjfdobcjakmhaaDoorMg04
import Derived.StillTailTactics
import Derived.Deep.DeepCutAuto
import Derived.Deep.WholeRow
import Derived.BigQuiet
import Derived.BigRegion
import Derived.Shelf.Abstract
import Derived.Laws.EntriesVeiled
import Derived.Deep.RegionHeld3
import Derived.Deep.Cut
import Derived.Laws.StructEq
import Derived.ChangeKeysEq
import Derived.Test.YtdjfdobcjakmhaaDoorMg05
import Derived.Test.YtdjfdobcjakmhaaDoorMg02
import Derived.Test.YtdjfdobcjakmhaaDoorMg01
section
/- Walks of package crypto: parts. -/
set_option linter.unusedSimpArgs false
set_option linter.unusedVariables false
namespace Go.Proofs.YtdjfdobcjakmhaaDoor
open Go.RowKit Go.Maps

theorem ones4 (a b c d : Int) : (#[Value.int .i64 a, .int .i64 b, .int .i64 c, .int .i64 d].all fun x => x.oneCell') = true := by simp [Value.oneCell']
/-- Four numbers, as an array. -/
def arr4 (l : List Int) : Value := .agg #[.int .i64 (l.getD 0 0), .int .i64 (l.getD 1 0), .int .i64 (l.getD 2 0), .int .i64 (l.getD 3 0)]
theorem partsL_no {ds : List Nd} {op t : Int} (h : partsB ds op t = false) : partsL ds op t = [0, 0, 0, 0] := by unfold partsL; rw [h]; rfl
theorem partsL_yes {ds : List Nd} {op t : Int} (h : partsB ds op t = true) : partsL ds op t = ((ndAt ds t).l ++ [0, 0, 0, 0]).take 4 := by unfold partsL; rw [h]; rfl
theorem partsB_cases {ds : List Nd} {op t : Int} (h : partsB ds op t = false) : ndE ds t = 4 ∨ (ndE ds t = 0 ∧ ¬ (ndAt ds t).op = op) := by
  unfold partsB at h
  rw [ndE_eq]
  by_cases c : IsT ds t
  · rw [if_pos c]
    refine .inr ⟨rfl, fun e => ?_⟩
    rw [decide_eq_true c, decide_eq_true e] at h
    cases h
  · exact .inl (if_neg c)
theorem partsB_true {ds : List Nd} {op t : Int} (h : partsB ds op t = true) : ndE ds t = 0 ∧ (ndAt ds t).op = op := by
  unfold partsB at h
  rw [Bool.and_eq_true] at h
  exact ⟨by rw [ndE_eq, if_pos (of_decide_eq_true h.1)], of_decide_eq_true h.2⟩

/-- What is laid over the head of four zeros. -/
theorem splice4 (l : List Int) : splice [Value.int .i64 0, .int .i64 0, .int .i64 0, .int .i64 0] 0 ((l.take 4).map (Value.int .i64)) = (((l ++ [0, 0, 0, 0]).take 4).map (Value.int .i64)) := by
  match l with
  | [] => rfl
  | [a] => rfl
  | [a, b] => rfl
  | [a, b, c] => rfl
  | a :: b :: c :: d :: r => simp [splice]
theorem four (l : List Int) : ((l ++ [0, 0, 0, 0]).take 4).length = 4 := by rw [List.length_take, List.length_append]; simp
theorem arr4_cells {l : List Int} (h : l.length = 4) : l.map (Value.int .i64) = [.int .i64 (l.getD 0 0), .int .i64 (l.getD 1 0), .int .i64 (l.getD 2 0), .int .i64 (l.getD 3 0)] := by
  match l, h with
  | [a, b, c, d], _ => rfl

end Go.Proofs.YtdjfdobcjakmhaaDoor
end

section
/- Walks of package crypto: what is made of terms. -/
set_option linter.unusedSimpArgs false
set_option linter.unusedVariables false
namespace Go.Proofs.YtdjfdobcjakmhaaDoor
open Go.RowKit Go.Maps

set_option maxHeartbeats 4000000 in
set_option maxRecDepth 100000 in
theorem tagA {w0 : World} {S : Nat → Prop} {w : World} {p : Value} {ds : List Nd} (h : At w0 S w p ds) {a b : Int} (ha : I64 a) (hb : I64 b) :
    Calls Tryd.prog 42 #[p, .int .i64 a, .int .i64 b] w (MkPost w0 S w p (made ds 11 [a, b])) := by
  have k0 : Kept w (w.alloc (.cells #[.int .i64 a, .int .i64 b] 3)) := (Kept.refl w).alloc _
  have hr : RdI (w.alloc (.cells #[.int .i64 a, .int .i64 b] 3)) (.slice (some ⟨w.heap.size, 0, none⟩) 2 2) [a, b] := RdI.lit w [a, b] (by simp)
  have hm := madeA (h.step k0) hr (op := 11) (i64_lit (by simp)) (fun x hx => by
    simp only [List.mem_cons, List.not_mem_nil, or_false] at hx
    rcases hx with rfl | rfl
    · exact ha
    · exact hb)
  generalize made ds 11 [a, b] = m at hm ⊢
  clear hr
  go_enter Tryd.func42, Tryd.ntmps42
  go_wp2_with fail
  refine hm.mono ?_
  rintro e w' ⟨rfl, r1, r2⟩
  go_wp2
  go_ret2
  exact ⟨rfl, r1, (k0.keep S).trans r2⟩

set_option maxHeartbeats 4000000 in
set_option maxRecDepth 100000 in
theorem allA {w0 : World} {S : Nat → Prop} {w : World} {p : Value} {ds : List Nd} (h : At w0 S w p ds) {v : Value} {l : List Int} (hd : RdI w v l) (hok : ∀ x ∈ l, I64 x) :
    Calls Tryd.prog 46 #[p, v] w (MkPost w0 S w p (mk ds ⟨3, 0, [], l⟩)) := by
  obtain ⟨la, lc, rfl, l1, l2, l3⟩ := hd.len
  have hm := listA h hd hok
  generalize mk ds ⟨3, 0, [], l⟩ = m at hm ⊢
  go_enter Tryd.func46, Tryd.ntmps46
  go_wp2_with fail
  refine hm.mono ?_
  rintro e w' ⟨rfl, r1, r2⟩
  go_wp2
  go_ret2
  exact ⟨rfl, r1, r2⟩

theorem mk_t64' (ds : List Nd) (d : Nd) (hl : ds.length ≤ 100000) : I64 (mk ds d).2.1 := by
  have := mk_t64 ds d hl
  exact ⟨by omega, by omega⟩
theorem mk_e64 (ds : List Nd) (d : Nd) : I64 (mk ds d).2.2 := by
  rcases mk_e ds d with e | e | e <;> rw [e] <;> exact i64_lit (by simp)

end Go.Proofs.YtdjfdobcjakmhaaDoor
end

section
/- Walks of package crypto: Derive, Seal, Open, Unlock. -/
set_option linter.unusedSimpArgs false
set_option linter.unusedVariables false
namespace Go.Proofs.YtdjfdobcjakmhaaDoor
open Go.RowKit Go.Maps

end Go.Proofs.YtdjfdobcjakmhaaDoor
end

section
/- The program's terms as trees: Derive, Public, Extract, Expand. -/
set_option linter.unusedSimpArgs false
set_option linter.unusedVariables false
namespace Go.Proofs.YtdjfdobcjakmhaaDoor
open Go.RowKit Go.Maps

/-- What a call leaves that makes terms, no more than n, and of the one it answers Q. -/
def PMk (w0 : World) (S : Nat → Prop) (w : World) (p : Value) (ds : List Nd) (n : Nat) (Q : List Nd → Int → Prop) (e : Ending) (w' : World) : Prop :=
  ∃ (r : List Nd) (t : Int), e = .returned (.tuple #[.int .i64 t, .int .i64 0]) ∧ At w0 S w' p (ds ++ r) ∧ r.length ≤ n ∧ Q (ds ++ r) t ∧ Keep S w w'
theorem PMk.of {w0 : World} {S : Nat → Prop} {w : World} {p : Value} {ds : List Nd} {n : Nat} {Q : List Nd → Int → Prop} {m : List Nd × Int × Int} (hm : ∃ r t, m = (ds ++ r, t, 0) ∧ r.length ≤ n ∧ (Good (ds ++ r) → Q (ds ++ r) t)) {e : Ending} {w' : World} (h : MkPost w0 S w p m e w') : PMk w0 S w p ds n Q e w' := by
  obtain ⟨r, t, rfl, hr, hq⟩ := hm
  obtain ⟨he, ha, hk⟩ := h
  exact ⟨r, t, he, ha, hr, hq ha.good, hk⟩
theorem derive_den {ds : List Nd} {s : Int} {T : Tr} {x : List UInt8} (hs : Den T ds s) (hx : x.length ≤ 200) (hl : ds.length + 3 < 100000) : ∃ r t, deriveM ds s x = (ds ++ r, t, 0) ∧ r.length ≤ 3 ∧ (Good (ds ++ r) → Den (derT T x) (ds ++ r) t) := by
  obtain ⟨r1, t1, h1, hr1, i1⟩ := mk_is (may_list ds (l := []) (by simp) (fun x h => by cases h)) (by omega)
  obtain ⟨r2, y, t2, h2, hr2, i2, i3⟩ := expand_is (ds := ds ++ r1) (hs.1.more r1) i1.isT hx (by rw [List.length_append]; omega)
  refine ⟨r1 ++ r2, y, ?_, by rw [List.length_append]; omega, fun hg => ?_⟩
  · unfold deriveM
    rw [h1]
    simp only [terms_of (fun z hz => by rw [List.mem_singleton.1 hz]; exact hs.1), if_true]
    rw [h2, List.append_assoc]
  · rw [← List.append_assoc] at hg ⊢
    exact den_key hg i3 ((hs.more r1).more r2) i2 (den_list hg (i1.more r2) (DenL.nil _))
theorem expand_den {ds : List Nd} {s c : Int} {T C : Tr} {x : List UInt8} (hs : Den T ds s) (hc : Den C ds c) (hx : x.length ≤ 200) (hl : ds.length + 2 < 100000) : ∃ r t, expandM ds s x c = (ds ++ r, t, 0) ∧ r.length ≤ 2 ∧ (Good (ds ++ r) → Den (keyT T x C) (ds ++ r) t) := by
  obtain ⟨r, y, t, h1, hr, i1, i2⟩ := expand_is hs.1 hc.1 hx (by omega)
  exact ⟨r, y, h1, hr, fun hg => den_key hg i2 (hs.more r) i1 (hc.more r)⟩
theorem ptext_ok {w0 : World} {S : Nat → Prop} {w : World} {p : Value} {ds : List Nd} (h : At w0 S w p ds) (x : List UInt8) (hx : x.length ≤ 200) (hl : ds.length < 100000) :
    Calls Tryd.prog 23 #[p, .string (strB x)] w (PMk w0 S w p ds 1 (Den (textT x))) :=
  (textA h x (by unfold maxLen; omega)).mono fun _ _ q => PMk.of (by
    obtain ⟨r, t, h1, hr, i1⟩ := mk_is (may_text ds hx) hl
    exact ⟨r, t, h1, hr, fun hg => den_text hg i1⟩) q
/-- What a call leaves that tells an error: no more than n terms were made. -/
def PNo (w0 : World) (S : Nat → Prop) (w : World) (p : Value) (ds : List Nd) (n : Nat) (e : Ending) (w' : World) : Prop :=
  ∃ r : List Nd, e = .returned (.tuple #[.int .i64 0, .int .i64 1]) ∧ At w0 S w' p (ds ++ r) ∧ r.length ≤ n ∧ Keep S w w'
theorem mk_long {ds : List Nd} {x : List UInt8} (hx : 200 < x.length) : mk ds ⟨2, 0, x, []⟩ = (ds, 0, 1) := mk_bad (fun h => by have := h.s0; simp only at this; omega)
theorem derive_long {ds : List Nd} {s : Int} {x : List UInt8} (hs : IsT ds s) (hx : 200 < x.length) (hl : ds.length < 100000) : ∃ r, deriveM ds s x = (ds ++ r, 0, 1) ∧ r.length ≤ 1 := by
  obtain ⟨r1, t1, h1, hr1, i1⟩ := mk_is (may_list ds (l := []) (by simp) (fun x h => by cases h)) hl
  refine ⟨r1, ?_, hr1⟩
  unfold deriveM
  rw [h1]
  simp only [terms_of (fun z hz => by rw [List.mem_singleton.1 hz]; exact hs), if_true]
  unfold expandM
  simp only [mk_long hx, terms2 (hs.more r1) i1.isT, if_true]
  rw [if_neg (by decide)]
end Go.Proofs.YtdjfdobcjakmhaaDoor
end

section
/- Package schedule: terms, Psk, Joiner, Inner, Export. -/
set_option linter.unusedSimpArgs false
set_option linter.unusedVariables false
namespace Go.Proofs.YtdjfdobcjakmhaaDoor
open Go.RowKit Go.Maps

theorem At.ptr {w0 : World} {S : Nat → Prop} {w : World} {p : Value} {ds : List Nd} (h : At w0 S w p ds) : ∃ pb, p = .pointer (some ⟨pb, 0, none⟩) := by
  obtain ⟨F, hF, _⟩ := h.ar
  obtain ⟨pb, mb, nv, rfl, _, _, _⟩ := hF.nodes
  exact ⟨pb, rfl⟩

/-- Numbers that are read, wherever S stays. -/
def RdK (S : Nat → Prop) (w : World) (v : Value) (l : List Int) : Prop := ∀ W, Keep S w W → RdI W v l
theorem RdK.rd {S : Nat → Prop} {w : World} {v : Value} {l : List Int} (h : RdK S w v l) : RdI w v l := h w (Keep.refl S w)
theorem RdK.keep {S : Nat → Prop} {w w' : World} {v : Value} {l : List Int} (h : RdK S w v l) (k : Keep S w w') : RdK S w' v l := fun W k2 => h W (k.trans k2)
theorem RdI.rdK {S : Nat → Prop} {w0 w : World} {v : Value} {l : List Int} (h : RdI w0 v l) (k : Kept w0 w) (hb : ∀ b, b < w0.heap.size → S b) : RdK S w v l := fun W k2 => h.kept (k2.of k hb)
theorem RdK.nil (S : Nat → Prop) (w : World) : RdK S w (.slice none 0 0) [] := fun W _ => RdI.nil W
theorem RdK.own {S : Nat → Prop} {w : World} {B : Nat} {v : Value} {l : List Int} (h : OwnI B w v l) (hs : ∀ b, Blks v b → S b) : RdK S w v l := fun W k => (k.owni h hs).rd

/-- An epoch in memory. -/
def epL (x : Ep) : List Value := [.int .i64 x.joiner, .int .i64 x.welcome, .int .i64 x.epoch, .int .i64 x.sender, .int .i64 x.encryption, .int .i64 x.exporter, .int .i64 x.confirm, .int .i64 x.membership, .int .i64 x.resumption, .int .i64 x.external, .int .i64 x.init]
def epV (x : Ep) : Value := .agg #[.int .i64 x.joiner, .int .i64 x.welcome, .int .i64 x.epoch, .int .i64 x.sender, .int .i64 x.encryption, .int .i64 x.exporter, .int .i64 x.confirm, .int .i64 x.membership, .int .i64 x.resumption, .int .i64 x.external, .int .i64 x.init]
end Go.Proofs.YtdjfdobcjakmhaaDoor
end

section
/- The document's schedule: Of, bad, Expand, Derive of what may not be; Psk, Joiner, Inner. -/
set_option linter.unusedSimpArgs false
set_option linter.unusedVariables false
namespace Go.Proofs.YtdjfdobcjakmhaaDoor
open Go.RowKit Go.Maps

theorem AtR.ptr {w0 : World} {S : Nat → Prop} {w : World} {p : Value} {ds : List Nd} (h : AtR w0 S w p ds) : ∃ pb, p = .pointer (some ⟨pb, 0, none⟩) := by
  obtain ⟨F, hF, _⟩ := h.ar
  obtain ⟨pb, mb, nv, rfl, _, _, _⟩ := ArG.nodes hF
  exact ⟨pb, rfl⟩
/-- What a call leaves that tells an error: no more than n terms were made. -/
def RNo (w0 : World) (S : Nat → Prop) (w : World) (p : Value) (ds : List Nd) (n : Nat) (e : Ending) (w' : World) : Prop :=
  ∃ r : List Nd, e = .returned (.tuple #[.int .i64 0, .int .i64 1]) ∧ AtR w0 S w' p (ds ++ r) ∧ r.length ≤ n ∧ Keep S w w'
set_option maxHeartbeats 4000000 in
set_option maxRecDepth 100000 in
theorem ofR_any {w0 : World} {S : Nat → Prop} {w : World} {p v : Value} {ds : List Nd} {op : Int} {l : List Int} (h : AtR w0 S w p ds) (hr : RdI w v l) (hop : I64 op) (hok : ∀ x ∈ l, I64 x) :
    Calls Tryd.prog 43 #[p, .int .i64 op, v] w (MkPostR w0 S w p (mk ds ⟨op, 0, [], l⟩)) := by
  have HM := Lib.hid (makeAR h (v := .agg #[.int .i64 op, .int .i64 0, .string (strB []), v]) (d := ⟨op, 0, [], l⟩) ⟨_, rfl, hr⟩ ⟨hop, ⟨by simp, by simp⟩, by simp, hok⟩)
  rw [show strB [] = ⟨#[]⟩ from rfl] at HM
  obtain ⟨va, vc, rfl, _, _, _⟩ := hr.len
  obtain ⟨pb, rfl⟩ := h.ptr
  generalize mk ds ⟨op, 0, [], l⟩ = m at HM ⊢
  clear h hr hok
  go_enter Tryd.func43, Tryd.ntmps43
  go_wp2_with fail
  (with_reducible refine HM.out.mono ?_); rintro e w2 ⟨rfl, a2, t2⟩
  go_wp2
  go_ret2
  exact ⟨rfl, a2, t2⟩
theorem mixR_ok {w0 : World} {S : Nat → Prop} {w : World} {p v : Value} {ds : List Nd} {a b : Int} {A B : Tr} (h : AtR w0 S w p ds) (hr : RdI w v [a, b]) (ha : Den A ds a) (hb : Den B ds b) (hl : ds.length < 100000) :
    Calls Tryd.prog 43 #[p, .int .i64 5, v] w (RMk w0 S w p ds 1 (Den (mixT A B))) :=
  (ofR_ok h hr (may2 (.inl rfl) ha.1 hb.1) hl).mono fun e w' ⟨r, t, he, ar, hl, hi, hk⟩ => ⟨r, t, he, ar, hl, den_mix ar.good hi (ha.more r) (hb.more r), hk⟩
theorem pubR_ok {w0 : World} {S : Nat → Prop} {w : World} {p v : Value} {ds : List Nd} {a : Int} {A : Tr} (h : AtR w0 S w p ds) (hr : RdI w v [a]) (ha : Den A ds a) (hl : ds.length < 100000) :
    Calls Tryd.prog 43 #[p, .int .i64 7, v] w (RMk w0 S w p ds 1 (Den (pubT A))) :=
  (ofR_ok h hr (may1 (.inr rfl) ha.1) hl).mono fun e w' ⟨r, t, he, ar, hl, hi, hk⟩ => ⟨r, t, he, ar, hl, den_pub ar.good hi (ha.more r), hk⟩
theorem not_terms {ds : List Nd} {l : List Int} (h : termsB ds l = false) : ¬ ∀ x ∈ l, IsT ds x := fun k => by rw [terms_of k] at h; cases h
theorem mixR_no {w0 : World} {S : Nat → Prop} {w : World} {p v : Value} {ds : List Nd} {a b : Int} (h : AtR w0 S w p ds) (hr : RdI w v [a, b]) (ia : I64 a) (ib : I64 b) (hb : termsB ds [a, b] = false) :
    Calls Tryd.prog 43 #[p, .int .i64 5, v] w (RNo w0 S w p ds 0) := by
  have hm : mk ds ⟨5, 0, [], [a, b]⟩ = (ds, 0, 1) := mk_bad (fun h => not_terms hb (fun x hx => h.all x hx))
  refine (ofR_any h hr (i64_lit (by simp)) (fun x hx => by
    simp only [List.mem_cons, List.not_mem_nil, or_false] at hx
    rcases hx with rfl | rfl
    · exact ia
    · exact ib)).mono fun e w' q => ?_
  rw [hm] at q
  exact ⟨[], q.1, by rw [List.append_nil]; exact q.2.1, Nat.zero_le _, q.2.2⟩
set_option maxHeartbeats 4000000 in
set_option maxRecDepth 100000 in
theorem textR_long {w0 : World} {S : Nat → Prop} {w : World} {p : Value} {ds : List Nd} (h : AtR w0 S w p ds) (s : List UInt8) (hs : 200 < s.length) (hm : s.length ≤ maxLen) :
    Calls Tryd.prog 22 #[p, .string (strB s)] w (RNo w0 S w p ds 0) := by
  have HM := Lib.hid (makeAR h (v := .agg #[.int .i64 2, .int .i64 0, .string (strB s), .slice none 0 0]) (d := ⟨2, 0, s, []⟩) ⟨_, rfl, RdI.nil _⟩ ⟨⟨by simp, by simp⟩, ⟨by simp, by simp⟩, hm, fun x hx => by cases hx⟩)
  rw [mk_long hs] at HM
  obtain ⟨pb, rfl⟩ := h.ptr
  clear h
  generalize strB s = X at HM ⊢
  go_enter Tryd.func22, Tryd.ntmps22
  go_wp2_with fail
  (with_reducible refine HM.out.mono ?_); rintro e w2 ⟨rfl, a2, t2⟩
  go_wp2
  go_ret2
  exact ⟨[], rfl, by rw [List.append_nil]; exact a2, Nat.zero_le _, t2⟩
/-- What is no term stays none. -/
def Stays (ds : List Nd) (x : Int) : Prop := ∀ r : List Nd, (ds ++ r).length ≤ 100000 → IsT (ds ++ r) x → IsT ds x
theorem Stays.more {ds : List Nd} {x : Int} (h : Stays ds x) (r : List Nd) : Stays (ds ++ r) x := fun s hs k => by
  rw [List.append_assoc] at hs k
  exact (h _ hs k).more r
theorem RdI.pre2 {w : World} {g o c n : Nat} {us : List Int} (h : RdI w (.slice (some ⟨g, o, none⟩) n c) us) (k : Nat) (hk : k ≤ us.length) : RdI w (.slice (some ⟨g, o, none⟩) k c) (us.take k) := by
  obtain ⟨a, cap, hv, hl, hc, hm, hno, hcell⟩ := h
  simp only [Value.slice.injEq] at hv
  obtain ⟨rfl, _, rfl⟩ := hv
  have hlen : (us.take k).length = k := by rw [List.length_take]; omega
  unfold RdI
  rw [hlen]
  refine ⟨_, _, rfl, by simp [hlen]; omega, by omega, hm, hno, fun ad had j u hj => hcell ad had j u ?_⟩
  have hjk : j < k := by
    have := (List.getElem?_eq_some_iff.1 hj).1
    simp at this; omega
  rw [← hj]
  simp [List.getElem?_take, hjk]
theorem Keep.rdk {S : Nat → Prop} {w w' : World} {v : Value} {l : List Int} (h : RdK S w v l) (k : Keep S w w') : RdK S w' v l := h.keep k
theorem denL_last {L : List Tr} {ds : List Nd} {l : List Int} {m : Nat} (h : DenL L ds l) (hm : l.length = m + 1) : DenL (L.take m) ds (l.take m) ∧ Den (L.getD m tr0) ds (l.getD m 0) ∧ pskT L = mixT (pskT (L.take m)) (L.getD m tr0) := by
  have hl : L.length = m + 1 := by rw [← h.2, List.length_map, hm]
  refine ⟨⟨fun x hx => h.1 x (List.mem_of_mem_take hx), by rw [List.map_take, h.2]⟩, ⟨?_, ?_⟩, ?_⟩
  · rw [List.getD_eq_getElem?_getD, List.getElem?_eq_getElem (by omega)]
    exact h.1 _ (List.getElem_mem _)
  · rw [← h.2]
    simp only [List.getD_eq_getElem?_getD, List.getElem?_map, List.getElem?_eq_getElem (show m < l.length by omega), Option.map_some, Option.getD_some]
  · have e : L = L.take m ++ [L[m]] := by
      rw [← List.take_succ_eq_append_getElem (by omega), List.take_of_length_le (by omega)]
    conv => lhs; rw [e]
    rw [pskT_snoc, List.getD_eq_getElem?_getD, List.getElem?_eq_getElem (by omega)]
    rfl
theorem terms_last {ds : List Nd} {l : List Int} {m : Nat} (hm : l.length = m + 1) : termsB ds l = (termsB ds (l.take m) && decide (IsT ds (l.getD m 0))) := by
  have e : l = l.take m ++ [l.getD m 0] := by
    rw [List.getD_eq_getElem?_getD, List.getElem?_eq_getElem (show m < l.length by omega), Option.getD_some, ← List.take_succ_eq_append_getElem (by omega), List.take_of_length_le (by omega)]
  conv => lhs; rw [e]
  unfold termsB
  rw [List.all_append]
  simp
end Go.Proofs.YtdjfdobcjakmhaaDoor
end

section
/- The document's transcript: hashed, Confirmed, Tag, Interim, Context. -/
set_option linter.unusedSimpArgs false
set_option linter.unusedVariables false
namespace Go.Proofs.YtdjfdobcjakmhaaDoor
open Go.RowKit Go.Maps

theorem listR_ok {w0 : World} {S : Nat → Prop} {w : World} {p v : Value} {ds : List Nd} {l : List Int} {L : List Tr} (h : AtR w0 S w p ds) (hr : RdI w v l) (h64 : l.length ≤ 64) (hL : DenL L ds l) (hl : ds.length < 100000) :
    Calls Tryd.prog 25 #[p, v] w (RMk w0 S w p ds 1 (Den (listT L))) :=
  (listAR_ok h hr h64 hL.1 hl).mono fun e w' ⟨r, t, he, ar, hlen, hi, hk⟩ => ⟨r, t, he, ar, hlen, den_list ar.good hi (hL.more r), hk⟩
set_option maxHeartbeats 4000000 in
set_option maxRecDepth 100000 in
theorem listR_no {w0 : World} {S : Nat → Prop} {w : World} {p v : Value} {ds : List Nd} {l : List Int} (h : AtR w0 S w p ds) (hr : RdI w v l) (hok : ∀ x ∈ l, I64 x) (hb : termsB ds l = false) :
    Calls Tryd.prog 25 #[p, v] w (RNo w0 S w p ds 0) := by
  have hm : mk ds ⟨3, 0, [], l⟩ = (ds, 0, 1) := mk_bad (fun h => not_terms hb (fun x hx => h.all x hx))
  have HM := Lib.hid (ofR_any h hr (op := 3) (i64_lit (by simp)) hok)
  rw [hm] at HM
  obtain ⟨pb, rfl⟩ := h.ptr
  obtain ⟨va, vc, rfl, _, _, _⟩ := hr.len
  clear h hr hok hb hm
  go_enter Tryd.func25, Tryd.ntmps25
  go_wp2_with fail
  (with_reducible refine HM.out.mono ?_); rintro e w2 ⟨rfl, a2, t2⟩
  go_wp2
  go_ret2
  exact ⟨[], rfl, by rw [List.append_nil]; exact a2, Nat.zero_le _, t2⟩
theorem hashR_ok {w0 : World} {S : Nat → Prop} {w : World} {p v : Value} {ds : List Nd} {a : Int} {A : Tr} (h : AtR w0 S w p ds) (hr : RdI w v [a]) (ha : Den A ds a) (hl : ds.length < 100000) :
    Calls Tryd.prog 43 #[p, .int .i64 4, v] w (RMk w0 S w p ds 1 (Den (hashT A))) :=
  (ofR_ok h hr (may1 (.inl rfl) ha.1) hl).mono fun e w' ⟨r, t, he, ar, hl, hi, hk⟩ => ⟨r, t, he, ar, hl, den_hash ar.good hi (ha.more r), hk⟩
theorem macR_ok {w0 : World} {S : Nat → Prop} {w : World} {p v : Value} {ds : List Nd} {a b : Int} {A B : Tr} (h : AtR w0 S w p ds) (hr : RdI w v [a, b]) (ha : Den A ds a) (hb : Den B ds b) (hl : ds.length < 100000) :
    Calls Tryd.prog 43 #[p, .int .i64 11, v] w (RMk w0 S w p ds 1 (Den (macT A B))) :=
  (ofR_ok h hr (may2 (.inr (.inr (.inl rfl))) ha.1 hb.1) hl).mono fun e w' ⟨r, t, he, ar, hl, hi, hk⟩ => ⟨r, t, he, ar, hl, den_mac ar.good hi (ha.more r) (hb.more r), hk⟩
theorem macR_no {w0 : World} {S : Nat → Prop} {w : World} {p v : Value} {ds : List Nd} {a b : Int} (h : AtR w0 S w p ds) (hr : RdI w v [a, b]) (ia : I64 a) (ib : I64 b) (hb : termsB ds [a, b] = false) :
    Calls Tryd.prog 43 #[p, .int .i64 11, v] w (RNo w0 S w p ds 0) := by
  have hm : mk ds ⟨11, 0, [], [a, b]⟩ = (ds, 0, 1) := mk_bad (fun h => not_terms hb (fun x hx => h.all x hx))
  refine (ofR_any h hr (i64_lit (by simp)) (fun x hx => by
    simp only [List.mem_cons, List.not_mem_nil, or_false] at hx
    rcases hx with rfl | rfl
    · exact ia
    · exact ib)).mono fun e w' q => ?_
  rw [hm] at q
  exact ⟨[], q.1, by rw [List.append_nil]; exact q.2.1, Nat.zero_le _, q.2.2⟩
set_option maxHeartbeats 4000000 in
set_option maxRecDepth 100000 in
theorem hashedR_ok {w0 : World} {S : Nat → Prop} {w : World} {p v : Value} {ds : List Nd} {l : List Int} {L : List Tr} (h : AtR w0 S w p ds) (hr : RdI w v l) (h64 : l.length ≤ 64) (hL : DenL L ds l) (hl : ds.length + 1 < 100000) :
    Calls Tryd.prog 39 #[p, v] w (RMk w0 S w p ds 2 (Den (hashLT L))) := by
  have HL := Lib.hid (listR_ok h hr h64 hL (by omega))
  have HO := Lib.hid (fun W (r : List Nd) (t : Int) (a : AtR w0 S W p (ds ++ r)) (hr : r.length ≤ 1) (d : Den (listT L) (ds ++ r) t) => hashR_ok (a.step ((Kept.refl W).alloc (.cells #[.int .i64 t] 3))) (RdI.sl1 W t) d (by rw [List.length_append]; omega))
  obtain ⟨pb, rfl⟩ := h.ptr
  obtain ⟨va, vc, rfl, _, _, _⟩ := hr.len
  clear h hr h64 hL
  go_enter Tryd.func39, Tryd.ntmps39
  go_wp2_with fail
  (with_reducible refine HL.out.mono ?_); rintro e w2 ⟨r2, t2, rfl, a2, hr2, d2, k2⟩
  have HX := Lib.hid (HO.out w2 r2 t2 a2 hr2 d2)
  have ks : Kept w2 (w2.alloc (.cells #[.int .i64 t2] 3)) := (Kept.refl w2).alloc _
  clear HO HL a2 d2
  go_wp2_with fail
  generalize w2.alloc (.cells #[.int .i64 t2] 3) = w2' at *
  (with_reducible refine HX.out.mono ?_); rintro e w3 ⟨r3, t3, rfl, a3, hr3, d3, k3⟩
  go_wp2
  go_ret2
  exact ⟨r2 ++ r3, t3, rfl, by rw [← List.append_assoc]; exact a3, by rw [List.length_append]; omega, by rw [← List.append_assoc]; exact d3, (k2.trans (ks.keep S)).trans k3⟩
set_option maxHeartbeats 4000000 in
set_option maxRecDepth 100000 in
theorem hashedR_no {w0 : World} {S : Nat → Prop} {w : World} {p v : Value} {ds : List Nd} {l : List Int} (h : AtR w0 S w p ds) (hr : RdI w v l) (hok : ∀ x ∈ l, I64 x) (hb : termsB ds l = false) :
    Calls Tryd.prog 39 #[p, v] w (RNo w0 S w p ds 0) := by
  have HL := Lib.hid (listR_no h hr hok hb)
  obtain ⟨pb, rfl⟩ := h.ptr
  obtain ⟨va, vc, rfl, _, _, _⟩ := hr.len
  clear h hr hok hb
  go_enter Tryd.func39, Tryd.ntmps39
  go_wp2_with fail
  (with_reducible refine HL.out.mono ?_); rintro e w2 ⟨r2, rfl, a2, hr2, k2⟩
  go_wp2
  go_ret2
  exact ⟨r2, rfl, a2, hr2, k2⟩
/-! ## the calls -/
set_option maxHeartbeats 4000000 in
set_option maxRecDepth 100000 in
theorem RConfirmed_ok {w0 : World} {S : Nat → Prop} {w : World} {p : Value} {ds : List Nd} {i c g : Int} {I C G : Tr} (h : AtR w0 S w p ds) (hi : Den I ds i) (hc : Den C ds c) (hg : Den G ds g) (hl : ds.length + 2 < 100000) :
    Calls Tryd.prog 13 #[p, .int .i64 i, .int .i64 c, .int .i64 g] w (RMk w0 S w p ds 2 (Den (confT I C G))) := by
  have k1 : Kept w (w.alloc (.cells #[.int .i64 i, .int .i64 c, .int .i64 g] 3)) := (Kept.refl w).alloc _
  have HM := Lib.hid (hashedR_ok (h.step k1) (RdI.sl3 w i c g) (by simp) (DenL.cons hi (DenL.cons hc (DenL.cons hg (DenL.nil _)))) (by omega))
  obtain ⟨pb, rfl⟩ := h.ptr
  clear h hi hc hg
  go_enter Tryd.func13, Tryd.ntmps13
  go_wp2_with fail
  generalize w.alloc (.cells #[.int .i64 i, .int .i64 c, .int .i64 g] 3) = w1 at *
  (with_reducible refine HM.out.mono ?_); rintro e w2 ⟨r2, t2, rfl, a2, hr2, d2, k2⟩
  go_wp2
  go_ret2
  exact ⟨r2, t2, rfl, a2, by omega, d2, (k1.keep S).trans k2⟩
set_option maxHeartbeats 4000000 in
set_option maxRecDepth 100000 in
theorem RConfirmed_no {w0 : World} {S : Nat → Prop} {w : World} {p : Value} {ds : List Nd} {i c g : Int} (h : AtR w0 S w p ds) (ii : I64 i) (ic : I64 c) (ig : I64 g) (hb : termsB ds [i, c, g] = false) :
    Calls Tryd.prog 13 #[p, .int .i64 i, .int .i64 c, .int .i64 g] w (RNo w0 S w p ds 0) := by
  have k1 : Kept w (w.alloc (.cells #[.int .i64 i, .int .i64 c, .int .i64 g] 3)) := (Kept.refl w).alloc _
  have HM := Lib.hid (hashedR_no (h.step k1) (RdI.sl3 w i c g) (fun x hx => by
    simp only [List.mem_cons, List.not_mem_nil, or_false] at hx
    rcases hx with rfl | rfl | rfl <;> assumption) hb)
  obtain ⟨pb, rfl⟩ := h.ptr
  clear h hb
  go_enter Tryd.func13, Tryd.ntmps13
  go_wp2_with fail
  generalize w.alloc (.cells #[.int .i64 i, .int .i64 c, .int .i64 g] 3) = w1 at *
  (with_reducible refine HM.out.mono ?_); rintro e w2 ⟨r2, rfl, a2, hr2, k2⟩
  go_wp2
  go_ret2
  exact ⟨r2, rfl, a2, hr2, (k1.keep S).trans k2⟩
set_option maxHeartbeats 4000000 in
set_option maxRecDepth 100000 in
theorem RInterim_ok {w0 : World} {S : Nat → Prop} {w : World} {p : Value} {ds : List Nd} {c t : Int} {C T : Tr} (h : AtR w0 S w p ds) (hc : Den C ds c) (ht : Den T ds t) (hl : ds.length + 2 < 100000) :
    Calls Tryd.prog 18 #[p, .int .i64 c, .int .i64 t] w (RMk w0 S w p ds 2 (Den (intT C T))) := by
  have k1 : Kept w (w.alloc (.cells #[.int .i64 c, .int .i64 t] 3)) := (Kept.refl w).alloc _
  have HM := Lib.hid (hashedR_ok (h.step k1) (RdI.sl2 w c t) (by simp) (DenL.cons hc (DenL.cons ht (DenL.nil _))) (by omega))
  obtain ⟨pb, rfl⟩ := h.ptr
  clear h hc ht
  go_enter Tryd.func18, Tryd.ntmps18
  go_wp2_with fail
  generalize w.alloc (.cells #[.int .i64 c, .int .i64 t] 3) = w1 at *
  (with_reducible refine HM.out.mono ?_); rintro e w2 ⟨r2, t2, rfl, a2, hr2, d2, k2⟩
  go_wp2
  go_ret2
  exact ⟨r2, t2, rfl, a2, by omega, d2, (k1.keep S).trans k2⟩
set_option maxHeartbeats 4000000 in
set_option maxRecDepth 100000 in
theorem RInterim_no {w0 : World} {S : Nat → Prop} {w : World} {p : Value} {ds : List Nd} {c t : Int} (h : AtR w0 S w p ds) (ic : I64 c) (it : I64 t) (hb : termsB ds [c, t] = false) :
    Calls Tryd.prog 18 #[p, .int .i64 c, .int .i64 t] w (RNo w0 S w p ds 0) := by
  have k1 : Kept w (w.alloc (.cells #[.int .i64 c, .int .i64 t] 3)) := (Kept.refl w).alloc _
  have HM := Lib.hid (hashedR_no (h.step k1) (RdI.sl2 w c t) (fun x hx => by
    simp only [List.mem_cons, List.not_mem_nil, or_false] at hx
    rcases hx with rfl | rfl <;> assumption) hb)
  obtain ⟨pb, rfl⟩ := h.ptr
  clear h hb
  go_enter Tryd.func18, Tryd.ntmps18
  go_wp2_with fail
  generalize w.alloc (.cells #[.int .i64 c, .int .i64 t] 3) = w1 at *
  (with_reducible refine HM.out.mono ?_); rintro e w2 ⟨r2, rfl, a2, hr2, k2⟩
  go_wp2
  go_ret2
  exact ⟨r2, rfl, a2, hr2, (k1.keep S).trans k2⟩
set_option maxHeartbeats 4000000 in
set_option maxRecDepth 100000 in
theorem RTag_ok {w0 : World} {S : Nat → Prop} {w : World} {p : Value} {ds : List Nd} {k c : Int} {K C : Tr} (h : AtR w0 S w p ds) (hk : Den K ds k) (hc : Den C ds c) (hl : ds.length + 2 < 100000) :
    Calls Tryd.prog 16 #[p, .int .i64 k, .int .i64 c] w (RMk w0 S w p ds 2 (Den (macT K C))) := by
  have k1 : Kept w (w.alloc (.cells #[.int .i64 k, .int .i64 c] 3)) := (Kept.refl w).alloc _
  have HM := Lib.hid (macR_ok (h.step k1) (RdI.sl2 w k c) hk hc (by omega))
  obtain ⟨pb, rfl⟩ := h.ptr
  clear h hk hc
  go_enter Tryd.func16, Tryd.ntmps16
  go_wp2_with fail
  generalize w.alloc (.cells #[.int .i64 k, .int .i64 c] 3) = w1 at *
  (with_reducible refine HM.out.mono ?_); rintro e w2 ⟨r2, t2, rfl, a2, hr2, d2, k2⟩
  go_wp2
  go_ret2
  exact ⟨r2, t2, rfl, a2, by omega, d2, (k1.keep S).trans k2⟩
set_option maxHeartbeats 4000000 in
set_option maxRecDepth 100000 in
theorem RTag_no {w0 : World} {S : Nat → Prop} {w : World} {p : Value} {ds : List Nd} {k c : Int} (h : AtR w0 S w p ds) (ik : I64 k) (ic : I64 c) (hb : termsB ds [k, c] = false) :
    Calls Tryd.prog 16 #[p, .int .i64 k, .int .i64 c] w (RNo w0 S w p ds 0) := by
  have k1 : Kept w (w.alloc (.cells #[.int .i64 k, .int .i64 c] 3)) := (Kept.refl w).alloc _
  have HM := Lib.hid (macR_no (h.step k1) (RdI.sl2 w k c) ik ic hb)
  obtain ⟨pb, rfl⟩ := h.ptr
  clear h hb
  go_enter Tryd.func16, Tryd.ntmps16
  go_wp2_with fail
  generalize w.alloc (.cells #[.int .i64 k, .int .i64 c] 3) = w1 at *
  (with_reducible refine HM.out.mono ?_); rintro e w2 ⟨r2, rfl, a2, hr2, k2⟩
  go_wp2
  go_ret2
  exact ⟨r2, rfl, a2, hr2, (k1.keep S).trans k2⟩
end Go.Proofs.YtdjfdobcjakmhaaDoor
end

section
/- The document's transcript: Context. -/
set_option linter.unusedSimpArgs false
set_option linter.unusedVariables false
namespace Go.Proofs.YtdjfdobcjakmhaaDoor
open Go.RowKit Go.Maps

theorem RdI.sl6 (w : World) (a b c d e f : Int) : RdI (w.alloc (.cells #[.int .i64 a, .int .i64 b, .int .i64 c, .int .i64 d, .int .i64 e, .int .i64 f] 3)) (.slice (some ⟨w.heap.size, 0, none⟩) 6 6) [a, b, c, d, e, f] := RdI.lit w [a, b, c, d, e, f] (by simp)
theorem itoa_dec {n : Int} (h : 0 ≤ n) : Lib.itoa n = Lib.decDigits n.toNat := by
  unfold Lib.itoa
  rw [if_neg (by omega)]
theorem itoaN_len {n : Int} (h : 0 ≤ n) (h2 : n ≤ 9223372036854775807) : (Lib.itoa n).length ≤ 21 := by
  rw [itoa_dec h]
  exact dd_len _ (by omega)
theorem textDR_ok {w0 : World} {S : Nat → Prop} {w : World} {p : Value} {ds : List Nd} (h : AtR w0 S w p ds) (s : List UInt8) (hs : s.length ≤ 200) (hl : ds.length < 100000) :
    Calls Tryd.prog 22 #[p, .string (strB s)] w (RMk w0 S w p ds 1 (Den (textT s))) :=
  (textAR_ok h s hs hl).mono fun e w' ⟨r, t, he, ar, hlen, hi, hk⟩ => ⟨r, t, he, ar, hlen, den_text ar.good hi, hk⟩
set_option maxHeartbeats 4000000 in
set_option maxRecDepth 100000 in
theorem RContext_neg {w : World} {p : Nat} {i n t c z : Int} (hn : n < 0) :
    Calls Tryd.prog 20 #[.pointer (some ⟨p, 0, none⟩), .int .i64 i, .int .i64 n, .int .i64 t, .int .i64 c, .int .i64 z] w fun e w' => e = .returned (.tuple #[.int .i64 0, .int .i64 1]) ∧ w = w' := by
  go_enter Tryd.func20, Tryd.ntmps20
  go_wp2
  go_ret2
  exact ⟨rfl, rfl⟩
set_option maxHeartbeats 8000000 in
set_option maxRecDepth 100000 in
theorem RContext_ok {w0 : World} {S : Nat → Prop} {w : World} {p : Value} {ds : List Nd} {i n t c z : Int} {I T C E : Tr} (h : AtR w0 S w p ds) (hn : 0 ≤ n) (h64 : n ≤ 9223372036854775807) (hi : Den I ds i) (ht : Den T ds t) (hc : Den C ds c) (he : Den E ds z) (hl : ds.length + 3 < 100000) :
    Calls Tryd.prog 20 #[p, .int .i64 i, .int .i64 n, .int .i64 t, .int .i64 c, .int .i64 z] w (RMk w0 S w p ds 3 (Den (ctxT I (textT (Lib.itoa n)) T C E))) := by
  have HG := Lib.hid (textDR_ok h groupS (by decide) (by omega))
  rw [show strB groupS = ⟨#[103, 114, 111, 117, 112]⟩ from rfl] at HG
  have HDg := Lib.hid (fun W => digits_any n.toNat (by omega) W)
  rw [← itoa_dec hn, Int.toNat_of_nonneg hn] at HDg
  have HX := Lib.hid (fun W (r : List Nd) (a : AtR w0 S W p (ds ++ r)) (hr : r.length ≤ 1) => textDR_ok a (Lib.itoa n) (by have := itoaN_len hn h64; omega) (by rw [List.length_append]; omega))
  have HL := Lib.hid (fun W (r s : List Nd) (g x : Int) (a : AtR w0 S W p (ds ++ r ++ s)) (hr : r.length ≤ 1) (hs : s.length ≤ 1) (dg : Den (textT groupS) (ds ++ r ++ s) g) (dx : Den (textT (Lib.itoa n)) (ds ++ r ++ s) x) => listR_ok (a.step ((Kept.refl W).alloc (.cells #[.int .i64 g, .int .i64 i, .int .i64 x, .int .i64 t, .int .i64 c, .int .i64 z] 3))) (RdI.sl6 W g i x t c z) (by simp) (DenL.cons dg (DenL.cons ((hi.more r).more s) (DenL.cons dx (DenL.cons ((ht.more r).more s) (DenL.cons ((hc.more r).more s) (DenL.cons ((he.more r).more s) (DenL.nil _))))))) (by simp only [List.length_append]; omega))
  obtain ⟨pb, rfl⟩ := h.ptr
  have hn' : ¬ n < 0 := by omega
  generalize Lib.itoa n = D at *
  generalize strB D = Y at *
  clear h hi ht hc he h64
  go_enter Tryd.func20, Tryd.ntmps20
  go_wp2_with fail
  (with_reducible refine HG.out.mono ?_); rintro e w2 ⟨r2, t2, rfl, a2, hr2, d2, k2⟩
  have A2 := Lib.hid a2
  have D2 := Shut.mk d2
  have K2 := Lib.hid k2
  clear a2 d2 k2 HG
  go_wp2_with fail
  (with_reducible refine (HDg.out w2).mono ?_); rintro e w3 ⟨rfl, m3, rfl⟩
  have k3 : Kept w2 (w2.drewN m3) := (Kept.refl w2).drewN m3
  have HX2 := Lib.hid (HX.out _ r2 (A2.out.step k3) hr2)
  have K3 := Lib.hid (K2.out.trans (k3.keep S))
  clear HX HDg A2 K2 k3
  generalize w2.drewN m3 = w3 at *
  go_wp2_with fail
  (with_reducible refine HX2.out.mono ?_); rintro e w4 ⟨r4, t4, rfl, a4, hr4, d4, k4⟩
  have HL2 := Lib.hid (HL.out w4 r2 r4 t2 t4 a4 hr2 hr4 (D2.out.more r4) d4)
  have ks : Kept w4 (w4.alloc (.cells #[.int .i64 t2, .int .i64 i, .int .i64 t4, .int .i64 t, .int .i64 c, .int .i64 z] 3)) := (Kept.refl w4).alloc _
  have K4 := Lib.hid ((K3.out.trans k4).trans (ks.keep S))
  clear HL HX2 a4 d4 k4 K3 ks
  go_wp2_with fail
  generalize w4.alloc (.cells #[.int .i64 t2, .int .i64 i, .int .i64 t4, .int .i64 t, .int .i64 c, .int .i64 z] 3) = w5 at *
  (with_reducible refine HL2.out.mono ?_); rintro e w6 ⟨r6, t6, rfl, a6, hr6, d6, k6⟩
  go_wp2
  go_ret2
  refine ⟨r2 ++ r4 ++ r6, t6, rfl, ?_, by simp only [List.length_append]; omega, ?_, K4.out.trans k6⟩
  · simp only [← List.append_assoc]; exact a6
  · simp only [← List.append_assoc]; exact d6
theorem six_no {ds : List Nd} {i t c z g x : Int} (h : termsB ds [i, t, c, z] = false) : termsB ds [g, i, x, t, c, z] = false := by
  rw [Bool.eq_false_iff] at *
  intro k
  apply h
  unfold termsB at *
  simp only [List.all_cons, List.all_nil, Bool.and_true, Bool.and_eq_true] at *
  exact ⟨k.2.1, k.2.2.2⟩
set_option maxHeartbeats 8000000 in
set_option maxRecDepth 100000 in
theorem RContext_no {w0 : World} {S : Nat → Prop} {w : World} {p : Value} {ds : List Nd} {i n t c z : Int} (h : AtR w0 S w p ds) (hn : 0 ≤ n) (h64 : n ≤ 9223372036854775807) (ii : I64 i) (it : I64 t) (ic : I64 c) (ie : I64 z) (hst : ∀ r : List Nd, (ds ++ r).length < 100000 → termsB (ds ++ r) [i, t, c, z] = false) (hl : ds.length + 3 < 100000) :
    Calls Tryd.prog 20 #[p, .int .i64 i, .int .i64 n, .int .i64 t, .int .i64 c, .int .i64 z] w (RNo w0 S w p ds 2) := by
  have HG := Lib.hid (textDR_ok h groupS (by decide) (by omega))
  rw [show strB groupS = ⟨#[103, 114, 111, 117, 112]⟩ from rfl] at HG
  have HDg := Lib.hid (fun W => digits_any n.toNat (by omega) W)
  rw [← itoa_dec hn, Int.toNat_of_nonneg hn] at HDg
  have HX := Lib.hid (fun W (r : List Nd) (a : AtR w0 S W p (ds ++ r)) (hr : r.length ≤ 1) => textDR_ok a (Lib.itoa n) (by have := itoaN_len hn h64; omega) (by rw [List.length_append]; omega))
  have HL := Lib.hid (fun W (r s : List Nd) (g x : Int) (a : AtR w0 S W p (ds ++ r ++ s)) (hr : r.length ≤ 1) (hs : s.length ≤ 1) (dg : Den (textT groupS) (ds ++ r ++ s) g) (dx : Den (textT (Lib.itoa n)) (ds ++ r ++ s) x) => listR_no (a.step ((Kept.refl W).alloc (.cells #[.int .i64 g, .int .i64 i, .int .i64 x, .int .i64 t, .int .i64 c, .int .i64 z] 3))) (RdI.sl6 W g i x t c z) (fun y hy => by
    simp only [List.mem_cons, List.not_mem_nil, or_false] at hy
    rcases hy with rfl | rfl | rfl | rfl | rfl | rfl
    · exact dg.1.i64' a.few
    · exact ii
    · exact dx.1.i64' a.few
    · exact it
    · exact ic
    · exact ie) (six_no (by have := hst (r ++ s) (by simp only [List.length_append]; omega); rw [List.append_assoc]; exact this)))
  obtain ⟨pb, rfl⟩ := h.ptr
  have hn' : ¬ n < 0 := by omega
  generalize Lib.itoa n = D at *
  generalize strB D = Y at *
  clear h h64 hst ii it ic ie
  go_enter Tryd.func20, Tryd.ntmps20
  go_wp2_with fail
  (with_reducible refine HG.out.mono ?_); rintro e w2 ⟨r2, t2, rfl, a2, hr2, d2, k2⟩
  have A2 := Lib.hid a2
  have D2 := Shut.mk d2
  have K2 := Lib.hid k2
  clear a2 d2 k2 HG
  go_wp2_with fail
  (with_reducible refine (HDg.out w2).mono ?_); rintro e w3 ⟨rfl, m3, rfl⟩
  have k3 : Kept w2 (w2.drewN m3) := (Kept.refl w2).drewN m3
  have HX2 := Lib.hid (HX.out _ r2 (A2.out.step k3) hr2)
  have K3 := Lib.hid (K2.out.trans (k3.keep S))
  clear HX HDg A2 K2 k3
  generalize w2.drewN m3 = w3 at *
  go_wp2_with fail
  (with_reducible refine HX2.out.mono ?_); rintro e w4 ⟨r4, t4, rfl, a4, hr4, d4, k4⟩
  have HL2 := Lib.hid (HL.out w4 r2 r4 t2 t4 a4 hr2 hr4 (D2.out.more r4) d4)
  have ks : Kept w4 (w4.alloc (.cells #[.int .i64 t2, .int .i64 i, .int .i64 t4, .int .i64 t, .int .i64 c, .int .i64 z] 3)) := (Kept.refl w4).alloc _
  have K4 := Lib.hid ((K3.out.trans k4).trans (ks.keep S))
  clear HL HX2 a4 d4 k4 K3 ks
  go_wp2_with fail
  generalize w4.alloc (.cells #[.int .i64 t2, .int .i64 i, .int .i64 t4, .int .i64 t, .int .i64 c, .int .i64 z] 3) = w5 at *
  (with_reducible refine HL2.out.mono ?_); rintro e w6 ⟨r6, rfl, a6, hr6, k6⟩
  go_wp2
  go_ret2
  refine ⟨r2 ++ r4 ++ r6, rfl, ?_, by simp only [List.length_append]; omega, K4.out.trans k6⟩
  simp only [← List.append_assoc]; exact a6
end Go.Proofs.YtdjfdobcjakmhaaDoor
end

section
/- The document's transcript: Read. -/
set_option linter.unusedSimpArgs false
set_option linter.unusedVariables false
namespace Go.Proofs.YtdjfdobcjakmhaaDoor
open Go.RowKit Go.Maps

def ndI (ds : List Nd) (t : Int) : Nd := ds.getD t.toNat nd0
/-- t is a context of these five. -/
def CtxIs (ds : List Nd) (t i n tt c z : Int) : Prop :=
  ∃ (g x : Int) (m : Nat), IsT ds t ∧ (ndI ds t).op = 3 ∧ (ndI ds t).l = [g, i, x, tt, c, z] ∧ (ndI ds g).op = 2 ∧ (ndI ds g).s = groupS ∧ (ndI ds x).op = 2 ∧ (ndI ds x).s = Lib.decDigits m ∧ n = (m : Int) ∧ m < 1000000000
def arr5 (i n t c z : Int) : Value := .agg #[.int .i64 i, .int .i64 n, .int .i64 t, .int .i64 c, .int .i64 z]
def ReadQ (ds : List Nd) (t : Int) (v : Value) (e : Int) : Prop :=
  (∃ i n tt c z, CtxIs ds t i n tt c z ∧ v = arr5 i n tt c z ∧ e = 0) ∨ ((∀ i n tt c z, ¬ CtxIs ds t i n tt c z) ∧ v = arr5 0 0 0 0 0 ∧ e = 1)
def ReadPost (w : World) (ds : List Nd) (t : Int) (e : Ending) (w' : World) : Prop := ∃ (v : Value) (er : Int), e = .returned (.tuple #[v, .int .i64 er]) ∧ ReadQ ds t v er ∧ Kept w w'
theorem CtxIs.one {ds : List Nd} {t i n tt c z i' n' tt' c' z' : Int} (h : CtxIs ds t i n tt c z) (k : CtxIs ds t i' n' tt' c' z') : i = i' ∧ n = n' ∧ tt = tt' ∧ c = c' ∧ z = z' := by
  obtain ⟨g, x, m, _, _, l, _, _, _, s, rfl, _⟩ := h
  obtain ⟨g', x', m', _, _, l', _, _, _, s', rfl, _⟩ := k
  rw [l] at l'
  simp only [List.cons.injEq, and_true] at l'
  obtain ⟨rfl, rfl, rfl, rfl, rfl, rfl⟩ := l'
  rw [s] at s'
  obtain rfl := dd_inj s'
  exact ⟨rfl, rfl, rfl, rfl, rfl⟩
theorem ReadQ.one {ds : List Nd} {t : Int} {v v' : Value} {e e' : Int} (h : ReadQ ds t v e) (k : ReadQ ds t v' e') : v = v' ∧ e = e' := by
  rcases h with ⟨i, n, tt, c, z, h, rfl, rfl⟩ | ⟨h, rfl, rfl⟩ <;> rcases k with ⟨i', n', tt', c', z', k, rfl, rfl⟩ | ⟨k, rfl, rfl⟩
  · obtain ⟨rfl, rfl, rfl, rfl, rfl⟩ := h.one k
    exact ⟨rfl, rfl⟩
  · exact absurd h (k _ _ _ _ _)
  · exact absurd k (h _ _ _ _ _)
  · exact ⟨rfl, rfl⟩
theorem dd_len_lt : ∀ (k m : Nat), m < 10 ^ (k + 1) → (Lib.decDigits m).length ≤ k + 1 := by
  intro k
  induction k with
  | zero => intro m h; rw [Lib.decDigits_one (by omega)]; simp
  | succ k ih =>
    intro m h
    by_cases hm : m < 10
    · rw [Lib.decDigits_one hm]; simp
    · rw [dd_step hm, List.length_append]
      have := ih (m / 10) (by rw [Nat.pow_succ] at h; omega)
      simp only [List.length_singleton]
      omega
theorem decVal_lt_go : ∀ (l : List UInt8) (a : Nat), (∀ y ∈ l, isDig y = true) → l.foldl (fun a c => a * 10 + (c.toNat - 48)) a < (a + 1) * 10 ^ l.length := by
  intro l
  induction l with
  | nil => intro a _; simp
  | cons c l ih =>
    intro a h
    rw [List.foldl_cons]
    have h1 := ih (a * 10 + (c.toNat - 48)) (fun y hy => h y (List.mem_cons_of_mem _ hy))
    have hc := h c (List.mem_cons_self)
    unfold isDig at hc
    rw [Bool.and_eq_true] at hc
    have c2 := of_decide_eq_true hc.2
    refine Nat.lt_of_lt_of_le h1 ?_
    rw [List.length_cons, Nat.pow_succ, Nat.mul_comm (10 ^ l.length) 10, ← Nat.mul_assoc]
    exact Nat.mul_le_mul_right _ (by omega)
theorem decVal_lt9 {l : List UInt8} (h : ∀ y ∈ l, isDig y = true) (hl : l.length ≤ 9) : decVal l < 1000000000 := by
  have h1 := decVal_lt_go l 0 h
  have h2 : (10 : Nat) ^ l.length ≤ 10 ^ 9 := Nat.pow_le_pow_right (by decide) hl
  unfold decVal
  have : (10 : Nat) ^ 9 = 1000000000 := by decide
  omega
theorem decVal_snoc {l : List UInt8} {j : Nat} (hj : j < l.length) : decVal (l.take (j + 1)) = decVal (l.take j) * 10 + ((l[j]).toNat - 48) := by
  rw [List.take_succ_eq_append_getElem hj]
  unfold decVal
  rw [List.foldl_append]
  rfl
theorem keep5 {w W : World} {b : Nat} (h : Kept w W) (hb : w.heap.size ≤ b) (v0 v1 v2 v3 v4 : Value) : Kept w (((((W.setCell ⟨b, 0, none⟩ v0).setCell ⟨b, 1, none⟩ v1).setCell ⟨b, 2, none⟩ v2).setCell ⟨b, 3, none⟩ v3).setCell ⟨b, 4, none⟩ v4) :=
  ((((h.setCell (ad := ⟨b, 0, none⟩) hb v0).setCell (ad := ⟨b, 1, none⟩) hb v1).setCell (ad := ⟨b, 2, none⟩) hb v2).setCell (ad := ⟨b, 3, none⟩) hb v3).setCell (ad := ⟨b, 4, none⟩) hb v4
theorem readQ_no {ds : List Nd} {t : Int} (hn : ∀ g i x tt c z m, (ndI ds t).op = 3 → (ndI ds t).l = [g, i, x, tt, c, z] → (ndI ds g).op = 2 → (ndI ds g).s = groupS → (ndI ds x).op = 2 → (ndI ds x).s = Lib.decDigits m → m < 1000000000 → False) : ReadQ ds t (arr5 0 0 0 0 0) 1 :=
  .inr ⟨fun i n tt c z hc => by
    obtain ⟨g, x, m, _, h1, h2, h3, h4, h5, h6, _, h7⟩ := hc
    exact hn g i x tt c z m h1 h2 h3 h4 h5 h6 h7, rfl, rfl⟩
set_option maxHeartbeats 8000000 in
set_option maxRecDepth 100000 in
theorem RRead_out {F : Nat → Prop} {w : World} {p : Value} {ds : List Nd} {t : Int} (h : ArR F w p ds) (ht : ¬ IsT ds t) :
    Calls Tryd.prog 28 #[p, .int .i64 t] w (ReadPost w ds t) := by
  have HN := Lib.hid (fun W (k : Kept w W) => nodeR_any (ArG.kept h k) t)
  have hE : ndE ds t = 4 := by unfold ndE; rw [if_neg (show ¬ (0 ≤ t ∧ t < (ds.length : Int)) from ht)]
  have hD : ndAt ds t = nd0 := by unfold ndAt; rw [if_neg (show ¬ (0 ≤ t ∧ t < (ds.length : Int)) from ht)]
  rw [hE, hD] at HN
  obtain ⟨pb, mb, nv, rfl, _, _, _⟩ := ArG.nodes h
  have HQ := Shut.mk (show ReadQ ds t (arr5 0 0 0 0 0) 1 from .inr ⟨fun i n tt c z hc => by obtain ⟨_, _, _, hh, _⟩ := hc; exact ht hh, rfl, rfl⟩)
  clear h hE hD ht
  have b1 := Blk.new w [.int .i64 0, .int .i64 0, .int .i64 0, .int .i64 0, .int .i64 0] 44
  have k1 := (Kept.refl w).alloc (.cells #[.int .i64 0, .int .i64 0, .int .i64 0, .int .i64 0, .int .i64 0] 44)
  go_enter Tryd.func28, Tryd.ntmps28
  go_wp2_with fail
  (with_reducible refine (HN.out _ k1).mono ?_); rintro e w2 ⟨v, rfl, ⟨lv, rfl, hl⟩, k2⟩
  obtain ⟨la, lc, rfl, _, _, _⟩ := hl.len
  generalize nd0 = d0 at *
  have k3 := k2.alloc (.cells #[.int .i64 d0.op, .int .i64 d0.n, .string (strB d0.s), .slice la d0.l.length lc] 65)
  have b3 := b1.kept k3
  have hK := Shut.mk (k1.trans k3)
  have hS : (w2.alloc (.cells #[.int .i64 d0.op, .int .i64 d0.n, .string (strB d0.s), .slice la d0.l.length lc] 65)).heap.size = w2.heap.size + 1 := World.size_alloc _ _
  clear b1 k1 k2 k3 hl HN
  go_upto_region 2 with fail
  generalize (w2.alloc (.cells #[.int .i64 d0.op, .int .i64 d0.n, .string (strB d0.s), .slice la d0.l.length lc] 65)) = w3 at *
  have c0 := b3.cell 0
  have c1 := b3.cell 1
  have c2 := b3.cell 2
  have c3 := b3.cell 3
  have c4 := b3.cell 4
  have f0 := b3.frozen 0
  have f1 := b3.frozen 1
  have f2 := b3.frozen 2
  have f3 := b3.frozen 3
  have f4 := b3.frozen 4
  have bl := b3.lt
  simp only [List.getElem?_cons_succ, List.getElem?_cons_zero] at c0 c1 c2 c3 c4
  go_quiet (fail)
  go_wp2
  refine bodyPost_ret (v := .tuple #[arr5 0 0 0 0 0, .int .i64 1]) ?_ rfl ?_
  · have hr : Tryd.f28.results = #[.cell 4 44, .tmp 5] := rfl
    simp [results, hr]
    go_simp
    rfl
  · exact ⟨_, _, rfl, HQ.out, keep5 (hK.out.drewN _) (Nat.le_refl _) _ _ _ _ _⟩
set_option maxHeartbeats 8000000 in
set_option maxRecDepth 100000 in
theorem RRead_op {F : Nat → Prop} {w : World} {p : Value} {ds : List Nd} {k : Nat} {op n : Int} {s : List UInt8} {l : List Int} (h : ArR F w p ds) (hk : k < ds.length) (hd : ds.getD k nd0 = ⟨op, n, s, l⟩) (ho : op ≠ 3) :
    Calls Tryd.prog 28 #[p, .int .i64 (k : Int)] w (ReadPost w ds (k : Int)) := by
  have HN := Lib.hid (fun W (kk : Kept w W) => nodeR_any (ArG.kept h kk) (k : Int))
  have hE : ndE ds (k : Int) = 0 := by unfold ndE; rw [if_pos ⟨by omega, by omega⟩]
  have hD : ndAt ds (k : Int) = ⟨op, n, s, l⟩ := by unfold ndAt; rw [if_pos ⟨by omega, by omega⟩, Int.toNat_natCast]; exact hd
  rw [hE, hD] at HN
  have hI : ndI ds (k : Int) = ⟨op, n, s, l⟩ := by unfold ndI; rw [Int.toNat_natCast]; exact hd
  have HQ := Shut.mk (readQ_no (ds := ds) (t := (k : Int)) (fun g i x tt c z m h1 _ _ _ _ _ _ => by rw [hI] at h1; exact ho h1))
  obtain ⟨qb, qm, nv, rfl, q0, _, hn⟩ := ArG.nodes h
  clear q0 hn
  clear h hE hD hI hd hk
  have b1 := Blk.new w [.int .i64 0, .int .i64 0, .int .i64 0, .int .i64 0, .int .i64 0] 44
  have k1 := (Kept.refl w).alloc (.cells #[.int .i64 0, .int .i64 0, .int .i64 0, .int .i64 0, .int .i64 0] 44)
  go_enter Tryd.func28, Tryd.ntmps28
  go_wp2_with fail
  (with_reducible refine (HN.out _ k1).mono ?_); rintro e w2 ⟨v, rfl, ⟨lv, rfl, hl⟩, k2⟩
  have hl : RdI w2 lv l := hl
  obtain ⟨la, lc, e, _, _, _⟩ := hl.len
  have e : lv = .slice la l.length lc := e
  subst e
  have b2 := Blk.new w2 [.int .i64 op, .int .i64 n, .string (strB s), .slice la l.length lc] 65
  have k3 := (Kept.refl w2).alloc (.cells #[.int .i64 op, .int .i64 n, .string (strB s), .slice la l.length lc] 65)
  have b3 := b1.kept (k2.trans k3)
  have hK := Shut.mk (k1.trans (k2.trans k3))
  have hne : w2.heap.size ≠ w.heap.size := by have := (k1.trans k2).size; have := b1.lt; have := k2.size; omega
  have hl3 := hl.kept k3
  clear b1 k1 k2 k3 hl HN
  go_upto_region 2 with fail
  generalize (w2.alloc (.cells #[.int .i64 op, .int .i64 n, .string (strB s), .slice la l.length lc] 65)) = w3 at *
  generalize w2.heap.size = bx at *
  have c0 := b3.cell 0
  have c1 := b3.cell 1
  have c2 := b3.cell 2
  have c3 := b3.cell 3
  have c4 := b3.cell 4
  have f0 := b3.frozen 0
  have f1 := b3.frozen 1
  have f2 := b3.frozen 2
  have f3 := b3.frozen 3
  have f4 := b3.frozen 4
  have bl := b3.lt
  have n0 := b2.cell 0
  have n1 := b2.cell 1
  have n2 := b2.cell 2
  have n3 := b2.cell 3
  have nl := b2.lt
  simp only [List.getElem?_cons_succ, List.getElem?_cons_zero] at c0 c1 c2 c3 c4 n0 n1 n2 n3
  have hb := bne_int ho
  clear ho
  go_quiet (fail)
  go_wp2
  refine bodyPost_ret (v := .tuple #[arr5 0 0 0 0 0, .int .i64 1]) ?_ rfl ?_
  · have hr : Tryd.f28.results = #[.cell 4 44, .tmp 5] := rfl
    simp [results, hr]
    go_simp
    rfl
  · exact ⟨_, _, rfl, HQ.out, keep5 (hK.out.drewN _) (Nat.le_refl _) _ _ _ _ _⟩
set_option maxHeartbeats 8000000 in
set_option maxRecDepth 100000 in
theorem RRead_len {F : Nat → Prop} {w : World} {p : Value} {ds : List Nd} {k : Nat} {n : Int} {s : List UInt8} {l : List Int} (h : ArR F w p ds) (hk : k < ds.length) (hd : ds.getD k nd0 = ⟨3, n, s, l⟩) (h6 : l.length ≠ 6) :
    Calls Tryd.prog 28 #[p, .int .i64 (k : Int)] w (ReadPost w ds (k : Int)) := by
  have HN := Lib.hid (fun W (kk : Kept w W) => nodeR_any (ArG.kept h kk) (k : Int))
  have hE : ndE ds (k : Int) = 0 := by unfold ndE; rw [if_pos ⟨by omega, by omega⟩]
  have hD : ndAt ds (k : Int) = ⟨3, n, s, l⟩ := by unfold ndAt; rw [if_pos ⟨by omega, by omega⟩, Int.toNat_natCast]; exact hd
  rw [hE, hD] at HN
  have hI : ndI ds (k : Int) = ⟨3, n, s, l⟩ := by unfold ndI; rw [Int.toNat_natCast]; exact hd
  have HQ := Shut.mk (readQ_no (ds := ds) (t := (k : Int)) (fun g i x tt c z m _ h1 _ _ _ _ _ => by rw [hI] at h1; simp only at h1; rw [h1] at h6; exact h6 rfl))
  obtain ⟨qb, qm, nv, rfl, q0, _, hn⟩ := ArG.nodes h
  clear q0 hn
  clear h hE hD hI hd hk
  have b1 := Blk.new w [.int .i64 0, .int .i64 0, .int .i64 0, .int .i64 0, .int .i64 0] 44
  have k1 := (Kept.refl w).alloc (.cells #[.int .i64 0, .int .i64 0, .int .i64 0, .int .i64 0, .int .i64 0] 44)
  go_enter Tryd.func28, Tryd.ntmps28
  go_wp2_with fail
  (with_reducible refine (HN.out _ k1).mono ?_); rintro e w2 ⟨v, rfl, ⟨lv, rfl, hl⟩, k2⟩
  have hl : RdI w2 lv l := hl
  obtain ⟨la, lc, e, _, _, _⟩ := hl.len
  have e : lv = .slice la l.length lc := e
  subst e
  have b2 := Blk.new w2 [.int .i64 3, .int .i64 n, .string (strB s), .slice la l.length lc] 65
  have k3 := (Kept.refl w2).alloc (.cells #[.int .i64 3, .int .i64 n, .string (strB s), .slice la l.length lc] 65)
  have b3 := b1.kept (k2.trans k3)
  have hK := Shut.mk (k1.trans (k2.trans k3))
  have hne : w2.heap.size ≠ w.heap.size := by have := (k1.trans k2).size; have := b1.lt; have := k2.size; omega
  have hl3 := hl.kept k3
  clear b1 k1 k2 k3 hl HN
  go_upto_region 2 with fail
  generalize (w2.alloc (.cells #[.int .i64 3, .int .i64 n, .string (strB s), .slice la l.length lc] 65)) = w3 at *
  generalize w2.heap.size = bx at *
  have c0 := b3.cell 0
  have c1 := b3.cell 1
  have c2 := b3.cell 2
  have c3 := b3.cell 3
  have c4 := b3.cell 4
  have f0 := b3.frozen 0
  have f1 := b3.frozen 1
  have f2 := b3.frozen 2
  have f3 := b3.frozen 3
  have f4 := b3.frozen 4
  have bl := b3.lt
  have n0 := b2.cell 0
  have n1 := b2.cell 1
  have n2 := b2.cell 2
  have n3 := b2.cell 3
  have nl := b2.lt
  simp only [List.getElem?_cons_succ, List.getElem?_cons_zero] at c0 c1 c2 c3 c4 n0 n1 n2 n3
  have hb : (((l.length : Nat) : Int) != 6) = true := bne_int (by omega)
  clear h6
  go_quiet (fail)
  go_wp2
  refine bodyPost_ret (v := .tuple #[arr5 0 0 0 0 0, .int .i64 1]) ?_ rfl ?_
  · have hr : Tryd.f28.results = #[.cell 4 44, .tmp 5] := rfl
    simp [results, hr]
    go_simp
    rfl
  · exact ⟨_, _, rfl, HQ.out, keep5 (hK.out.drewN _) (Nat.le_refl _) _ _ _ _ _⟩
end Go.Proofs.YtdjfdobcjakmhaaDoor
end

section
/- The document's transcript: Read, of Lists of six. -/
set_option linter.unusedSimpArgs false
set_option linter.unusedVariables false
namespace Go.Proofs.YtdjfdobcjakmhaaDoor
open Go.RowKit Go.Maps

set_option maxHeartbeats 8000000 in
set_option maxRecDepth 100000 in
theorem RRead_gop {F : Nat → Prop} {w : World} {p : Value} {ds : List Nd} {k : Nat} {gj xj : Nat} {n i tt c z : Int} {s : List UInt8} (h : ArR F w p ds) (hk : k < ds.length) (hd : ds.getD k nd0 = ⟨3, n, s, [(gj : Int), i, (xj : Int), tt, c, z]⟩) (hg : gj < ds.length) (hx : xj < ds.length) (ho : (ds.getD gj nd0).op ≠ 2) :
    Calls Tryd.prog 28 #[p, .int .i64 (k : Int)] w (ReadPost w ds (k : Int)) := by
  have HN := Lib.hid (fun W (kk : Kept w W) => nodeR_any (ArG.kept h kk) (k : Int))
  have hE : ndE ds (k : Int) = 0 := by unfold ndE; rw [if_pos ⟨by omega, by omega⟩]
  have hD : ndAt ds (k : Int) = ⟨3, n, s, [(gj : Int), i, (xj : Int), tt, c, z]⟩ := by unfold ndAt; rw [if_pos ⟨by omega, by omega⟩, Int.toNat_natCast]; exact hd
  rw [hE, hD] at HN
  have hI : ndI ds (k : Int) = ⟨3, n, s, [(gj : Int), i, (xj : Int), tt, c, z]⟩ := by unfold ndI; rw [Int.toNat_natCast]; exact hd
  have hIg : ndI ds (gj : Int) = ds.getD gj nd0 := by unfold ndI; rw [Int.toNat_natCast]
  have hIx : ndI ds (xj : Int) = ds.getD xj nd0 := by unfold ndI; rw [Int.toNat_natCast]
  have HQ := Shut.mk (readQ_no (ds := ds) (t := (k : Int)) (fun g i x tt c z m _ h1 h2 h3 h4 h5 h6 => by
    rw [hI] at h1
    simp only [List.cons.injEq, and_true] at h1
    obtain ⟨rfl, rfl, rfl, rfl, rfl, rfl⟩ := h1
    rw [hIg] at h2 h3
    rw [hIx] at h4 h5
    exact ho h2))
  clear hIg hIx
  obtain ⟨qb, qm, nv, rfl, q0, _, hn⟩ := ArG.nodes h
  obtain ⟨nb, noff, ncap, _, _, rfl, hcg, _⟩ := hn.at hg
  obtain ⟨nb', noff', ncap', _, _, hv, hcx, _⟩ := hn.at hx
  simp only [Value.slice.injEq, Option.some.injEq, Addr.mk.injEq, and_true, true_and] at hv
  obtain ⟨⟨rfl, rfl⟩, rfl⟩ := hv
  have lg1 : ((gj : Nat) : Int) < ((ds.length : Nat) : Int) := by omega
  have lg0 : (0 : Int) ≤ ((gj : Nat) : Int) := by omega
  have lx1 : ((xj : Nat) : Int) < ((ds.length : Nat) : Int) := by omega
  have lx0 : (0 : Int) ≤ ((xj : Nat) : Int) := by omega
  have lgx := Shut.mk (And.intro hg hx)
  clear h hE hD hI hd hk
  have b1 := Blk.new w [.int .i64 0, .int .i64 0, .int .i64 0, .int .i64 0, .int .i64 0] 44
  have k1 := (Kept.refl w).alloc (.cells #[.int .i64 0, .int .i64 0, .int .i64 0, .int .i64 0, .int .i64 0] 44)
  go_enter Tryd.func28, Tryd.ntmps28
  go_wp2_with fail
  (with_reducible refine (HN.out _ k1).mono ?_); rintro e w2 ⟨v, rfl, ⟨lv, rfl, hl⟩, k2⟩
  have hl : RdI w2 lv [(gj : Int), i, (xj : Int), tt, c, z] := hl
  obtain ⟨la, lc, e, _, _, _⟩ := hl.len
  have e : lv = .slice la 6 lc := e
  subst e
  have b2 := Blk.new w2 [.int .i64 3, .int .i64 n, .string (strB s), .slice la 6 lc] 65
  have k3 := (Kept.refl w2).alloc (.cells #[.int .i64 3, .int .i64 n, .string (strB s), .slice la 6 lc] 65)
  have b3 := b1.kept (k2.trans k3)
  have hK := Shut.mk (k1.trans (k2.trans k3))
  have hne : w2.heap.size ≠ w.heap.size := by have := (k1.trans k2).size; have := b1.lt; have := k2.size; omega
  have hl3 := hl.kept k3
  clear b1 k1 k2 k3 hl HN
  go_upto_region 2 with fail
  generalize (w2.alloc (.cells #[.int .i64 3, .int .i64 n, .string (strB s), .slice la 6 lc] 65)) = w3 at *
  generalize w2.heap.size = bx at *
  have c0 := b3.cell 0
  have c1 := b3.cell 1
  have c2 := b3.cell 2
  have c3 := b3.cell 3
  have c4 := b3.cell 4
  have f0 := b3.frozen 0
  have f1 := b3.frozen 1
  have f2 := b3.frozen 2
  have f3 := b3.frozen 3
  have f4 := b3.frozen 4
  have bl := b3.lt
  have n0 := b2.cell 0
  have n1 := b2.cell 1
  have n2 := b2.cell 2
  have n3 := b2.cell 3
  have nl := b2.lt
  simp only [List.getElem?_cons_succ, List.getElem?_cons_zero] at c0 c1 c2 c3 c4 n0 n1 n2 n3
  have q3 := (hK.out.cell (p := ⟨qb, 0, none⟩) (World.block_lt_of_cell? _ _ q0)).trans q0
  obtain ⟨g0, _, g2, _⟩ := hcg _ hK.out
  obtain ⟨x0, _, x2, _⟩ := hcx _ hK.out
  obtain ⟨rb, ro, rc, hv, _, _, rl, hcell⟩ := hl3.addr (by simp)
  simp only [Value.slice.injEq] at hv
  obtain ⟨rfl, _, rfl⟩ := hv
  have r0 := hcell 0 (by simp)
  have r1 := hcell 1 (by simp)
  have r2 := hcell 2 (by simp)
  have r3 := hcell 3 (by simp)
  have r4 := hcell 4 (by simp)
  have r5 := hcell 5 (by simp)
  simp only [List.getD_cons_succ, List.getD_cons_zero, Nat.add_zero] at r0 r1 r2 r3 r4 r5
  clear hcell hcg hcx hl3 q0 hn hg hx
  have hb := bne_int ho
  clear ho
  generalize (ds.getD gj nd0).op = og at *
  go_quiet (fail)
  go_wp2
  refine bodyPost_ret (v := .tuple #[arr5 0 0 0 0 0, .int .i64 1]) ?_ rfl ?_
  · have hr : Tryd.f28.results = #[.cell 4 44, .tmp 5] := rfl
    simp [results, hr]
    go_simp
    rfl
  · exact ⟨_, _, rfl, HQ.out, keep5 (hK.out.drewN _) (Nat.le_refl _) _ _ _ _ _⟩
set_option maxHeartbeats 8000000 in
set_option maxRecDepth 100000 in
theorem RRead_gs {F : Nat → Prop} {w : World} {p : Value} {ds : List Nd} {k : Nat} {gj xj : Nat} {n i tt c z : Int} {s : List UInt8} (h : ArR F w p ds) (hk : k < ds.length) (hd : ds.getD k nd0 = ⟨3, n, s, [(gj : Int), i, (xj : Int), tt, c, z]⟩) (hg : gj < ds.length) (hx : xj < ds.length) (ho : (ds.getD gj nd0).op = 2) (hs : (ds.getD gj nd0).s ≠ groupS) :
    Calls Tryd.prog 28 #[p, .int .i64 (k : Int)] w (ReadPost w ds (k : Int)) := by
  have HN := Lib.hid (fun W (kk : Kept w W) => nodeR_any (ArG.kept h kk) (k : Int))
  have hE : ndE ds (k : Int) = 0 := by unfold ndE; rw [if_pos ⟨by omega, by omega⟩]
  have hD : ndAt ds (k : Int) = ⟨3, n, s, [(gj : Int), i, (xj : Int), tt, c, z]⟩ := by unfold ndAt; rw [if_pos ⟨by omega, by omega⟩, Int.toNat_natCast]; exact hd
  rw [hE, hD] at HN
  have hI : ndI ds (k : Int) = ⟨3, n, s, [(gj : Int), i, (xj : Int), tt, c, z]⟩ := by unfold ndI; rw [Int.toNat_natCast]; exact hd
  have hIg : ndI ds (gj : Int) = ds.getD gj nd0 := by unfold ndI; rw [Int.toNat_natCast]
  have hIx : ndI ds (xj : Int) = ds.getD xj nd0 := by unfold ndI; rw [Int.toNat_natCast]
  have HQ := Shut.mk (readQ_no (ds := ds) (t := (k : Int)) (fun g i x tt c z m _ h1 h2 h3 h4 h5 h6 => by
    rw [hI] at h1
    simp only [List.cons.injEq, and_true] at h1
    obtain ⟨rfl, rfl, rfl, rfl, rfl, rfl⟩ := h1
    rw [hIg] at h2 h3
    rw [hIx] at h4 h5
    exact hs h3))
  clear hIg hIx
  obtain ⟨qb, qm, nv, rfl, q0, _, hn⟩ := ArG.nodes h
  obtain ⟨nb, noff, ncap, _, _, rfl, hcg, _⟩ := hn.at hg
  obtain ⟨nb', noff', ncap', _, _, hv, hcx, _⟩ := hn.at hx
  simp only [Value.slice.injEq, Option.some.injEq, Addr.mk.injEq, and_true, true_and] at hv
  obtain ⟨⟨rfl, rfl⟩, rfl⟩ := hv
  have lg1 : ((gj : Nat) : Int) < ((ds.length : Nat) : Int) := by omega
  have lg0 : (0 : Int) ≤ ((gj : Nat) : Int) := by omega
  have lx1 : ((xj : Nat) : Int) < ((ds.length : Nat) : Int) := by omega
  have lx0 : (0 : Int) ≤ ((xj : Nat) : Int) := by omega
  have lgx := Shut.mk (And.intro hg hx)
  clear h hE hD hI hd hk
  have b1 := Blk.new w [.int .i64 0, .int .i64 0, .int .i64 0, .int .i64 0, .int .i64 0] 44
  have k1 := (Kept.refl w).alloc (.cells #[.int .i64 0, .int .i64 0, .int .i64 0, .int .i64 0, .int .i64 0] 44)
  go_enter Tryd.func28, Tryd.ntmps28
  go_wp2_with fail
  (with_reducible refine (HN.out _ k1).mono ?_); rintro e w2 ⟨v, rfl, ⟨lv, rfl, hl⟩, k2⟩
  have hl : RdI w2 lv [(gj : Int), i, (xj : Int), tt, c, z] := hl
  obtain ⟨la, lc, e, _, _, _⟩ := hl.len
  have e : lv = .slice la 6 lc := e
  subst e
  have b2 := Blk.new w2 [.int .i64 3, .int .i64 n, .string (strB s), .slice la 6 lc] 65
  have k3 := (Kept.refl w2).alloc (.cells #[.int .i64 3, .int .i64 n, .string (strB s), .slice la 6 lc] 65)
  have b3 := b1.kept (k2.trans k3)
  have hK := Shut.mk (k1.trans (k2.trans k3))
  have hne : w2.heap.size ≠ w.heap.size := by have := (k1.trans k2).size; have := b1.lt; have := k2.size; omega
  have hl3 := hl.kept k3
  clear b1 k1 k2 k3 hl HN
  go_upto_region 2 with fail
  generalize (w2.alloc (.cells #[.int .i64 3, .int .i64 n, .string (strB s), .slice la 6 lc] 65)) = w3 at *
  generalize w2.heap.size = bx at *
  have c0 := b3.cell 0
  have c1 := b3.cell 1
  have c2 := b3.cell 2
  have c3 := b3.cell 3
  have c4 := b3.cell 4
  have f0 := b3.frozen 0
  have f1 := b3.frozen 1
  have f2 := b3.frozen 2
  have f3 := b3.frozen 3
  have f4 := b3.frozen 4
  have bl := b3.lt
  have n0 := b2.cell 0
  have n1 := b2.cell 1
  have n2 := b2.cell 2
  have n3 := b2.cell 3
  have nl := b2.lt
  simp only [List.getElem?_cons_succ, List.getElem?_cons_zero] at c0 c1 c2 c3 c4 n0 n1 n2 n3
  have q3 := (hK.out.cell (p := ⟨qb, 0, none⟩) (World.block_lt_of_cell? _ _ q0)).trans q0
  obtain ⟨g0, _, g2, _⟩ := hcg _ hK.out
  obtain ⟨x0, _, x2, _⟩ := hcx _ hK.out
  obtain ⟨rb, ro, rc, hv, _, _, rl, hcell⟩ := hl3.addr (by simp)
  simp only [Value.slice.injEq] at hv
  obtain ⟨rfl, _, rfl⟩ := hv
  have r0 := hcell 0 (by simp)
  have r1 := hcell 1 (by simp)
  have r2 := hcell 2 (by simp)
  have r3 := hcell 3 (by simp)
  have r4 := hcell 4 (by simp)
  have r5 := hcell 5 (by simp)
  simp only [List.getD_cons_succ, List.getD_cons_zero, Nat.add_zero] at r0 r1 r2 r3 r4 r5
  clear hcell hcg hcx hl3 q0 hn hg hx
  rw [ho] at g0
  have hb : ((strB (ds.getD gj nd0).s).toList == [103, 114, 111, 117, 112]) = false := by rw [strB_list]; exact beq_eq_false_iff_ne.2 hs
  clear ho hs
  generalize strB (ds.getD gj nd0).s = GS at *
  go_quiet (fail)
  go_wp2
  refine bodyPost_ret (v := .tuple #[arr5 0 0 0 0 0, .int .i64 1]) ?_ rfl ?_
  · have hr : Tryd.f28.results = #[.cell 4 44, .tmp 5] := rfl
    simp [results, hr]
    go_simp
    rfl
  · exact ⟨_, _, rfl, HQ.out, keep5 (hK.out.drewN _) (Nat.le_refl _) _ _ _ _ _⟩
set_option maxHeartbeats 8000000 in
set_option maxRecDepth 100000 in
theorem RRead_xop {F : Nat → Prop} {w : World} {p : Value} {ds : List Nd} {k : Nat} {gj xj : Nat} {n i tt c z : Int} {s : List UInt8} (h : ArR F w p ds) (hk : k < ds.length) (hd : ds.getD k nd0 = ⟨3, n, s, [(gj : Int), i, (xj : Int), tt, c, z]⟩) (hg : gj < ds.length) (hx : xj < ds.length) (ho : (ds.getD gj nd0).op = 2) (hs : (ds.getD gj nd0).s = groupS) (hq : (ds.getD xj nd0).op ≠ 2) :
    Calls Tryd.prog 28 #[p, .int .i64 (k : Int)] w (ReadPost w ds (k : Int)) := by
  have HN := Lib.hid (fun W (kk : Kept w W) => nodeR_any (ArG.kept h kk) (k : Int))
  have hE : ndE ds (k : Int) = 0 := by unfold ndE; rw [if_pos ⟨by omega, by omega⟩]
  have hD : ndAt ds (k : Int) = ⟨3, n, s, [(gj : Int), i, (xj : Int), tt, c, z]⟩ := by unfold ndAt; rw [if_pos ⟨by omega, by omega⟩, Int.toNat_natCast]; exact hd
  rw [hE, hD] at HN
  have hI : ndI ds (k : Int) = ⟨3, n, s, [(gj : Int), i, (xj : Int), tt, c, z]⟩ := by unfold ndI; rw [Int.toNat_natCast]; exact hd
  have hIg : ndI ds (gj : Int) = ds.getD gj nd0 := by unfold ndI; rw [Int.toNat_natCast]
  have hIx : ndI ds (xj : Int) = ds.getD xj nd0 := by unfold ndI; rw [Int.toNat_natCast]
  have HQ := Shut.mk (readQ_no (ds := ds) (t := (k : Int)) (fun g i x tt c z m _ h1 h2 h3 h4 h5 h6 => by
    rw [hI] at h1
    simp only [List.cons.injEq, and_true] at h1
    obtain ⟨rfl, rfl, rfl, rfl, rfl, rfl⟩ := h1
    rw [hIg] at h2 h3
    rw [hIx] at h4 h5
    exact hq h4))
  clear hIg hIx
  obtain ⟨qb, qm, nv, rfl, q0, _, hn⟩ := ArG.nodes h
  obtain ⟨nb, noff, ncap, _, _, rfl, hcg, _⟩ := hn.at hg
  obtain ⟨nb', noff', ncap', _, _, hv, hcx, _⟩ := hn.at hx
  simp only [Value.slice.injEq, Option.some.injEq, Addr.mk.injEq, and_true, true_and] at hv
  obtain ⟨⟨rfl, rfl⟩, rfl⟩ := hv
  have lg1 : ((gj : Nat) : Int) < ((ds.length : Nat) : Int) := by omega
  have lg0 : (0 : Int) ≤ ((gj : Nat) : Int) := by omega
  have lx1 : ((xj : Nat) : Int) < ((ds.length : Nat) : Int) := by omega
  have lx0 : (0 : Int) ≤ ((xj : Nat) : Int) := by omega
  have lgx := Shut.mk (And.intro hg hx)
  clear h hE hD hI hd hk
  have b1 := Blk.new w [.int .i64 0, .int .i64 0, .int .i64 0, .int .i64 0, .int .i64 0] 44
  have k1 := (Kept.refl w).alloc (.cells #[.int .i64 0, .int .i64 0, .int .i64 0, .int .i64 0, .int .i64 0] 44)
  go_enter Tryd.func28, Tryd.ntmps28
  go_wp2_with fail
  (with_reducible refine (HN.out _ k1).mono ?_); rintro e w2 ⟨v, rfl, ⟨lv, rfl, hl⟩, k2⟩
  have hl : RdI w2 lv [(gj : Int), i, (xj : Int), tt, c, z] := hl
  obtain ⟨la, lc, e, _, _, _⟩ := hl.len
  have e : lv = .slice la 6 lc := e
  subst e
  have b2 := Blk.new w2 [.int .i64 3, .int .i64 n, .string (strB s), .slice la 6 lc] 65
  have k3 := (Kept.refl w2).alloc (.cells #[.int .i64 3, .int .i64 n, .string (strB s), .slice la 6 lc] 65)
  have b3 := b1.kept (k2.trans k3)
  have hK := Shut.mk (k1.trans (k2.trans k3))
  have hne : w2.heap.size ≠ w.heap.size := by have := (k1.trans k2).size; have := b1.lt; have := k2.size; omega
  have hl3 := hl.kept k3
  clear b1 k1 k2 k3 hl HN
  go_upto_region 2 with fail
  generalize (w2.alloc (.cells #[.int .i64 3, .int .i64 n, .string (strB s), .slice la 6 lc] 65)) = w3 at *
  generalize w2.heap.size = bx at *
  have c0 := b3.cell 0
  have c1 := b3.cell 1
  have c2 := b3.cell 2
  have c3 := b3.cell 3
  have c4 := b3.cell 4
  have f0 := b3.frozen 0
  have f1 := b3.frozen 1
  have f2 := b3.frozen 2
  have f3 := b3.frozen 3
  have f4 := b3.frozen 4
  have bl := b3.lt
  have n0 := b2.cell 0
  have n1 := b2.cell 1
  have n2 := b2.cell 2
  have n3 := b2.cell 3
  have nl := b2.lt
  simp only [List.getElem?_cons_succ, List.getElem?_cons_zero] at c0 c1 c2 c3 c4 n0 n1 n2 n3
  have q3 := (hK.out.cell (p := ⟨qb, 0, none⟩) (World.block_lt_of_cell? _ _ q0)).trans q0
  obtain ⟨g0, _, g2, _⟩ := hcg _ hK.out
  obtain ⟨x0, _, x2, _⟩ := hcx _ hK.out
  obtain ⟨rb, ro, rc, hv, _, _, rl, hcell⟩ := hl3.addr (by simp)
  simp only [Value.slice.injEq] at hv
  obtain ⟨rfl, _, rfl⟩ := hv
  have r0 := hcell 0 (by simp)
  have r1 := hcell 1 (by simp)
  have r2 := hcell 2 (by simp)
  have r3 := hcell 3 (by simp)
  have r4 := hcell 4 (by simp)
  have r5 := hcell 5 (by simp)
  simp only [List.getD_cons_succ, List.getD_cons_zero, Nat.add_zero] at r0 r1 r2 r3 r4 r5
  clear hcell hcg hcx hl3 q0 hn hg hx
  rw [ho] at g0
  rw [hs, show strB groupS = ⟨#[103, 114, 111, 117, 112]⟩ from rfl] at g2
  have hb := bne_int hq
  clear ho hs hq
  generalize (ds.getD xj nd0).op = ox at *
  go_quiet (fail)
  go_wp2
  refine bodyPost_ret (v := .tuple #[arr5 0 0 0 0 0, .int .i64 1]) ?_ rfl ?_
  · have hr : Tryd.f28.results = #[.cell 4 44, .tmp 5] := rfl
    simp [results, hr]
    go_simp
    rfl
  · exact ⟨_, _, rfl, HQ.out, keep5 (hK.out.drewN _) (Nat.le_refl _) _ _ _ _ _⟩
end Go.Proofs.YtdjfdobcjakmhaaDoor
end

section
/- The document's transcript: Read of what is a context, but for the number. -/
set_option linter.unusedSimpArgs false
set_option linter.unusedVariables false
namespace Go.Proofs.YtdjfdobcjakmhaaDoor
open Go.RowKit Go.Maps

set_option maxHeartbeats 8000000 in
set_option maxRecDepth 100000 in
theorem RRead_all {F : Nat → Prop} {w : World} {p : Value} {ds : List Nd} {k : Nat} {gj xj : Nat} {n i tt c z : Int} {s : List UInt8} (h : ArR F w p ds) (hk : k < ds.length) (hd : ds.getD k nd0 = ⟨3, n, s, [(gj : Int), i, (xj : Int), tt, c, z]⟩) (hg : gj < ds.length) (hx : xj < ds.length) (ho : (ds.getD gj nd0).op = 2) (hs : (ds.getD gj nd0).s = groupS) (hq : (ds.getD xj nd0).op = 2) {sx : List UInt8} (hsx : (ds.getD xj nd0).s = sx) :
    Calls Tryd.prog 28 #[p, .int .i64 (k : Int)] w (ReadPost w ds (k : Int)) := by
  have HN := Lib.hid (fun W (kk : Kept w W) => nodeR_any (ArG.kept h kk) (k : Int))
  have hE : ndE ds (k : Int) = 0 := by unfold ndE; rw [if_pos ⟨by omega, by omega⟩]
  have hD : ndAt ds (k : Int) = ⟨3, n, s, [(gj : Int), i, (xj : Int), tt, c, z]⟩ := by unfold ndAt; rw [if_pos ⟨by omega, by omega⟩, Int.toNat_natCast]; exact hd
  rw [hE, hD] at HN
  have hI : ndI ds (k : Int) = ⟨3, n, s, [(gj : Int), i, (xj : Int), tt, c, z]⟩ := by unfold ndI; rw [Int.toNat_natCast]; exact hd
  have hIg : ndI ds (gj : Int) = ds.getD gj nd0 := by unfold ndI; rw [Int.toNat_natCast]
  have hIx : ndI ds (xj : Int) = ds.getD xj nd0 := by unfold ndI; rw [Int.toNat_natCast]
  have HZ := Shut.mk (show (∀ m, sx = Lib.decDigits m → m < 1000000000 → False) → ReadQ ds (k : Int) (arr5 0 0 0 0 0) 1 from fun hno => readQ_no (fun g i x tt c z m _ h1 h2 h3 h4 h5 h6 => by
    rw [hI] at h1
    simp only [List.cons.injEq, and_true] at h1
    obtain ⟨rfl, rfl, rfl, rfl, rfl, rfl⟩ := h1
    rw [hIx, hsx] at h5
    exact hno m h5 h6))
  have HY := Shut.mk (show ∀ m, sx = Lib.decDigits m → m < 1000000000 → ReadQ ds (k : Int) (arr5 i (m : Int) tt c z) 0 from fun m h5 h6 => .inl ⟨i, (m : Int), tt, c, z, ⟨(gj : Int), (xj : Int), m, ⟨by omega, by omega⟩, by rw [hI], by rw [hI], by rw [hIg]; exact ho, by rw [hIg]; exact hs, by rw [hIx]; exact hq, by rw [hIx, hsx]; exact h5, rfl, h6⟩, rfl, rfl⟩)
  clear hIg hIx
  obtain ⟨qb, qm, nv, rfl, q0, _, hn⟩ := ArG.nodes h
  obtain ⟨nb, noff, ncap, _, _, rfl, hcg, _⟩ := hn.at hg
  obtain ⟨nb', noff', ncap', _, _, hv, hcx, _⟩ := hn.at hx
  simp only [Value.slice.injEq, Option.some.injEq, Addr.mk.injEq, and_true, true_and] at hv
  obtain ⟨⟨rfl, rfl⟩, rfl⟩ := hv
  have lg1 : ((gj : Nat) : Int) < ((ds.length : Nat) : Int) := by omega
  have lg0 : (0 : Int) ≤ ((gj : Nat) : Int) := by omega
  have lx1 : ((xj : Nat) : Int) < ((ds.length : Nat) : Int) := by omega
  have lx0 : (0 : Int) ≤ ((xj : Nat) : Int) := by omega
  have lgx := Shut.mk (And.intro hg hx)
  clear h hE hD hI hd hk
  have b1 := Blk.new w [.int .i64 0, .int .i64 0, .int .i64 0, .int .i64 0, .int .i64 0] 44
  have k1 := (Kept.refl w).alloc (.cells #[.int .i64 0, .int .i64 0, .int .i64 0, .int .i64 0, .int .i64 0] 44)
  go_enter Tryd.func28, Tryd.ntmps28
  go_wp2_with fail
  (with_reducible refine (HN.out _ k1).mono ?_); rintro e w2 ⟨v, rfl, ⟨lv, rfl, hl⟩, k2⟩
  have hl : RdI w2 lv [(gj : Int), i, (xj : Int), tt, c, z] := hl
  obtain ⟨la, lc, e, _, _, _⟩ := hl.len
  have e : lv = .slice la 6 lc := e
  subst e
  have b2 := Blk.new w2 [.int .i64 3, .int .i64 n, .string (strB s), .slice la 6 lc] 65
  have k3 := (Kept.refl w2).alloc (.cells #[.int .i64 3, .int .i64 n, .string (strB s), .slice la 6 lc] 65)
  have b3 := b1.kept (k2.trans k3)
  have hK := Shut.mk (k1.trans (k2.trans k3))
  have hne : w2.heap.size ≠ w.heap.size := by have := (k1.trans k2).size; have := b1.lt; have := k2.size; omega
  have hl3 := hl.kept k3
  clear b1 k1 k2 k3 hl HN
  go_upto_region 2 with fail
  generalize (w2.alloc (.cells #[.int .i64 3, .int .i64 n, .string (strB s), .slice la 6 lc] 65)) = w3 at *
  generalize w2.heap.size = bx at *
  have c0 := b3.cell 0
  have c1 := b3.cell 1
  have c2 := b3.cell 2
  have c3 := b3.cell 3
  have c4 := b3.cell 4
  have f0 := b3.frozen 0
  have f1 := b3.frozen 1
  have f2 := b3.frozen 2
  have f3 := b3.frozen 3
  have f4 := b3.frozen 4
  have bl := b3.lt
  have n0 := b2.cell 0
  have n1 := b2.cell 1
  have n2 := b2.cell 2
  have n3 := b2.cell 3
  have nl := b2.lt
  simp only [List.getElem?_cons_succ, List.getElem?_cons_zero] at c0 c1 c2 c3 c4 n0 n1 n2 n3
  have q3 := (hK.out.cell (p := ⟨qb, 0, none⟩) (World.block_lt_of_cell? _ _ q0)).trans q0
  obtain ⟨g0, _, g2, _⟩ := hcg _ hK.out
  obtain ⟨x0, _, x2, _⟩ := hcx _ hK.out
  obtain ⟨rb, ro, rc, hv, _, _, rl, hcell⟩ := hl3.addr (by simp)
  simp only [Value.slice.injEq] at hv
  obtain ⟨rfl, _, rfl⟩ := hv
  have r0 := hcell 0 (by simp)
  have r1 := hcell 1 (by simp)
  have r2 := hcell 2 (by simp)
  have r3 := hcell 3 (by simp)
  have r4 := hcell 4 (by simp)
  have r5 := hcell 5 (by simp)
  simp only [List.getD_cons_succ, List.getD_cons_zero, Nat.add_zero] at r0 r1 r2 r3 r4 r5
  clear hcell hcg hcx hl3 q0 hn hg hx
  rw [ho] at g0
  rw [hs, show strB groupS = ⟨#[103, 114, 111, 117, 112]⟩ from rfl] at g2
  rw [hq] at x0
  rw [hsx] at x2
  clear ho hs hq hsx
  have hlen : (strB sx).size = sx.length := by simp [strB, ByteArray.size]
  have HB := Shut.mk (show ∀ j (hj : j < sx.length) (v : Int), v = ((((strB sx)[j]'(by omega)).toNat : Nat) : Int) → ((v < 48 ∨ 57 < v) ∨ 9 < ((sx.length : Nat) : Int)) → ReadQ ds (k : Int) (arr5 0 0 0 0 0) 1 from fun j hj v hv hbad => HZ.out (fun m hm h9 => by
    subst hv
    have hall : ∀ y ∈ sx, isDig y = true := by rw [hm]; exact dd_dig m
    have h1 := hall sx[j] (List.getElem_mem hj)
    have h2 := dd_len_lt 8 m h9
    rw [← hm] at h2
    unfold isDig at h1
    rw [Bool.and_eq_true] at h1
    have c1 := of_decide_eq_true h1.1
    have c2 := of_decide_eq_true h1.2
    have he : (strB sx)[j]'(by omega) = sx[j] := rfl
    rw [he] at hbad
    omega))
  go_quiet (fail)
  go_wp2
  go_quiet (fail)
  go_wp2
  go_loopw [9, 10] (fun kv iv wr => ∃ j : Nat, j ≤ sx.length ∧ iv = .int .i64 j ∧ kv = .int .i64 ((decVal (sx.take j) : Nat) : Int) ∧ (j ≤ 9) ∧ (∀ y ∈ sx.take j, isDig y = true) ∧ Kept w3 wr) (fun _ iv _ => sx.length - (intOf iv).toNat)
  case atStart => exact ⟨0, Nat.zero_le _, rfl, rfl, by omega, by simp, ((Kept.refl w3).drewN _).drewN _⟩
  case round =>
    obtain ⟨j, hj, rfl, rfl, hj9, hdg, kw⟩ := hrel
    have b4 := b3.kept kw
    clear c0 c1 c2 c3 c4 f0 f1 f2 f3 f4 bl
    have c0 := b4.cell 0
    have c1 := b4.cell 1
    have c2 := b4.cell 2
    have c3 := b4.cell 3
    have c4 := b4.cell 4
    have f0 := b4.frozen 0
    have f1 := b4.frozen 1
    have f2 := b4.frozen 2
    have f3 := b4.frozen 3
    have f4 := b4.frozen 4
    have bl := b4.lt
    simp only [List.getElem?_cons_succ, List.getElem?_cons_zero] at c0 c1 c2 c3 c4
    have hvl : decVal (sx.take j) < 1000000000 := decVal_lt9 hdg (by rw [List.length_take]; omega)
    by_cases hlt : j < sx.length
    · have HS := Shut.mk (decVal_snoc hlt)
      generalize decVal (sx.take j) = vv at *
      have hlt' : (j : Int) < (sx.length : Int) := by omega
      have j0 : (0 : Int) ≤ (j : Int) := by omega
      go_upto_region 9 with fail
      go_wp2
      case roundEnd =>
        have he : ((strB sx)[j]'(by omega)).toNat = (sx[j]).toNat := rfl
        refine ⟨⟨j + 1, hlt, by go_num, ?_, by omega, ?_, kw⟩, ?_⟩
        · have hs := HS.out
          rw [hs]
          congr 1
          omega
        · rw [List.take_succ_eq_append_getElem hlt]
          intro y hy
          rcases List.mem_append.1 hy with h1 | h1
          · exact hdg y h1
          · rw [List.mem_singleton.1 h1]
            unfold isDig
            rw [Bool.and_eq_true]
            exact ⟨decide_eq_true (by omega), decide_eq_true (by omega)⟩
        · simp [intOf]; omega
      all_goals
        refine bodyPost_ret (v := .tuple #[arr5 0 0 0 0 0, .int .i64 1]) ?_ rfl ?_
        · have hr : Tryd.f28.results = #[.cell 4 44, .tmp 5] := rfl
          simp [results, hr]
          go_simp
          rfl
        · exact ⟨_, _, rfl, HB.out j hlt _ rfl (by omega), keep5 (hK.out.trans kw) (Nat.le_refl _) _ _ _ _ _⟩
    · have hjl : j = sx.length := by omega
      subst hjl
      rw [List.take_length] at *
      have hlt' : ¬ ((sx.length : Nat) : Int) < (sx.length : Int) := by omega
      have HD := Lib.hid (digits_any (decVal sx) (by omega) wr)
      have HS := Shut.mk (rfl : decVal sx = decVal sx)
      by_cases hm : sx = Lib.decDigits (decVal sx)
      · have hq : ((strB (Lib.decDigits (decVal sx))).toList == (strB sx).toList) = true := by rw [← hm]; exact beq_self_eq_true _
        have HR := Shut.mk (HY.out _ hm hvl)
        clear hm
        generalize decVal sx = vv at *
        go_wp2_with fail
        (with_reducible refine HD.out.mono ?_); rintro e w5 ⟨rfl, m5, rfl⟩
        have hK5 := Shut.mk ((hK.out.trans kw).drewN m5)
        have k6 : Kept w3 (wr.drewN m5) := kw.drewN m5
        go_upto_region 14 with fail
        generalize wr.drewN m5 = w6 at *
        have b6 := b3.kept k6
        have n3' := (k6.cell (World.block_lt_of_cell? _ _ n3)).trans n3
        have r1' := (k6.cell (World.block_lt_of_cell? _ _ r1)).trans r1
        have r3' := (k6.cell (World.block_lt_of_cell? _ _ r3)).trans r3
        have r4' := (k6.cell (World.block_lt_of_cell? _ _ r4)).trans r4
        have r5' := (k6.cell (World.block_lt_of_cell? _ _ r5)).trans r5
        clear c0 c1 c2 c3 c4 f0 f1 f2 f3 f4 bl
        have c0 := b6.cell 0
        have c1 := b6.cell 1
        have c2 := b6.cell 2
        have c3 := b6.cell 3
        have c4 := b6.cell 4
        have f0 := b6.frozen 0
        have f1 := b6.frozen 1
        have f2 := b6.frozen 2
        have f3 := b6.frozen 3
        have f4 := b6.frozen 4
        have bl := b6.lt
        simp only [List.getElem?_cons_succ, List.getElem?_cons_zero] at c0 c1 c2 c3 c4
        go_region
        go_wp2
        refine bodyPost_ret (v := .tuple #[arr5 i (vv : Int) tt c z, .int .i64 0]) ?_ rfl ?_
        · have hr : Tryd.f28.results = #[.cell 4 44, .tmp 5] := rfl
          simp [results, hr]
          go_simp
          rfl
        · refine ⟨_, _, rfl, HR.out, ?_⟩
          first
            | exact (keep5 (hK.out.trans k6) (Nat.le_refl _) _ _ _ _ _).drewN _
            | exact keep5 (hK.out.trans k6) (Nat.le_refl _) _ _ _ _ _
      · have HR := Shut.mk (HZ.out (fun m h5 h6 => hm (by rw [h5, dd_val])))
        have hq : ((strB (Lib.decDigits (decVal sx))).toList == (strB sx).toList) = false := by
          rw [strB_list, strB_list]
          exact beq_eq_false_iff_ne.2 (fun e => hm e.symm)
        generalize decVal sx = vv at *
        clear hm
        go_wp2_with fail
        (with_reducible refine HD.out.mono ?_); rintro e w5 ⟨rfl, m5, rfl⟩
        have hK5 := Shut.mk ((hK.out.trans kw).drewN m5)
        go_wp2
        refine bodyPost_ret (v := .tuple #[arr5 0 0 0 0 0, .int .i64 1]) ?_ rfl ?_
        · have hr : Tryd.f28.results = #[.cell 4 44, .tmp 5] := rfl
          simp [results, hr]
          go_simp
          rfl
        · exact ⟨_, _, rfl, HR.out, keep5 hK5.out (Nat.le_refl _) _ _ _ _ _⟩
/-- The document's Read. -/
theorem RRead_any {F : Nat → Prop} {w : World} {p : Value} {ds : List Nd} (h : ArR F w p ds) (t : Int) :
    Calls Tryd.prog 28 #[p, .int .i64 t] w (ReadPost w ds t) := by
  by_cases ht : IsT ds t
  · obtain ⟨k, rfl⟩ := Int.eq_ofNat_of_zero_le ht.1
    have hk : k < ds.length := by have := ht.2; omega
    have hless := h.good.lesser hk
    rcases hd : ds.getD k nd0 with ⟨op, n, s, l⟩
    rw [hd] at hless
    by_cases ho : op = 3
    · subst ho
      by_cases h6 : l.length = 6
      · obtain ⟨g, i, x, tt, c, z, rfl⟩ : ∃ g i x tt c z, l = [g, i, x, tt, c, z] := by
          match l, h6 with
          | [g, i, x, tt, c, z], _ => exact ⟨g, i, x, tt, c, z, rfl⟩
        obtain ⟨gj, rfl⟩ := Int.eq_ofNat_of_zero_le (hless g (by simp)).1
        obtain ⟨xj, rfl⟩ := Int.eq_ofNat_of_zero_le (hless x (by simp)).1
        have hg : gj < ds.length := by have := (hless (gj : Int) (by simp)).2; omega
        have hx : xj < ds.length := by have := (hless (xj : Int) (by simp)).2; omega
        by_cases ho : (ds.getD gj nd0).op = 2
        · by_cases hs : (ds.getD gj nd0).s = groupS
          · by_cases hq : (ds.getD xj nd0).op = 2
            · exact RRead_all h hk hd hg hx ho hs hq rfl
            · exact RRead_xop h hk hd hg hx ho hs hq
          · exact RRead_gs h hk hd hg hx ho hs
        · exact RRead_gop h hk hd hg hx ho
      · exact RRead_len h hk hd h6
    · exact RRead_op h hk hd ho
  · exact RRead_out h ht
end Go.Proofs.YtdjfdobcjakmhaaDoor
end

section
/- Package schedule: the closures of Begin (written by gen_scc.py). -/
set_option linter.unusedSimpArgs false
set_option linter.unusedVariables false
namespace Go.Proofs.YtdjfdobcjakmhaaDoor
open Go.RowKit Go.Maps

/-- What a call turns that has an error's box of its caller. -/
def We (S : Nat → Prop) (eb : Nat) : Nat → Prop := fun b => ¬ S b ∨ b = eb
/-- The arena p with the terms ds; in the box eb no error yet. S stays. -/
structure Ly (w0 : World) (S : Nat → Prop) (w : World) (eb : Nat) (p : Value) (ds : List Nd) : Prop where
  arena : At w0 S w p ds
  blk : Blk w eb 28 [.int .i64 0]
  inS : S eb
  new : w0.heap.size ≤ eb
theorem Ly.step {w0 : World} {S : Nat → Prop} {w w' : World} {eb : Nat} {p : Value} {ds : List Nd} (h : Ly w0 S w eb p ds) (k : Kept w w') : Ly w0 S w' eb p ds :=
  ⟨h.arena.step k, h.blk.kept k, h.inS, h.new⟩
theorem Ly.more {w0 : World} {S T : Nat → Prop} {w w' : World} {eb : Nat} {p : Value} {ds : List Nd} (h : Ly w0 S w eb p ds) (k : Kept w w') (hT : ∀ b, T b → (S b ∨ w.heap.size ≤ b) ∧ b < w'.heap.size) (hs : ∀ b, S b → T b) : Ly w0 T w' eb p ds :=
  ⟨h.arena.more k hT (fun b hb => hs b (h.arena.base b hb)), h.blk.kept k, hs _ h.inS, h.new⟩
/-- S, and all that is new since w. -/
def PlusE (S : Nat → Prop) (w w' : World) : Nat → Prop := fun b => S b ∨ (w.heap.size ≤ b ∧ b < w'.heap.size)
theorem Ly.plus {w0 : World} {S : Nat → Prop} {w w' : World} {eb : Nat} {p : Value} {ds : List Nd} (h : Ly w0 S w eb p ds) (k : Kept w w') : Ly w0 (PlusE S w w') w' eb p ds :=
  h.more k (fun b hb => by
    rcases hb with hb | hb
    · exact ⟨.inl hb, Nat.lt_of_lt_of_le (h.arena.old b hb) k.size⟩
    · exact ⟨.inr hb.1, hb.2⟩) (fun b hb => .inl hb)
theorem At.fewer {w0 : World} {S T : Nat → Prop} {w : World} {p : Value} {ds : List Nd} (h : At w0 T w p ds) (hs : ∀ b, S b → T b) (hb : ∀ b, b < w0.heap.size → S b) : At w0 S w p ds :=
  h.more (Kept.refl w) (fun b hb => ⟨.inl (hs b hb), h.old b (hs b hb)⟩) hb
theorem Ly.fewer {w0 : World} {S T : Nat → Prop} {w : World} {eb : Nat} {p : Value} {ds : List Nd} (h : Ly w0 T w eb p ds) (hs : ∀ b, S b → T b) (hb0 : ∀ b, b < w0.heap.size → S b) (h1 : S eb) : Ly w0 S w eb p ds :=
  ⟨h.arena.fewer hs hb0, h.blk, h1, h.new⟩
/-- What a call leaves that makes terms: no more than n, and of the last one Q. -/
def LMk (w0 : World) (S : Nat → Prop) (w : World) (eb : Nat) (p : Value) (ds : List Nd) (n : Nat) (Q : List Nd → Int → Prop) (e : Ending) (w' : World) : Prop :=
  ∃ (r : List Nd) (t : Int), e = .returned (.int .i64 t) ∧ Ly w0 S w' eb p (ds ++ r) ∧ r.length ≤ n ∧ Q (ds ++ r) t ∧ Turn (We S eb) w w'
theorem LMk.back {w0 : World} {S T : Nat → Prop} {w w1 : World} {eb : Nat} {p : Value} {ds : List Nd} {n : Nat} {Q : List Nd → Int → Prop} {e : Ending} {w' : World} (h : LMk w0 T w1 eb p ds n Q e w') (hs : ∀ b, S b → T b) (hb0 : ∀ b, b < w0.heap.size → S b) (h1 : S eb) (k : Turn (We S eb) w w1) : LMk w0 S w eb p ds n Q e w' := by
  obtain ⟨r, t, h2, h3, h4, h5, h6⟩ := h
  exact ⟨r, t, h2, h3.fewer hs hb0 h1, h4, h5, Turn.trans k h6 (fun b q => .inl (q.elim (fun c => .inl fun d => c (hs b d)) .inr))⟩
theorem Blk.we {S : Nat → Prop} {w w' : World} {eb b : Nat} {ty : TypeId} {cs : List Value} (h : Blk w b ty cs) (t : Turn (We S eb) w w') (hs : S b) (hn : b ≠ eb) : Blk w' b ty cs :=
  h.turn t (fun c => c.elim (fun d => d hs) (fun d => hn d))
end Go.Proofs.YtdjfdobcjakmhaaDoor
end

section
/- Package schedule: Begin (written by gen_scd.py). -/
set_option linter.unusedSimpArgs false
set_option linter.unusedVariables false
namespace Go.Proofs.YtdjfdobcjakmhaaDoor
open Go.RowKit Go.Maps

theorem At.plusE {w0 : World} {S : Nat → Prop} {w w' : World} {p : Value} {ds : List Nd} (h : At w0 S w p ds) (k : Kept w w') : At w0 (PlusE S w w') w' p ds :=
  h.more k (fun b hb => by
    rcases hb with hb | hb
    · exact ⟨.inl hb, Nat.lt_of_lt_of_le (h.old b hb) k.size⟩
    · exact ⟨.inr hb.1, hb.2⟩) (fun b hb => .inl (h.base b hb))
/-- What a call leaves that derives an epoch. -/
def EMk (w0 : World) (S : Nat → Prop) (w : World) (p : Value) (ds : List Nd) (n : Nat) (Q : List Nd → Ep → Prop) (e : Ending) (w' : World) : Prop :=
  ∃ (r : List Nd) (x : Ep), e = .returned (.tuple #[epV x, .int .i64 0]) ∧ At w0 S w' p (ds ++ r) ∧ r.length ≤ n ∧ Q (ds ++ r) x ∧ Keep S w w'

end Go.Proofs.YtdjfdobcjakmhaaDoor
end

section
/- Package schedule: Next, Inner, Export. -/
set_option linter.unusedSimpArgs false
set_option linter.unusedVariables false
namespace Go.Proofs.YtdjfdobcjakmhaaDoor
open Go.RowKit Go.Maps

end Go.Proofs.YtdjfdobcjakmhaaDoor
end

section
/- Package schedule: Next (written by gen_scf.py). -/
set_option linter.unusedSimpArgs false
set_option linter.unusedVariables false
namespace Go.Proofs.YtdjfdobcjakmhaaDoor
open Go.RowKit Go.Maps

theorem RdK.up {S T : Nat → Prop} {w w1 : World} {v : Value} {l : List Int} (h : RdK S w v l) (k : Kept w w1) (hs : ∀ b, S b → T b) : RdK T w1 v l := fun W k2 => h W ((k.keep S).trans (k2.mono fun b c d => c (hs b d)))
theorem Keep.down {S T : Nat → Prop} {w w1 : World} (k : Keep T w w1) (hs : ∀ b, S b → T b) : Keep S w w1 := k.mono fun b c d => c (hs b d)
end Go.Proofs.YtdjfdobcjakmhaaDoor
end

section
/- The document's Begin (written by gen_sci.py). -/
set_option linter.unusedSimpArgs false
set_option linter.unusedVariables false
namespace Go.Proofs.YtdjfdobcjakmhaaDoor
open Go.RowKit Go.Maps

theorem AtR.plusE {w0 : World} {S : Nat → Prop} {w w' : World} {p : Value} {ds : List Nd} (h : AtR w0 S w p ds) (k : Kept w w') : AtR w0 (PlusE S w w') w' p ds :=
  h.more k (fun b hb => by
    rcases hb with hb | hb
    · exact ⟨.inl hb, Nat.lt_of_lt_of_le (h.old b hb) k.size⟩
    · exact ⟨.inr hb.1, hb.2⟩) (fun b hb => .inl (h.base b hb))
/-- What a call leaves that derives an epoch. -/
def ERk (w0 : World) (S : Nat → Prop) (w : World) (p : Value) (ds : List Nd) (n : Nat) (Q : List Nd → Ep → Prop) (e : Ending) (w' : World) : Prop :=
  ∃ (r : List Nd) (x : Ep), e = .returned (.tuple #[epV x, .int .i64 0]) ∧ AtR w0 S w' p (ds ++ r) ∧ r.length ≤ n ∧ Q (ds ++ r) x ∧ Keep S w w'
def ERn (w0 : World) (S : Nat → Prop) (w : World) (p : Value) (ds : List Nd) (n : Nat) (e : Ending) (w' : World) : Prop :=
  ∃ r : List Nd, e = .returned (.tuple #[epV ep0, .int .i64 1]) ∧ AtR w0 S w' p (ds ++ r) ∧ r.length ≤ n ∧ Keep S w w'
/-- The epoch's fields, some of them laid. -/
def epF (j a b : Int) (ts : List Int) : List Value := [.int .i64 j, .int .i64 a, .int .i64 b, .int .i64 (ts.getD 0 0), .int .i64 (ts.getD 1 0), .int .i64 (ts.getD 2 0), .int .i64 (ts.getD 3 0), .int .i64 (ts.getD 4 0), .int .i64 (ts.getD 5 0), .int .i64 0, .int .i64 (ts.getD 6 0)]
def labR : List (List UInt8) := [senderS, encryptionS, exporterS, confirmS, membershipS, resumptionS, initS, externalS]

end Go.Proofs.YtdjfdobcjakmhaaDoor
end

section
/- The document's schedule: Begin of what is no term, Next, Inner, Export (written by gen_scj.py). -/
set_option linter.unusedSimpArgs false
set_option linter.unusedVariables false
namespace Go.Proofs.YtdjfdobcjakmhaaDoor
open Go.RowKit Go.Maps

theorem AtR.fin {w0 : World} {S T : Nat → Prop} {w W : World} {p : Value} {es : List Nd} (hs : ∀ b, S b → T b) (h0 : ∀ b, b < w0.heap.size → S b) (hn : ¬ S w.heap.size) (hw : w0.heap.size ≤ w.heap.size) (hT : T w.heap.size) (a : AtR w0 T W p es) (k : Keep S w W) : ∀ V, Turn (fun b => b = w.heap.size) W V → AtR w0 S V p es ∧ Keep S w V := fun V t =>
  ⟨(a.turn t (fun b e => by cases e; exact ⟨hT, hw⟩)).back hs h0, Turn.trans k t (fun b e => .inl (fun d => by cases e; exact hn d))⟩
end Go.Proofs.YtdjfdobcjakmhaaDoor
end

section
/- Epochs compared. -/
set_option linter.unusedSimpArgs false
set_option linter.unusedVariables false
namespace Go.Proofs.YtdjfdobcjakmhaaDoor
open Go.RowKit Go.Maps

/-- Whether two epochs are the same. -/
def epB (x y : Ep) : Bool := x.joiner == y.joiner && (x.welcome == y.welcome && (x.epoch == y.epoch && (x.sender == y.sender && (x.encryption == y.encryption && (x.exporter == y.exporter && (x.confirm == y.confirm && (x.membership == y.membership && (x.resumption == y.resumption && (x.external == y.external && x.init == y.init)))))))))
theorem epB_self (x : Ep) : epB x x = true := by simp [epB]
theorem eqF_cons {w : World} {f : Field} {fs : List Field} {xs ys : Array Value} {a b : Int} {r : Bool} (hn : f.name ≠ "_") (ht : f.type = 3) (hp : (part f.type xs f.offset).run Tryd.prog w = .ok (.int .i64 a) w) (hq : (part f.type ys f.offset).run Tryd.prog w = .ok (.int .i64 b) w)
    (hr : (Op.eqFields 9999 xs ys fs).run Tryd.prog w = .ok r w) : (Op.eqFields 9999 xs ys (f :: fs)).run Tryd.prog w = .ok ((a == b) && r) w := by
  have he : ∀ (a b : Int) (w : World), (Op.equalIn 9999 3 (.int .i64 a) (.int .i64 b)).run Tryd.prog w = .ok (a == b) w := fun a b w => run_equalIn_int (P := Tryd.prog) (w := w) 9998 3 .i64 .i64 a b Tryd.underlying3
  rw [ht] at hp hq
  simp only [Op.eqFields, if_pos hn, Sem.run_bind, Result.andThen_ok, ht, hp, hq, he]
  cases h : (a == b)
  · simp
  · simp [hr]
end Go.Proofs.YtdjfdobcjakmhaaDoor
end

section
/- The statements' helpers of layer 11: two, live. -/
set_option linter.unusedSimpArgs false
set_option linter.unusedVariables false
namespace Go.Proofs.YtdjfdobcjakmhaaDoor
open Go.RowKit Go.Maps

/-- An arena of its own memory, apart from what was there. -/
theorem At.mkA {w w1 : World} {p : Value} {ds : List Nd} {F : Nat → Prop} (hA : Ar F w1 p ds) (hF : ∀ b, F b → w.heap.size ≤ b) (k1 : Kept w w1) (hT : Tabs w) : At w (fun b => b < w.heap.size) w1 p ds :=
  ⟨⟨F, hA, fun b hb (hs : b < w.heap.size) => by have := hF b hb; omega⟩, fun b (hb : b < w.heap.size) => Nat.lt_of_lt_of_le hb k1.size, fun b hb => hb, k1, hT⟩
theorem atoms_den {k n : Nat} (hg : Good (atomsL k)) (h : n < k) : Den (atomT n) (atomsL k) (n : Int) := ⟨(atoms_is h).isT, den_is hg (atoms_is h)⟩
theorem is_shw {ds : List Nd} (hg : Good ds) {t : Int} {d : Nd} (h : Is ds t d) : shw ds t = one (shw ds) d := by
  rw [shw_eq hg h.lo h.hi, h.eq]
def liveS11 : List UInt8 := [109, 105, 120, 40, 34, 34, 44, 35, 51, 41]
theorem live11_sh {ds : List Nd} (hg : Good ds) {t : Int} (h : Den (pskT [atomT 3]) ds t) : shE ds t = 0 ∧ shT ds t = liveS11 := by
  obtain ⟨l, hi, hl⟩ := den_inv hg h
  obtain ⟨a, l, rfl, da, hl⟩ := hl.cons_inv
  obtain ⟨b, l, rfl, db, hl⟩ := hl.cons_inv
  obtain rfl := hl.nil_inv
  obtain ⟨la, ia, _⟩ := den_inv hg da
  obtain ⟨lb, ib, _⟩ := den_inv hg db
  have e3 : Lib.itoa 3 = [51] := by
    unfold Lib.itoa
    rw [if_neg (by decide), Lib.decDigits_one (by decide)]
    rfl
  have hs : shw ds t = liveS11 := by
    rw [is_shw hg hi]
    simp only [one, List.map_cons, List.map_nil, is_shw hg ia, is_shw hg ib]
    simp [one, e3, joinC, esc, kName, kTab, liveS11]
  have hE : shE ds t = 0 := by
    unfold shE
    rw [if_pos (show 0 ≤ t ∧ t < (ds.length : Int) from h.1), hs, if_neg (by decide)]
  exact ⟨hE, by unfold shT; rw [if_pos hE, hs]⟩
end Go.Proofs.YtdjfdobcjakmhaaDoor
end

section
/- Numbers that are no terms, and stay so; the walk of SchedulePsk. -/
set_option linter.unusedSimpArgs false
set_option linter.unusedVariables false
namespace Go.Proofs.YtdjfdobcjakmhaaDoor
open Go.RowKit Go.Maps

/-- All of l are among the ten. -/
def tB (l : List Int) : Bool := termsB (atomsL 10) l
theorem near_isT {x : Int} {r : List Nd} (h : ¬ (10 ≤ x ∧ x < 1073741824)) (hl : (atomsL 10 ++ r).length ≤ 100000) : IsT (atomsL 10 ++ r) x ↔ IsT (atomsL 10) x := by
  unfold IsT
  rw [List.length_append, atomsL_len] at *
  omega
theorem near_terms {l : List Int} {r : List Nd} (h : Near 10 l) (hl : (atomsL 10 ++ r).length ≤ 100000) : termsB (atomsL 10 ++ r) l = tB l := by
  unfold tB termsB
  rw [Bool.eq_iff_iff, List.all_eq_true, List.all_eq_true]
  constructor
  · intro k x hx
    exact decide_eq_true ((near_isT (h x hx) hl).1 (of_decide_eq_true (k x hx)))
  · intro k x hx
    exact decide_eq_true ((near_isT (h x hx) hl).2 (of_decide_eq_true (k x hx)))
theorem tB_den {l : List Int} (hg : Good (atomsL 10)) (h : tB l = true) : DenL (l.map atomT) (atomsL 10) l := by
  have hT : ∀ x ∈ l, IsT (atomsL 10) x := fun x hx => of_decide_eq_true (List.all_eq_true.1 h x hx)
  refine ⟨hT, List.map_congr_left fun x hx => ?_⟩
  obtain ⟨n, rfl⟩ := Int.eq_ofNat_of_zero_le (hT x hx).1
  exact (atoms_den hg (by have := (hT (n : Int) hx).2; rw [atomsL_len] at this; omega)).2
theorem atomT_inj {a b : Int} (h : atomT a = atomT b) : a = b := by
  unfold atomT at h
  injection h
theorem atoms_inj : ∀ {l m : List Int}, l.map atomT = m.map atomT → l = m := by
  intro l
  induction l with
  | nil => intro m h; exact (List.map_eq_nil_iff.1 h.symm).symm
  | cons a l ih =>
    intro m h
    cases m with
    | nil => cases h
    | cons b m =>
      rw [List.map_cons, List.map_cons] at h
      injection h with h1 h2
      rw [atomT_inj h1, ih h2]
end Go.Proofs.YtdjfdobcjakmhaaDoor
end

section
/- The walk of ScheduleJoins (written by gen_scn.py). -/
set_option linter.unusedSimpArgs false
set_option linter.unusedVariables false
namespace Go.Proofs.YtdjfdobcjakmhaaDoor
open Go.RowKit Go.Maps

theorem tB_append (l m : List Int) : tB (l ++ m) = (tB l && tB m) := by unfold tB termsB; rw [List.all_append]
theorem tB_isT {l : List Int} (h : tB l = true) {x : Int} (hx : x ∈ l) : IsT (atomsL 10) x := of_decide_eq_true (List.all_eq_true.1 h x hx)
theorem isT_atom {x : Int} (hg : Good (atomsL 10)) (h : IsT (atomsL 10) x) : Den (atomT x) (atomsL 10) x := by
  obtain ⟨n, rfl⟩ := Int.eq_ofNat_of_zero_le h.1
  exact atoms_den hg (by have := h.2; rw [atomsL_len] at this; omega)
end Go.Proofs.YtdjfdobcjakmhaaDoor
end

section
/- The walk of ScheduleApart (written by gen_sco.py). -/
set_option linter.unusedSimpArgs false
set_option linter.unusedVariables false
namespace Go.Proofs.YtdjfdobcjakmhaaDoor
open Go.RowKit Go.Maps

theorem den_eqB {A B : Tr} {ds : List Nd} (hg : Good ds) {a b : Int} (ha : Den A ds a) (hb : Den B ds b) {P : Prop} [Decidable P] (h : A = B ↔ P) : (a == b) = decide P := by
  rw [Bool.eq_iff_iff, beq_iff_eq, decide_eq_true_iff, ← h]
  constructor
  · intro e
    have h1 := ha.2
    rw [e] at h1
    exact h1.symm.trans hb.2
  · rintro rfl
    exact ha.same hg hb
theorem atomT_iff {a b : Int} : atomT a = atomT b ↔ a = b := ⟨atomT_inj, fun h => by rw [h]⟩
theorem apart_xy {ds : List Nd} (hg : Good ds) {X Y : Ep} {i c x a b d : Int} (hX : EpD (joinT (atomT i) (atomT c) (atomT x)) (pskT []) (atomT x) ds X) (hY : EpD (joinT (atomT a) (atomT b) (atomT d)) (pskT []) (atomT d) ds Y) {k : Nat} (hk : k < 10) :
    (X.inner.getD k 0 == Y.inner.getD k 0) = (i == a && (c == b && x == d)) := by
  rw [den_eqB hg (hX.at hk) (hY.at hk) (P := i = a ∧ (c = b ∧ x = d)) (by
    rw [inner_iff hk, joinT_iff, atomT_iff, atomT_iff, atomT_iff]
    constructor
    · rintro ⟨h, _⟩; exact h
    · rintro ⟨h1, h2, h3⟩; exact ⟨⟨h1, h2, h3⟩, .inr rfl, .inr (.inr h3)⟩)]
  by_cases h1 : i = a <;> by_cases h2 : c = b <;> by_cases h3 : x = d <;> simp [h1, h2, h3]
theorem apart_xz {ds : List Nd} (hg : Good ds) {X Y : Ep} {j t : Tr} (hX : EpD j (pskT []) t ds X) (hY : EpD j (pskT [atomT 3]) t ds Y) {k : Nat} (hk : k < 10) :
    (X.inner.getD k 0 == Y.inner.getD k 0) = decide (k = 0) := by
  refine den_eqB hg (hX.at hk) (hY.at hk) ?_
  rw [inner_iff hk]
  constructor
  · rintro ⟨_, h, _⟩
    rcases h with h | h
    · exact h
    · have := pskT_inj _ _ _ (Nat.le_refl _) h
      cases this
  · rintro rfl
    exact ⟨rfl, .inl rfl, .inl rfl⟩
theorem exp_iff {e o : Tr} {s t : List UInt8} : keyT (derT e s) exportedS o = keyT (derT e t) exportedS o ↔ s = t :=
  ⟨fun h => (derT_inj (keyT_inj h).1).2, fun h => by rw [h]⟩
theorem rdi_arr {w : World} {g : Nat} {a b c : Int} (h : Blk w g 50 [.int .i64 a, .int .i64 b, .int .i64 c]) : RdI w (.slice (some ⟨g, 0, none⟩) 3 3) [a, b, c] :=
  RdvBlk h rfl (by unfold maxLen; decide)
end Go.Proofs.YtdjfdobcjakmhaaDoor
end

section
/- The law's dump, same (written by gen_scu.py). -/
set_option linter.unusedSimpArgs false
set_option linter.unusedVariables false
namespace Go.Proofs.YtdjfdobcjakmhaaDoor
open Go.RowKit Go.Maps

theorem Kept.cellE {w w' : World} (k : Kept w w') {p : Addr} {v : Value} (h : w.cell? p = some v) : w'.cell? p = some v := (k.cell (World.block_lt_of_cell? _ _ h)).trans h
theorem cellT {w w' : World} {mb : Nat} (k : Turn (fun b => b = mb) w w') {p : Addr} {v : Value} (hn : p.block ≠ mb) (h : w.cell? p = some v) : w'.cell? p = some v := (World.cell?_of_block (Turn.block k p.block (World.block_lt_of_cell? _ _ h) hn)).trans h
def BisPost (w : World) (mb : Nat) (es ds : List Nd) (e : Ending) (w' : World) : Prop := e = .returned (.bool true) ∧ Turn (fun b => b = mb) w w' ∧ ∃ ks', MetM w' mb es ds ks'
theorem bisD {G : Nat → Prop} {w : World} {q lv : Value} {mb : Nat} {es ds : List Nd} {T : Tr} {x y : Int} (hr : ArR G w q es) (hg : Good ds) (hf : ds.length ≤ 100000) (gm : ¬ G mb) (hl : RdNsU (fun b => b = mb) w lv ds) (hm : ∃ ks, MetM w mb es ds ks) (hx : Den T ds x) (hy : Den T es y) :
    Calls Tryd.prog 40 #[q, lv, .int .i64 y, .int .i64 x, .map (some mb)] w (BisPost w mb es ds) := by
  obtain ⟨ks, m⟩ := hm
  obtain ⟨a, rfl⟩ := Int.eq_ofNat_of_zero_le hx.1.1
  obtain ⟨b, rfl⟩ := Int.eq_ofNat_of_zero_le hy.1.1
  refine (bisim_any (G := G) (p := q) (lv := lv) (mb := mb) hr.good hg hr.few hf (b + 1) b a (Nat.lt_succ_self _) (by have := hy.1.2; omega) (by have := hx.1.2; omega) (hy.2.trans hx.2.symm) w ks ⟨hr, gm, hl⟩ m).mono fun e w' h => ?_
  obtain ⟨h1, h2, ks', h3, _⟩ := h
  exact ⟨h1, h2, ks', h3⟩
theorem met_new (w : World) (es ds : List Nd) : ∃ ks, MetM (w.alloc (.map #[] 0)) w.heap.size es ds ks := ⟨[], 0, .map [], World.ownsMap_made w _ _ _, Met.nil es ds⟩
theorem MetM.keptE {w w' : World} {mb : Nat} {es ds : List Nd} (h : ∃ ks, MetM w mb es ds ks) (k : Kept w w') : ∃ ks, MetM w' mb es ds ks := by
  obtain ⟨ks, h⟩ := h
  exact ⟨ks, h.kept k⟩

end Go.Proofs.YtdjfdobcjakmhaaDoor
end

section
/- Two arenas, and what is asked of both: each call's answer, whether it is one or an error. -/
set_option linter.unusedSimpArgs false
set_option linter.unusedVariables false
namespace Go.Proofs.YtdjfdobcjakmhaaDoor
open Go.RowKit Go.Maps

/-- Both arenas since w, apart from one another, and from X. -/
structure Ta (w : World) (X : Nat → Prop) (W : World) (p q : Value) (ds es : List Nd) : Prop where
  ar : ∃ F G : Nat → Prop, Ar F W p ds ∧ ArR G W q es ∧ (∀ b, F b → ¬ G b) ∧ (∀ b, F b → w.heap.size ≤ b ∧ ¬ X b) ∧ (∀ b, G b → w.heap.size ≤ b ∧ ¬ X b)
  xlt : ∀ b, X b → b < W.heap.size
  kept : Kept w W
  tab : Tabs w
theorem Ta.prog {w : World} {X : Nat → Prop} {W : World} {p q : Value} {ds es : List Nd} (h : Ta w X W p q ds es) :
    ∃ S : Nat → Prop, At w S W p ds ∧ (∀ b, X b → S b) ∧ (∀ b, b < w.heap.size → S b) ∧ ∀ W' ds', At w S W' p ds' → Keep S W W' → Ta w X W' p q ds' es := by
  obtain ⟨F, G, hF, hG, hd, f1, g1⟩ := h.ar
  refine ⟨fun b => b < w.heap.size ∨ G b ∨ X b, ⟨⟨F, hF, fun b hb hs => ?_⟩, fun b hs => ?_, fun b hb => .inl hb, h.kept, h.tab⟩, fun b hb => .inr (.inr hb), fun b hb => .inl hb, fun W' ds' a k => ?_⟩
  · rcases hs with c | c | c
    · have := (f1 b hb).1; omega
    · exact hd b hb c
    · exact (f1 b hb).2 c
  · rcases hs with c | c | c
    · exact Nat.lt_of_lt_of_le c h.kept.size
    · exact hG.lt b c
    · exact h.xlt b c
  · obtain ⟨F', hF', hn⟩ := a.ar
    refine ⟨⟨F', G, hF', ArG.turn hG k (fun b hb c => c (.inr (.inl hb))), fun b hb hg => hn b hb (.inr (.inl hg)), fun b hb => ⟨?_, fun c => hn b hb (.inr (.inr c))⟩, g1⟩, fun b hb => Nat.lt_of_lt_of_le (h.xlt b hb) k.size, a.kept, h.tab⟩
    rcases Nat.lt_or_ge b w.heap.size with c | c
    · exact absurd (.inl c) (hn b hb)
    · exact c
theorem Ta.doc {w : World} {X : Nat → Prop} {W : World} {p q : Value} {ds es : List Nd} (h : Ta w X W p q ds es) :
    ∃ S : Nat → Prop, AtR w S W q es ∧ (∀ b, X b → S b) ∧ (∀ b, b < w.heap.size → S b) ∧ ∀ W' es', AtR w S W' q es' → Keep S W W' → Ta w X W' p q ds es' := by
  obtain ⟨F, G, hF, hG, hd, f1, g1⟩ := h.ar
  refine ⟨fun b => b < w.heap.size ∨ F b ∨ X b, ⟨⟨G, hG, fun b hb hs => ?_⟩, fun b hs => ?_, fun b hb => .inl hb, h.kept⟩, fun b hb => .inr (.inr hb), fun b hb => .inl hb, fun W' es' a k => ?_⟩
  · rcases hs with c | c | c
    · have := (g1 b hb).1; omega
    · exact hd b c hb
    · exact (g1 b hb).2 c
  · rcases hs with c | c | c
    · exact Nat.lt_of_lt_of_le c h.kept.size
    · exact hF.lt b c
    · exact h.xlt b c
  · obtain ⟨G', hG', hn⟩ := a.ar
    refine ⟨⟨F, G', ArG.turn hF k (fun b hb c => c (.inr (.inl hb))), hG', fun b hb hg => hn b hg (.inr (.inl hb)), f1, fun b hb => ⟨?_, fun c => hn b hb (.inr (.inr c))⟩⟩, fun b hb => Nat.lt_of_lt_of_le (h.xlt b hb) k.size, a.kept, h.tab⟩
    rcases Nat.lt_or_ge b w.heap.size with c | c
    · exact absurd (.inl c) (hn b hb)
    · exact c
theorem Ta.step {w : World} {X : Nat → Prop} {W W' : World} {p q : Value} {ds es : List Nd} (h : Ta w X W p q ds es) (k : Kept W W') : Ta w X W' p q ds es := by
  obtain ⟨F, G, hF, hG, hd, f1, g1⟩ := h.ar
  exact ⟨⟨F, G, ArG.kept hF k, ArG.kept hG k, hd, f1, g1⟩, fun b hb => Nat.lt_of_lt_of_le (h.xlt b hb) k.size, h.kept.trans k, h.tab⟩
theorem Ta.grow {w : World} {X : Nat → Prop} {W W' : World} {p q : Value} {ds es : List Nd} (h : Ta w X W p q ds es) (k : Kept W W') : Ta w (PlusE X W W') W' p q ds es := by
  obtain ⟨F, G, hF, hG, hd, f1, g1⟩ := h.ar
  refine ⟨⟨F, G, ArG.kept hF k, ArG.kept hG k, hd, fun b hb => ⟨(f1 b hb).1, fun c => ?_⟩, fun b hb => ⟨(g1 b hb).1, fun c => ?_⟩⟩, fun b hb => ?_, h.kept.trans k, h.tab⟩
  · rcases c with c | c
    · exact (f1 b hb).2 c
    · have := hF.lt b hb; omega
  · rcases c with c | c
    · exact (g1 b hb).2 c
    · have := hG.lt b hb; omega
  · rcases hb with c | c
    · exact Nat.lt_of_lt_of_le (h.xlt b c) k.size
    · exact c.2

/-- The error's number. -/
def eB (b : Bool) : Int := if b then 0 else 1
def PAny (w0 : World) (S : Nat → Prop) (w : World) (p : Value) (ds : List Nd) (n : Nat) (b : Bool) (Q : List Nd → Int → Prop) (e : Ending) (w' : World) : Prop :=
  ∃ (r : List Nd) (t : Int), e = .returned (.tuple #[.int .i64 t, .int .i64 (eB b)]) ∧ At w0 S w' p (ds ++ r) ∧ r.length ≤ n ∧ (b = true → Q (ds ++ r) t) ∧ Keep S w w'
def RAny (w0 : World) (S : Nat → Prop) (w : World) (p : Value) (ds : List Nd) (n : Nat) (b : Bool) (Q : List Nd → Int → Prop) (e : Ending) (w' : World) : Prop :=
  ∃ (r : List Nd) (t : Int), e = .returned (.tuple #[.int .i64 t, .int .i64 (eB b)]) ∧ AtR w0 S w' p (ds ++ r) ∧ r.length ≤ n ∧ (b = true → Q (ds ++ r) t) ∧ Keep S w w'
def EpAny (b : Bool) (Q : List Nd → Ep → Prop) (ds : List Nd) (x : Ep) : Prop := (b = true → Q ds x) ∧ (b = false → x = ep0)
def EAny (w0 : World) (S : Nat → Prop) (w : World) (p : Value) (ds : List Nd) (n : Nat) (b : Bool) (Q : List Nd → Ep → Prop) (e : Ending) (w' : World) : Prop :=
  ∃ (r : List Nd) (x : Ep), e = .returned (.tuple #[epV x, .int .i64 (eB b)]) ∧ At w0 S w' p (ds ++ r) ∧ r.length ≤ n ∧ EpAny b Q (ds ++ r) x ∧ Keep S w w'
def FAny (w0 : World) (S : Nat → Prop) (w : World) (p : Value) (ds : List Nd) (n : Nat) (b : Bool) (Q : List Nd → Ep → Prop) (e : Ending) (w' : World) : Prop :=
  ∃ (r : List Nd) (x : Ep), e = .returned (.tuple #[epV x, .int .i64 (eB b)]) ∧ AtR w0 S w' p (ds ++ r) ∧ r.length ≤ n ∧ EpAny b Q (ds ++ r) x ∧ Keep S w w'
theorem EpAny.more {b : Bool} {j p c : Tr} {ds : List Nd} {x : Ep} (h : EpAny b (EpD j p c) ds x) (r : List Nd) : EpAny b (EpD j p c) (ds ++ r) x := ⟨fun k => (h.1 k).more r, h.2⟩
theorem near_stays {x : Int} {r : List Nd} (h : ¬ (10 ≤ x ∧ x < 1073741824)) : Stays (atomsL 10 ++ r) x := fun s hs k => by
  rw [List.append_assoc] at hs k
  have := (near_isT h hs).1 k
  exact this.more r
theorem tB_dens {l : List Int} {r : List Nd} (hg : Good (atomsL 10)) (h : tB l = true) : DenL (l.map atomT) (atomsL 10 ++ r) l := (tB_den hg h).more r
theorem tB3 {i c x : Int} {r : List Nd} (hg : Good (atomsL 10)) (h : tB [i, c, x] = true) : Den (atomT i) (atomsL 10 ++ r) i ∧ Den (atomT c) (atomsL 10 ++ r) c ∧ Den (atomT x) (atomsL 10 ++ r) x :=
  ⟨(isT_atom hg (tB_isT h (by simp))).more r, (isT_atom hg (tB_isT h (by simp))).more r, (isT_atom hg (tB_isT h (by simp))).more r⟩
theorem good10 : Good (atomsL 10) := by
  have : ∀ k, k ≤ 10 → Good (atomsL k) := by
    intro k
    induction k with
    | zero => exact fun _ => Good.nil
    | succ k ih =>
      intro hk
      have h := mk_atoms (k := k) (by omega)
      have h2 := good_mk (ih (by omega)) ⟨1, (k : Int), [], []⟩
      rw [h] at h2
      exact h2
  exact this 10 (by decide)
abbrev EQ (i c x : Int) (l : List Int) : List Nd → Ep → Prop := EpD (joinT (atomT i) (atomT c) (atomT x)) (pskT (l.map atomT)) (atomT x)
abbrev EB (i c x : Int) : List Nd → Ep → Prop := EpD (atomT i) (atomT c) (atomT x)
/-- The secret that is exported of. -/
def exT (b : Bool) (i c x : Int) (l : List Int) : Tr := if b then derT (epochT (joinT (atomT i) (atomT c) (atomT x)) (pskT (l.map atomT)) (atomT x)) exporterS else atomT 0
theorem EpAny.exp {b : Bool} {i c x : Int} {l : List Int} {r : List Nd} {y : Ep} (h : EpAny b (EQ i c x l) (atomsL 10 ++ r) y) : Den (exT b i c x l) (atomsL 10 ++ r) y.exporter := by
  cases b with
  | true => exact (h.1 rfl).exporter
  | false =>
    rw [h.2 rfl]
    exact (atoms_den (k := 10) (n := 0) good10 (by decide)).more r
def exB (s : List UInt8) (o : Int) : Bool := decide (s.length ≤ 200) && tB [o]
end Go.Proofs.YtdjfdobcjakmhaaDoor
end
