/- Texts of one proof, put together: TsL, TsQ, TsHa, TsHc, TsC, TsHr, TsHs, TsP, TsK, TsU, TsX, ScV, TsW. -/
import Derived.Test.YtdjfdobcjakmhaaDoorMg06
import Derived.Test.YtdjfdobcjakmhaaDoorMg05
import Derived.Lib.AtoiAllCases
import Derived.Test.YtdjfdobcjakmhaaDoorMg03
import Derived.Test.YtdjfdobcjakmhaaDoorShelf
import Derived.BigRegion
import Derived.Deep.Cut
section
/- The laws' two, dump, same of layer 12 (written by gen_tsl.py). -/
set_option linter.unusedSimpArgs false
set_option linter.unusedVariables false
namespace Go.Proofs.YtdjfdobcjakmhaaDoor
open Go.RowKit Go.Maps

set_option maxHeartbeats 8000000 in
set_option maxRecDepth 100000 in
theorem two12_any {w : World} (hT : Tabs w) : Calls Tryd.prog 11 #[] w (TwoPost9 w) := by
  have HT := Lib.hid hT
  clear hT
  go_enter Tryd.func11, Tryd.ntmps11
  go_wp2_with fail
  refine (new_any w).mono ?_
  rintro e w1 ⟨F, p, rfl, h1, k1, hF, hp⟩
  go_wp2_with fail
  refine (newR_any w1).mono ?_
  rintro e w2 ⟨G, q, rfl, h2, k2, hG, hq⟩
  have hs : TwoS w p q 0 w2 := ⟨F, G, ArG.kept h1 k2, h2, fun b hb hg => by have := h1.lt b hb; have := hG b hg; omega, hF, fun b hg => Nat.le_trans k1.size (hG b hg), k1.trans k2⟩
  subst hp hq
  have HS := Lib.hid hs
  clear h1 h2 k1 k2 hF hG hs
  generalize w.heap.size + 1 = pb at *
  generalize w1.heap.size + 1 = qb at *
  go_wp2
  go_loopw [7] (fun c wr => ∃ k : Nat, k ≤ 10 ∧ c = .int .i64 k ∧ TwoS w (.pointer (some ⟨pb, 0, none⟩)) (.pointer (some ⟨qb, 0, none⟩)) k wr) (fun c _ => 10 - (intOf c).toNat)
  case atStart => exact ⟨0, Nat.zero_le _, rfl, HS.out⟩
  case round =>
    obtain ⟨k, hk, rfl, F, G, hA, hR, hFG, hF, hG, hkw⟩ := hrel
    by_cases hlt : k < 10
    · have k0 : (0 : Int) ≤ (k : Int) := by omega
      have k1 : (k : Int) < 10 := by omega
      have HM := Lib.hid (make_any hA (HT.out.kept hkw) (v := .agg #[.int .i64 1, .int .i64 (k : Int), .string ⟨#[]⟩, .slice none 0 0]) (d := ⟨1, (k : Int), [], []⟩) ⟨_, rfl, RdI.nil _⟩ (nd_atom_ok ⟨by omega, by omega⟩))
      rw [mk_atoms (by omega)] at HM
      have HR := Lib.hid hR
      have HFG := Shut.mk hFG
      have HF := Shut.mk hF
      have HG := Shut.mk hG
      clear hA hR hFG hF hG
      go_wp2_with fail
      (with_reducible refine HM.out.mono ?_); rintro e w4 ⟨F', rfl, h4, t4, hF4⟩
      have hR4 := ArG.turn HR.out t4 (fun b hb hg => HFG.out b hg hb)
      have HA := Lib.hid (atomR_any hR4 (n := (k : Int)) ⟨by omega, by omega⟩)
      rw [mk_atoms (by omega)] at HA
      have H4 := Lib.hid h4
      have T4 := Lib.hid t4
      have HF4 := Shut.mk hF4
      have GL := Shut.mk (show ∀ b, G b → b < wr.heap.size from HR.out.lt)
      clear hR4 h4 t4 hF4
      go_wp2_with fail
      (with_reducible refine HA.out.mono ?_); rintro e w5 ⟨G', rfl, h5, t5, hG5⟩
      have hd : ∀ b, F' b → ¬ G b := fun b hb hg => by
        rcases HF4.out b hb with c | c
        · exact HFG.out b c hg
        · have := GL.out b hg; omega
      have hs5 : TwoS w (.pointer (some ⟨pb, 0, none⟩)) (.pointer (some ⟨qb, 0, none⟩)) (k + 1) w5 := by
        refine ⟨F', G', ArG.turn H4.out t5 hd, h5, fun b hb hg => ?_, fun b hb => ?_, fun b hb => ?_, ?_⟩
        · rcases hG5 b hg with c | c
          · exact hd b hb c
          · have := H4.out.lt b hb; omega
        · rcases HF4.out b hb with c | c
          · exact HF.out b c
          · exact Nat.le_trans hkw.size c
        · rcases hG5 b hb with c | c
          · exact HG.out b c
          · exact Nat.le_trans (Nat.le_trans hkw.size T4.out.size) c
        · exact Turn.keptOf (Turn.keptOf hkw T4.out HF.out) t5 HG.out
      have HS5 := Lib.hid hs5
      clear h5 t5 hG5 hd hs5
      go_wp2
      go_roundw
      case rel => exact ⟨k + 1, hlt, by go_num, HS5.out⟩
      case measure => simp [intOf]; omega
    · obtain rfl : k = 10 := by omega
      have hkn : ¬ ((10 : Nat) : Int) < 10 := by decide
      go_wp2
      go_ret2
      exact ⟨_, _, _, rfl, rfl, F, G, hA, hR, hFG, hF, hG, hkw⟩

set_option maxHeartbeats 8000000 in
set_option maxRecDepth 100000 in
theorem dump12_any {F : Nat → Prop} {w : World} {p : Value} {ds : List Nd} (h : Ar F w p ds) : Calls Tryd.prog 41 #[p] w (DumpPost w ds) := by
  have HN := Lib.hid (fun (t : Int) W (k : Kept w W) => node_own (ArG.kept h k) t)
  have HLen := Lib.hid (arg_len h)
  have hfew := h.few
  have n63 : ((ds.length : Nat) : Int) ≤ 9223372036854775807 := by omega
  obtain ⟨pb, mb, nv, rfl, _, _, _⟩ := ArG.nodes h
  clear h
  go_enter Tryd.func41, Tryd.ntmps41
  go_wp2_with fail
  (with_reducible refine HLen.out.mono ?_); rintro e w1 ⟨rfl, rfl⟩
  go_wp2
  go_loopw [3, 9] (fun o i wr => ∃ j : Nat, j ≤ ds.length ∧ i = .int .i64 j ∧ OwnNs w.heap.size wr o (ds.take j) ∧ Kept w wr) (fun _ i _ => ds.length - (intOf i).toNat)
  case atStart => exact ⟨0, Nat.zero_le _, rfl, OwnNs.nil _ _, Kept.refl _⟩
  case round =>
    obtain ⟨j, hj0, rfl, ho, hk⟩ := hrel
    by_cases hlt : j < ds.length
    · have HO := Lib.hid ho
      have HNj := Lib.hid (HN.out (j : Int) wr hk)
      have hnd : ndAt ds (j : Int) = ds.getD j nd0 := by unfold ndAt; rw [if_pos ⟨by omega, by omega⟩, Int.toNat_natCast]
      rw [hnd] at HNj
      have HTK := Shut.mk (show ds.take (j + 1) = ds.take j ++ [ds.getD j nd0] by rw [List.take_succ_eq_append_getElem hlt, List.getD_eq_getElem?_getD, List.getElem?_eq_getElem hlt]; rfl)
      have htl : (ds.take j).length ≤ 200000 := by rw [List.length_take]; omega
      clear ho hnd
      generalize ds.getD j nd0 = d at *
      go_wp2_with fail
      (with_reducible refine HNj.out.mono ?_); rintro e w2 ⟨lv, rfl, ol, k2⟩
      obtain ⟨la, lc, rfl, _, _, _⟩ := (OwnI.rd ol).len
      have kb : Kept w2 ((w2.alloc (.cells #[.int .i64 d.op, .int .i64 d.n, .string (strB d.s), .slice la d.l.length lc] 65)).alloc (.cells #[.int .i64 d.op, .int .i64 d.n, .string (strB d.s), .slice la d.l.length lc] 65)) := ((Kept.refl w2).alloc _).alloc _
      have bb := Blk.new (w2.alloc (.cells #[.int .i64 d.op, .int .i64 d.n, .string (strB d.s), .slice la d.l.length lc] 65)) [.int .i64 d.op, .int .i64 d.n, .string (strB d.s), .slice la d.l.length lc] 65
      rw [World.size_alloc] at bb
      have hB : w.heap.size ≤ ((w2.alloc (.cells #[.int .i64 d.op, .int .i64 d.n, .string (strB d.s), .slice la d.l.length lc] 65)).alloc (.cells #[.int .i64 d.op, .int .i64 d.n, .string (strB d.s), .slice la d.l.length lc] 65)).heap.size := ((hk.trans k2).trans kb).size
      have o2 := HO.out.kept (k2.trans kb)
      have l2 : OwnI w.heap.size ((w2.alloc (.cells #[.int .i64 d.op, .int .i64 d.n, .string (strB d.s), .slice la d.l.length lc] 65)).alloc (.cells #[.int .i64 d.op, .int .i64 d.n, .string (strB d.s), .slice la d.l.length lc] 65)) (.slice la d.l.length lc) d.l := Ownv.mono (Ownv.kept ol kb) hk.size
      go_wp2_with (at_builtin; refine go_app_node w.heap.size _ (ds.take j) (by rfl) o2 _ d (.slice la d.l.length lc) (by rfl) bb l2 htl hB ?_; intro v3 w3 o3 t3 hloc3)
      go_roundw
      case rel =>
        refine ⟨j + 1, hlt, by go_num, by rw [HTK.out]; exact o3, ?_⟩
        exact Turn.keptOf ((hk.trans k2).trans kb) t3 (fun b hb => by
          obtain ⟨lvs, h1, h2, h3⟩ := HO.out
          exact (Ownv.lt h2 hb).2)
      case measure => simp [intOf]; omega
    · obtain rfl : j = ds.length := by omega
      rw [List.take_length] at ho
      go_wp2
      go_ret
      exact ⟨_, rfl, ho, hk⟩


theorem OwnNs.rdN {B : Nat} {w : World} {v : Value} {ds : List Nd} {F : Nat → Prop} (h : OwnNs B w v ds) (hF : ∀ b, F b → w.heap.size ≤ b) : ∀ W, Kept w W → RdNsU F W v ds := by
  intro W kk
  obtain ⟨lvs, h1, h2, h3⟩ := h
  refine ⟨lvs, h1, fun W' t => ⟨(Ownv.turn (Ownv.kept h2 kk) t fun b hb hf => by have := (Ownv.lt h2 hb).1; have := hF b hf; omega).rdv, fun i hi => (Ownv.turn (Ownv.kept (h3 i hi).1 kk) t fun b hb hf => by have := (Ownv.lt (h3 i hi).1 hb).1; have := hF b hf; omega).rdv⟩⟩
set_option maxHeartbeats 8000000 in
set_option maxRecDepth 100000 in
theorem same12_no (w : World) (p q : Addr) (y : Int) : Calls Tryd.prog 14 #[.pointer (some p), .pointer (some q), .int .i64 0, .int .i64 1, .int .i64 y, .int .i64 1] w fun e w' => e = .returned (.bool true) ∧ Kept w w' := by
  go_enter Tryd.func14, Tryd.ntmps14
  go_wp2
  go_ret
  exact ⟨rfl, Kept.refl w⟩
set_option maxHeartbeats 8000000 in
set_option maxRecDepth 100000 in
theorem same12_ok {F G : Nat → Prop} {w : World} {p q : Value} {ds es : List Nd} {T : Tr} {x y : Int} (ha : Ar F w p ds) (hr : ArR G w q es) (hx : Den T ds x) (hy : Den T es y) :
    Calls Tryd.prog 14 #[p, q, .int .i64 x, .int .i64 0, .int .i64 y, .int .i64 0] w fun e w' => e = .returned (.bool true) ∧ Kept w w' := by
  have HD := Lib.hid (dump12_any ha)
  have HB := Lib.hid (fun W lv (k : Kept w W) (hl : RdNsU (fun b => b = W.heap.size) (W.alloc (.map #[] 0)) lv ds) => bisD (mb := W.heap.size) (ArG.kept hr (k.trans ((Kept.refl W).alloc (.map #[] 0)))) ha.good ha.few (fun g => by have := hr.lt _ g; have := k.size; omega) hl (met_new W es ds) hx hy)
  obtain ⟨pb, pm, nv, rfl, _, _, _⟩ := ArG.nodes ha
  obtain ⟨qb, qm, nv', rfl, _, _, _⟩ := ArG.nodes hr
  have hmm := @run_makeMap Tryd.prog
  clear ha hr hx hy
  go_enter Tryd.func14, Tryd.ntmps14
  go_wp2_with fail
  (with_reducible refine HD.out.mono ?_); rintro e w1 ⟨lv, rfl, ol, k1⟩
  have HB1 := Lib.hid (HB.out w1 lv k1 (ol.rdN (fun b hb => Nat.le_of_eq hb.symm) _ ((Kept.refl w1).alloc (.map #[] 0))))
  have kk := k1.alloc (.map #[] 0)
  have hkk := Shut.mk (show ∀ W, Turn (fun b => b = w1.heap.size) (w1.alloc (.map #[] 0)) W → Kept w W from fun W t => Turn.keptOf kk t (fun b hb => by rw [hb]; exact k1.size))
  clear HB HD ol k1 kk
  go_wp2_with fail
  (with_reducible refine HB1.out.mono ?_); rintro e w2 ⟨rfl, t2, _⟩
  go_wp2
  go_ret
  exact ⟨rfl, hkk.out _ t2⟩
/-- As PAny; an error comes with no term. -/
def PA (w0 : World) (S : Nat → Prop) (w : World) (p : Value) (ds : List Nd) (n : Nat) (b : Bool) (Q : List Nd → Int → Prop) (e : Ending) (w' : World) : Prop :=
  ∃ (r : List Nd) (t : Int), e = .returned (.tuple #[.int .i64 t, .int .i64 (eB b)]) ∧ At w0 S w' p (ds ++ r) ∧ r.length ≤ n ∧ (b = true → Q (ds ++ r) t) ∧ (b = false → t = 0) ∧ Keep S w w'
theorem same12_any {F G : Nat → Prop} {w : World} {p q : Value} {ds es : List Nd} {T : Tr} {x y : Int} {b : Bool} (ha : Ar F w p ds) (hr : ArR G w q es) (hx : b = true → Den T ds x) (h0 : b = false → x = 0) (hy : b = true → Den T es y) :
    Calls Tryd.prog 14 #[p, q, .int .i64 x, .int .i64 (eB b), .int .i64 y, .int .i64 (eB b)] w fun e w' => e = .returned (.bool true) ∧ Kept w w' := by
  cases b with
  | true => exact same12_ok ha hr (hx rfl) (hy rfl)
  | false =>
    obtain ⟨pb, pm, nv, rfl, _, _, _⟩ := ArG.nodes ha
    obtain ⟨qb, qm, nv', rfl, _, _, _⟩ := ArG.nodes hr
    rw [h0 rfl]
    exact same12_no w _ _ y
end Go.Proofs.YtdjfdobcjakmhaaDoor
end

section
/- The document's Confirmed, Tag, Interim, Context over ten Atoms: whether they are terms or not. -/
set_option linter.unusedSimpArgs false
set_option linter.unusedVariables false
namespace Go.Proofs.YtdjfdobcjakmhaaDoor
open Go.RowKit Go.Maps

theorem RAny.of_ok {w0 : World} {S : Nat → Prop} {w : World} {p : Value} {ds : List Nd} {n : Nat} {Q : List Nd → Int → Prop} {e : Ending} {w' : World} (h : RMk w0 S w p ds n Q e w') : RAny w0 S w p ds n true Q e w' := by
  obtain ⟨r, t, he, ha, hl, hq, hk⟩ := h
  exact ⟨r, t, he, ha, hl, fun _ => hq, hk⟩
theorem RAny.of_no {w0 : World} {S : Nat → Prop} {w : World} {p : Value} {ds : List Nd} {n m : Nat} {Q : List Nd → Int → Prop} {e : Ending} {w' : World} (h : RNo w0 S w p ds m e w') (hm : m ≤ n) : RAny w0 S w p ds n false Q e w' := by
  obtain ⟨r, he, ha, hl, hk⟩ := h
  exact ⟨r, 0, he, ha, by omega, (fun h => by cases h), hk⟩
abbrev QC (i c g : Int) : List Nd → Int → Prop := Den (confT (atomT i) (atomT c) (atomT g))
abbrev QI (c t : Int) : List Nd → Int → Prop := Den (intT (atomT c) (atomT t))
abbrev QT (k c : Int) : List Nd → Int → Prop := Den (macT (atomT k) (atomT c))
abbrev QX (i n t c z : Int) : List Nd → Int → Prop := Den (ctxT (atomT i) (textT (Lib.itoa n)) (atomT t) (atomT c) (atomT z))
theorem tBd {l : List Int} {x : Int} {r : List Nd} (h : tB l = true) (hx : x ∈ l) : Den (atomT x) (atomsL 10 ++ r) x := (isT_atom good10 (tB_isT h hx)).more r
theorem near_no {l : List Int} {r : List Nd} (n : Near 10 l) (hr : r.length ≤ 1000) (hb : tB l = false) : termsB (atomsL 10 ++ r) l = false := (near_terms n (by rw [List.length_append, atomsL_len]; omega)).trans hb
theorem RConfirmed_any {w0 : World} {S : Nat → Prop} {w : World} {p : Value} {r : List Nd} {i c g : Int} (h : AtR w0 S w p (atomsL 10 ++ r)) (n : Near 10 [i, c, g]) (ii : I64 i) (ic : I64 c) (ig : I64 g) (hr : r.length ≤ 1000) :
    Calls Tryd.prog 13 #[p, .int .i64 i, .int .i64 c, .int .i64 g] w (RAny w0 S w p (atomsL 10 ++ r) 2 (tB [i, c, g]) (QC i c g)) := by
  cases hb : tB [i, c, g] with
  | true => exact (RConfirmed_ok h (tBd hb (by simp)) (tBd hb (by simp)) (tBd hb (by simp)) (by rw [List.length_append, atomsL_len]; omega)).mono fun e w' q => RAny.of_ok q
  | false => exact (RConfirmed_no h ii ic ig (near_no n hr hb)).mono fun e w' q => RAny.of_no q (Nat.zero_le _)
theorem RInterim_any {w0 : World} {S : Nat → Prop} {w : World} {p : Value} {r : List Nd} {c t : Int} (h : AtR w0 S w p (atomsL 10 ++ r)) (n : Near 10 [c, t]) (ic : I64 c) (it : I64 t) (hr : r.length ≤ 1000) :
    Calls Tryd.prog 18 #[p, .int .i64 c, .int .i64 t] w (RAny w0 S w p (atomsL 10 ++ r) 2 (tB [c, t]) (QI c t)) := by
  cases hb : tB [c, t] with
  | true => exact (RInterim_ok h (tBd hb (by simp)) (tBd hb (by simp)) (by rw [List.length_append, atomsL_len]; omega)).mono fun e w' q => RAny.of_ok q
  | false => exact (RInterim_no h ic it (near_no n hr hb)).mono fun e w' q => RAny.of_no q (Nat.zero_le _)
theorem RTag_any {w0 : World} {S : Nat → Prop} {w : World} {p : Value} {r : List Nd} {k c : Int} (h : AtR w0 S w p (atomsL 10 ++ r)) (n : Near 10 [k, c]) (ik : I64 k) (ic : I64 c) (hr : r.length ≤ 1000) :
    Calls Tryd.prog 16 #[p, .int .i64 k, .int .i64 c] w (RAny w0 S w p (atomsL 10 ++ r) 2 (tB [k, c]) (QT k c)) := by
  cases hb : tB [k, c] with
  | true => exact (RTag_ok h (tBd hb (by simp)) (tBd hb (by simp)) (by rw [List.length_append, atomsL_len]; omega)).mono fun e w' q => RAny.of_ok q
  | false => exact (RTag_no h ik ic (near_no n hr hb)).mono fun e w' q => RAny.of_no q (Nat.zero_le _)
theorem RContext_any {w0 : World} {S : Nat → Prop} {w : World} {q : Nat} {r : List Nd} {i n t c z : Int} (h : AtR w0 S w (.pointer (some ⟨q, 0, none⟩)) (atomsL 10 ++ r)) (nr : Near 10 [i, t, c, z]) (jn : I64 n) (ii : I64 i) (it : I64 t) (ic : I64 c) (iz : I64 z) (hr : r.length ≤ 500) :
    Calls Tryd.prog 20 #[.pointer (some ⟨q, 0, none⟩), .int .i64 i, .int .i64 n, .int .i64 t, .int .i64 c, .int .i64 z] w (RAny w0 S w (.pointer (some ⟨q, 0, none⟩)) (atomsL 10 ++ r) 3 (decide (0 ≤ n) && tB [i, t, c, z]) (QX i n t c z)) := by
  by_cases hn : 0 ≤ n
  · rw [decide_eq_true hn, Bool.true_and]
    cases hb : tB [i, t, c, z] with
    | true => exact (RContext_ok h hn jn.2 (tBd hb (by simp)) (tBd hb (by simp)) (tBd hb (by simp)) (tBd hb (by simp)) (by rw [List.length_append, atomsL_len]; omega)).mono fun e w' q => RAny.of_ok q
    | false => exact (RContext_no h hn jn.2 ii it ic iz (fun s hs => by rw [List.append_assoc] at hs ⊢; exact (near_terms nr (Nat.le_of_lt hs)).trans hb) (by rw [List.length_append, atomsL_len]; omega)).mono fun e w' q => RAny.of_no q (by decide)
  · rw [decide_eq_false hn, Bool.false_and]
    refine (RContext_neg (by omega)).mono ?_
    rintro e w' ⟨rfl, rfl⟩
    exact ⟨[], 0, rfl, by rw [List.append_nil]; exact h, Nat.zero_le _, (fun h => by cases h), (Kept.refl w).keep S⟩
end Go.Proofs.YtdjfdobcjakmhaaDoor
end

section
/- The program's transcript: hash, Confirmed, Interim, Tag, Start. -/
set_option linter.unusedSimpArgs false
set_option linter.unusedVariables false
namespace Go.Proofs.YtdjfdobcjakmhaaDoor
open Go.RowKit Go.Maps

theorem PNo.of {w0 : World} {S : Nat → Prop} {w : World} {p : Value} {ds : List Nd} {n : Nat} {m : List Nd × Int × Int} (hm : ∃ r, m = (ds ++ r, 0, 1) ∧ r.length ≤ n) {e : Ending} {w' : World} (h : MkPost w0 S w p m e w') : PNo w0 S w p ds n e w' := by
  obtain ⟨r, rfl, hr⟩ := hm
  obtain ⟨he, ha, hk⟩ := h
  exact ⟨r, he, ha, hr, hk⟩
theorem pall_ok {w0 : World} {S : Nat → Prop} {w : World} {p v : Value} {ds : List Nd} {l : List Int} {L : List Tr} (h : At w0 S w p ds) (hr : RdI w v l) (h64 : l.length ≤ 64) (hL : DenL L ds l) (hl : ds.length < 100000) :
    Calls Tryd.prog 46 #[p, v] w (PMk w0 S w p ds 1 (Den (listT L))) :=
  (allA h hr (fun x hx => (hL.1 x hx).i64' (by omega))).mono fun _ _ q => PMk.of (by
    obtain ⟨r, t, h1, hr, i1⟩ := mk_is (may_list ds h64 hL.1) hl
    exact ⟨r, t, h1, hr, fun hg => den_list hg i1 (hL.more r)⟩) q
theorem pall_no {w0 : World} {S : Nat → Prop} {w : World} {p v : Value} {ds : List Nd} {l : List Int} (h : At w0 S w p ds) (hr : RdI w v l) (hok : ∀ x ∈ l, I64 x) (hb : termsB ds l = false) :
    Calls Tryd.prog 46 #[p, v] w (PNo w0 S w p ds 0) :=
  (allA h hr hok).mono fun _ _ q => PNo.of ⟨[], by rw [List.append_nil]; exact mk_bad (fun h => not_terms hb (fun x hx => h.all x hx)), Nat.le_refl _⟩ q
theorem phmake_ok {w0 : World} {S : Nat → Prop} {w : World} {p v : Value} {ds : List Nd} {a : Int} {A : Tr} (h : At w0 S w p ds) (hr : RdI w v [a]) (ha : Den A ds a) (hl : ds.length < 100000) :
    Calls Tryd.prog 36 #[p, .agg #[.int .i64 4, .int .i64 0, .string ⟨#[]⟩, v]] w (PMk w0 S w p ds 1 (Den (hashT A))) :=
  (makeA h (v := .agg #[.int .i64 4, .int .i64 0, .string ⟨#[]⟩, v]) (d := ⟨4, 0, [], [a]⟩) ⟨_, rfl, hr⟩ ⟨i64_lit (by simp), i64_lit (by simp), by simp, fun x hx => by rw [List.mem_singleton.1 hx]; exact ha.1.i64' (by omega)⟩).mono fun _ _ q => PMk.of (by
    obtain ⟨r, t, h1, hr, i1⟩ := mk_is (may1 (.inl rfl) ha.1) hl
    exact ⟨r, t, h1, hr, fun hg => den_hash hg i1 (ha.more r)⟩) q
set_option maxHeartbeats 4000000 in
set_option maxRecDepth 100000 in
theorem phash_ok {w0 : World} {S : Nat → Prop} {w : World} {p v : Value} {ds : List Nd} {l : List Int} {L : List Tr} (h : At w0 S w p ds) (hr : RdI w v l) (h64 : l.length ≤ 64) (hL : DenL L ds l) (hl : ds.length + 1 < 100000) :
    Calls Tryd.prog 38 #[p, v] w (PMk w0 S w p ds 2 (Den (hashLT L))) := by
  have HL := Lib.hid (pall_ok h hr h64 hL (by omega))
  have HO := Lib.hid (fun W (r : List Nd) (t : Int) (a : At w0 S W p (ds ++ r)) (hr : r.length ≤ 1) (d : Den (listT L) (ds ++ r) t) => phmake_ok (a.step ((Kept.refl W).alloc (.cells #[.int .i64 t] 3))) (RdI.sl1 W t) d (by rw [List.length_append]; omega))
  obtain ⟨pb, rfl⟩ := h.ptr
  obtain ⟨va, vc, rfl, _, _, _⟩ := hr.len
  clear h hr h64 hL
  go_enter Tryd.func38, Tryd.ntmps38
  go_wp2_with fail
  (with_reducible refine HL.out.mono ?_); rintro e w2 ⟨r2, t2, rfl, a2, hr2, d2, k2⟩
  have HX := Lib.hid (HO.out w2 r2 t2 a2 hr2 d2)
  have ks : Kept w2 (w2.alloc (.cells #[.int .i64 t2] 3)) := (Kept.refl w2).alloc _
  clear HO HL a2 d2
  go_wp2_with fail
  generalize w2.alloc (.cells #[.int .i64 t2] 3) = w2' at *
  (with_reducible refine HX.out.mono ?_); rintro e w3 ⟨r3, t3, rfl, a3, hr3, d3, k3⟩
  go_wp2
  go_ret2
  exact ⟨r2 ++ r3, t3, rfl, by rw [← List.append_assoc]; exact a3, by rw [List.length_append]; omega, by rw [← List.append_assoc]; exact d3, (k2.trans (ks.keep S)).trans k3⟩
set_option maxHeartbeats 4000000 in
set_option maxRecDepth 100000 in
theorem phash_no {w0 : World} {S : Nat → Prop} {w : World} {p v : Value} {ds : List Nd} {l : List Int} (h : At w0 S w p ds) (hr : RdI w v l) (hok : ∀ x ∈ l, I64 x) (hb : termsB ds l = false) :
    Calls Tryd.prog 38 #[p, v] w (PNo w0 S w p ds 0) := by
  have HL := Lib.hid (pall_no h hr hok hb)
  obtain ⟨pb, rfl⟩ := h.ptr
  obtain ⟨va, vc, rfl, _, _, _⟩ := hr.len
  clear h hr hok hb
  go_enter Tryd.func38, Tryd.ntmps38
  go_wp2_with fail
  (with_reducible refine HL.out.mono ?_); rintro e w2 ⟨r2, rfl, a2, hr2, k2⟩
  go_wp2
  go_ret2
  exact ⟨r2, rfl, a2, hr2, k2⟩
set_option maxHeartbeats 4000000 in
set_option maxRecDepth 100000 in
theorem PConfirmed_ok {w0 : World} {S : Nat → Prop} {w : World} {p : Value} {ds : List Nd} {i c g : Int} {I C G : Tr} (h : At w0 S w p ds) (hi : Den I ds i) (hc : Den C ds c) (hg : Den G ds g) (hl : ds.length + 2 < 100000) :
    Calls Tryd.prog 12 #[p, .int .i64 i, .int .i64 c, .int .i64 g] w (PMk w0 S w p ds 2 (Den (confT I C G))) := by
  have k1 : Kept w (w.alloc (.cells #[.int .i64 i, .int .i64 c, .int .i64 g] 3)) := (Kept.refl w).alloc _
  have HM := Lib.hid (phash_ok (h.step k1) (RdI.sl3 w i c g) (by simp) (DenL.cons hi (DenL.cons hc (DenL.cons hg (DenL.nil _)))) (by omega))
  obtain ⟨pb, rfl⟩ := h.ptr
  clear h hi hc hg
  go_enter Tryd.func12, Tryd.ntmps12
  go_wp2_with fail
  generalize w.alloc (.cells #[.int .i64 i, .int .i64 c, .int .i64 g] 3) = w1 at *
  (with_reducible refine HM.out.mono ?_); rintro e w2 ⟨r2, t2, rfl, a2, hr2, d2, k2⟩
  go_wp2
  go_ret2
  exact ⟨r2, t2, rfl, a2, by omega, d2, (k1.keep S).trans k2⟩
set_option maxHeartbeats 4000000 in
set_option maxRecDepth 100000 in
theorem PConfirmed_no {w0 : World} {S : Nat → Prop} {w : World} {p : Value} {ds : List Nd} {i c g : Int} (h : At w0 S w p ds) (ii : I64 i) (ic : I64 c) (ig : I64 g) (hb : termsB ds [i, c, g] = false) :
    Calls Tryd.prog 12 #[p, .int .i64 i, .int .i64 c, .int .i64 g] w (PNo w0 S w p ds 0) := by
  have k1 : Kept w (w.alloc (.cells #[.int .i64 i, .int .i64 c, .int .i64 g] 3)) := (Kept.refl w).alloc _
  have HM := Lib.hid (phash_no (h.step k1) (RdI.sl3 w i c g) (fun x hx => by
    simp only [List.mem_cons, List.not_mem_nil, or_false] at hx
    rcases hx with rfl | rfl | rfl <;> assumption) hb)
  obtain ⟨pb, rfl⟩ := h.ptr
  clear h hb
  go_enter Tryd.func12, Tryd.ntmps12
  go_wp2_with fail
  generalize w.alloc (.cells #[.int .i64 i, .int .i64 c, .int .i64 g] 3) = w1 at *
  (with_reducible refine HM.out.mono ?_); rintro e w2 ⟨r2, rfl, a2, hr2, k2⟩
  go_wp2
  go_ret2
  exact ⟨r2, rfl, a2, hr2, (k1.keep S).trans k2⟩
set_option maxHeartbeats 4000000 in
set_option maxRecDepth 100000 in
theorem PInterim_ok {w0 : World} {S : Nat → Prop} {w : World} {p : Value} {ds : List Nd} {c t : Int} {C T : Tr} (h : At w0 S w p ds) (hc : Den C ds c) (ht : Den T ds t) (hl : ds.length + 2 < 100000) :
    Calls Tryd.prog 17 #[p, .int .i64 c, .int .i64 t] w (PMk w0 S w p ds 2 (Den (intT C T))) := by
  have k1 : Kept w (w.alloc (.cells #[.int .i64 c, .int .i64 t] 3)) := (Kept.refl w).alloc _
  have HM := Lib.hid (phash_ok (h.step k1) (RdI.sl2 w c t) (by simp) (DenL.cons hc (DenL.cons ht (DenL.nil _))) (by omega))
  obtain ⟨pb, rfl⟩ := h.ptr
  clear h hc ht
  go_enter Tryd.func17, Tryd.ntmps17
  go_wp2_with fail
  generalize w.alloc (.cells #[.int .i64 c, .int .i64 t] 3) = w1 at *
  (with_reducible refine HM.out.mono ?_); rintro e w2 ⟨r2, t2, rfl, a2, hr2, d2, k2⟩
  go_wp2
  go_ret2
  exact ⟨r2, t2, rfl, a2, by omega, d2, (k1.keep S).trans k2⟩
set_option maxHeartbeats 4000000 in
set_option maxRecDepth 100000 in
theorem PInterim_no {w0 : World} {S : Nat → Prop} {w : World} {p : Value} {ds : List Nd} {c t : Int} (h : At w0 S w p ds) (ic : I64 c) (it : I64 t) (hb : termsB ds [c, t] = false) :
    Calls Tryd.prog 17 #[p, .int .i64 c, .int .i64 t] w (PNo w0 S w p ds 0) := by
  have k1 : Kept w (w.alloc (.cells #[.int .i64 c, .int .i64 t] 3)) := (Kept.refl w).alloc _
  have HM := Lib.hid (phash_no (h.step k1) (RdI.sl2 w c t) (fun x hx => by
    simp only [List.mem_cons, List.not_mem_nil, or_false] at hx
    rcases hx with rfl | rfl <;> assumption) hb)
  obtain ⟨pb, rfl⟩ := h.ptr
  clear h hb
  go_enter Tryd.func17, Tryd.ntmps17
  go_wp2_with fail
  generalize w.alloc (.cells #[.int .i64 c, .int .i64 t] 3) = w1 at *
  (with_reducible refine HM.out.mono ?_); rintro e w2 ⟨r2, rfl, a2, hr2, k2⟩
  go_wp2
  go_ret2
  exact ⟨r2, rfl, a2, hr2, (k1.keep S).trans k2⟩
theorem pctag_ok {w0 : World} {S : Nat → Prop} {w : World} {p : Value} {ds : List Nd} {k c : Int} {K C : Tr} (h : At w0 S w p ds) (hk : Den K ds k) (hc : Den C ds c) (hl : ds.length < 100000) :
    Calls Tryd.prog 42 #[p, .int .i64 k, .int .i64 c] w (PMk w0 S w p ds 1 (Den (macT K C))) :=
  (tagA h (hk.1.i64' (by omega)) (hc.1.i64' (by omega))).mono fun _ _ q => PMk.of (by
    obtain ⟨r, t, h1, hr, i1⟩ := mk_is (may2 (op := 11) (.inr (.inr (.inl rfl))) hk.1 hc.1) hl
    exact ⟨r, t, h1, hr, fun hg => den_mac hg i1 (hk.more r) (hc.more r)⟩) q
theorem pctag_no {w0 : World} {S : Nat → Prop} {w : World} {p : Value} {ds : List Nd} {k c : Int} (h : At w0 S w p ds) (ik : I64 k) (ic : I64 c) (hb : termsB ds [k, c] = false) :
    Calls Tryd.prog 42 #[p, .int .i64 k, .int .i64 c] w (PNo w0 S w p ds 0) :=
  (tagA h ik ic).mono fun _ _ q => PNo.of ⟨[], by rw [List.append_nil]; exact mk_bad (fun h => not_terms hb (fun x hx => h.all x hx)), Nat.le_refl _⟩ q
set_option maxHeartbeats 4000000 in
set_option maxRecDepth 100000 in
theorem PTag_ok {w0 : World} {S : Nat → Prop} {w : World} {p : Value} {ds : List Nd} {k c : Int} {K C : Tr} (h : At w0 S w p ds) (hk : Den K ds k) (hc : Den C ds c) (hl : ds.length < 100000) :
    Calls Tryd.prog 15 #[p, .int .i64 k, .int .i64 c] w (PMk w0 S w p ds 1 (Den (macT K C))) := by
  have HM := Lib.hid (pctag_ok h hk hc hl)
  obtain ⟨pb, rfl⟩ := h.ptr
  clear h hk hc
  go_enter Tryd.func15, Tryd.ntmps15
  go_wp2_with fail
  (with_reducible refine HM.out.mono ?_); rintro e w2 ⟨r2, t2, rfl, a2, hr2, d2, k2⟩
  go_wp2
  go_ret2
  exact ⟨r2, t2, rfl, a2, hr2, d2, k2⟩
set_option maxHeartbeats 4000000 in
set_option maxRecDepth 100000 in
theorem PTag_no {w0 : World} {S : Nat → Prop} {w : World} {p : Value} {ds : List Nd} {k c : Int} (h : At w0 S w p ds) (ik : I64 k) (ic : I64 c) (hb : termsB ds [k, c] = false) :
    Calls Tryd.prog 15 #[p, .int .i64 k, .int .i64 c] w (PNo w0 S w p ds 0) := by
  have HM := Lib.hid (pctag_no h ik ic hb)
  obtain ⟨pb, rfl⟩ := h.ptr
  clear h hb
  go_enter Tryd.func15, Tryd.ntmps15
  go_wp2_with fail
  (with_reducible refine HM.out.mono ?_); rintro e w2 ⟨r2, rfl, a2, hr2, k2⟩
  go_wp2
  go_ret2
  exact ⟨r2, rfl, a2, hr2, k2⟩
set_option maxHeartbeats 4000000 in
set_option maxRecDepth 100000 in
theorem PStart_ok {w0 : World} {S : Nat → Prop} {w : World} {p : Value} {ds : List Nd} (h : At w0 S w p ds) (hl : ds.length < 100000) :
    Calls Tryd.prog 21 #[p] w (PMk w0 S w p ds 1 (Den (textT []))) := by
  have HM := Lib.hid (ptext_ok h [] (by simp) hl)
  rw [show strB [] = ⟨#[]⟩ from rfl] at HM
  obtain ⟨pb, rfl⟩ := h.ptr
  clear h
  go_enter Tryd.func21, Tryd.ntmps21
  go_wp2_with fail
  (with_reducible refine HM.out.mono ?_); rintro e w2 ⟨r2, t2, rfl, a2, hr2, d2, k2⟩
  go_wp2
  go_ret2
  exact ⟨r2, t2, rfl, a2, hr2, d2, k2⟩
end Go.Proofs.YtdjfdobcjakmhaaDoor
end

section
/- The program's transcript: terms, Context. -/
set_option linter.unusedSimpArgs false
set_option linter.unusedVariables false
namespace Go.Proofs.YtdjfdobcjakmhaaDoor
open Go.RowKit Go.Maps

set_option maxHeartbeats 4000000 in
set_option maxRecDepth 100000 in
theorem tterms_any {w0 : World} {S : Nat → Prop} {w : World} {p : Value} {ds : List Nd} (ha : At w0 S w p ds) {v : Value} {l : List Int} (hd : RdI w v l) :
    Calls Tryd.prog 44 #[p, v] w fun e w' => e = .returned (.bool (termsB ds l)) ∧ w = w' := by
  obtain ⟨F, h, _⟩ := ha.ar
  have hfew := ha.few
  clear ha
  obtain ⟨la, lc, rfl, l1, l2, l3⟩ := hd.len
  have l63 : ((l.length : Nat) : Int) ≤ 9223372036854775807 := by unfold maxLen at l2; omega
  go_enter Tryd.func44, Tryd.ntmps44
  go_wp2
  go_loop [9] (fun i => ∃ k : Nat, (k ≤ l.length ∧ ∀ j, j < k → IsT ds (l.getD j 0)) ∧ i = .int .i64 k) (fun i => l.length - (intOf i).toNat)
  case atStart => exact ⟨0, ⟨Nat.zero_le _, fun j hj => absurd hj (Nat.not_lt_zero _)⟩, rfl⟩
  case round =>
    obtain ⟨k, ⟨hk0, hall⟩, rfl⟩ := hrel
    have HALL := Shut.mk hall
    clear hall
    by_cases hlt : k < l.length
    · obtain ⟨rb, ro, rc, hrv, _, _, hrb, hcell⟩ := hd.addr (by omega)
      simp only [Value.slice.injEq] at hrv
      obtain ⟨rfl, hdrop, rfl⟩ := hrv
      clear hdrop
      have x1 := hcell k hlt
      clear hcell
      generalize hx : l.getD k 0 = x at x1
      have HX := Shut.mk hx
      clear hx
      by_cases hT : 0 ≤ x ∧ x < (ds.length : Int)
      · have t0 := hT.1
        have t1 := hT.2
        have b0 : decide (x < 0) = false := decide_eq_false (by omega)
        have b1 : decide (x ≥ (ds.length : Int)) = false := decide_eq_false (by omega)
        have b2 : decide ((ds.length : Int) ≤ x) = false := decide_eq_false (by omega)
        have HT := Shut.mk hT
        clear hT
        go_wp2_with (go_at_call 29; refine (arg_len h).mono ?_; rintro e w' ⟨rfl, rfl⟩)
        go_round
        case rel => exact ⟨k + 1, ⟨hlt, fun j hj => by
          by_cases c : j < k
          · exact HALL.out j c
          · obtain rfl : j = k := by omega
            rw [HX.out]; exact HT.out⟩, rfl⟩
        case measure => simp [intOf]; omega
      · have HF := Shut.mk (terms_not hlt (by rw [HX.out]; exact hT))
        by_cases t0 : x < 0
        · clear hT
          go_wp2_with (go_at_call 29; refine (arg_len h).mono ?_; rintro e w' ⟨rfl, rfl⟩)
          go_ret
          exact ⟨by rw [HF.out]; rfl, rfl⟩
        · have t1 : (ds.length : Int) ≤ x := by omega
          have b0 : decide (x < 0) = false := decide_eq_false t0
          have b1 : decide (x ≥ (ds.length : Int)) = true := decide_eq_true t1
          have b2 : decide ((ds.length : Int) ≤ x) = true := decide_eq_true t1
          clear hT
          go_wp2_with (go_at_call 29; refine (arg_len h).mono ?_; rintro e w' ⟨rfl, rfl⟩)
          go_ret
          exact ⟨by rw [HF.out]; rfl, rfl⟩
    · obtain rfl : k = l.length := by omega
      have HT := Shut.mk (terms_take HALL.out)
      go_wp2
      go_ret
      exact ⟨by rw [HT.out]; rfl, rfl⟩

set_option maxHeartbeats 4000000 in
set_option maxRecDepth 100000 in
theorem PContext_neg {w0 : World} {S : Nat → Prop} {w : World} {p : Value} {ds : List Nd} {i n t c z : Int} (h : At w0 S w p ds) (hn : n < 0) :
    Calls Tryd.prog 19 #[p, .int .i64 i, .int .i64 n, .int .i64 t, .int .i64 c, .int .i64 z] w (PNo w0 S w p ds 0) := by
  have HA := Shut.mk h
  obtain ⟨pb, rfl⟩ := h.ptr
  have hb : decide (n < 0) = true := decide_eq_true hn
  clear h
  go_enter Tryd.func19, Tryd.ntmps19
  go_wp2
  go_ret2
  exact ⟨[], rfl, by rw [List.append_nil]; exact HA.out, Nat.le_refl _, Keep.refl S _⟩
set_option maxHeartbeats 4000000 in
set_option maxRecDepth 100000 in
theorem PContext_no {w0 : World} {S : Nat → Prop} {w : World} {p : Value} {ds : List Nd} {i n t c z : Int} (h : At w0 S w p ds) (hn : 0 ≤ n) (hb : termsB ds [i, t, c, z] = false) :
    Calls Tryd.prog 19 #[p, .int .i64 i, .int .i64 n, .int .i64 t, .int .i64 c, .int .i64 z] w (PNo w0 S w p ds 0) := by
  have k1 : Kept w (w.alloc (.cells #[.int .i64 i, .int .i64 t, .int .i64 c, .int .i64 z] 3)) := (Kept.refl w).alloc _
  have HT := Lib.hid (tterms_any (h.step k1) (RdI.sl4 w i t c z))
  rw [hb] at HT
  have HA := Shut.mk (h.step k1)
  obtain ⟨pb, rfl⟩ := h.ptr
  have b1 : decide (n < 0) = false := decide_eq_false (by omega)
  clear h hb
  go_enter Tryd.func19, Tryd.ntmps19
  go_wp2_with fail
  generalize w.alloc (.cells #[.int .i64 i, .int .i64 t, .int .i64 c, .int .i64 z] 3) = w1 at *
  (with_reducible refine HT.out.mono ?_); rintro e w2 ⟨rfl, rfl⟩
  go_wp2
  go_ret2
  exact ⟨[], rfl, by rw [List.append_nil]; exact HA.out, Nat.le_refl _, k1.keep S⟩
set_option maxHeartbeats 8000000 in
set_option maxRecDepth 100000 in
theorem PContext_ok {w0 : World} {S : Nat → Prop} {w : World} {p : Value} {ds : List Nd} {i n t c z : Int} {I T C E : Tr} (h : At w0 S w p ds) (hn : 0 ≤ n) (h64 : n ≤ 9223372036854775807) (hi : Den I ds i) (ht : Den T ds t) (hc : Den C ds c) (he : Den E ds z) (hl : ds.length + 3 < 100000) :
    Calls Tryd.prog 19 #[p, .int .i64 i, .int .i64 n, .int .i64 t, .int .i64 c, .int .i64 z] w (PMk w0 S w p ds 3 (Den (ctxT I (textT (Lib.itoa n)) T C E))) := by
  have k1 : Kept w (w.alloc (.cells #[.int .i64 i, .int .i64 t, .int .i64 c, .int .i64 z] 3)) := (Kept.refl w).alloc _
  have HT := Lib.hid (tterms_any (h.step k1) (RdI.sl4 w i t c z))
  rw [show termsB ds [i, t, c, z] = true from terms_of (fun x hx => by
    simp only [List.mem_cons, List.not_mem_nil, or_false] at hx
    rcases hx with rfl | rfl | rfl | rfl
    · exact hi.1
    · exact ht.1
    · exact hc.1
    · exact he.1)] at HT
  have HG := Lib.hid (ptext_ok (h.step k1) groupS (by decide) (by omega))
  rw [show strB groupS = ⟨#[103, 114, 111, 117, 112]⟩ from rfl] at HG
  have HDg := Lib.hid (fun W (hw : Tabs W) => itoa_any n ⟨by omega, h64⟩ W hw.pow)
  have HX := Lib.hid (fun W (r : List Nd) (a : At w0 S W p (ds ++ r)) (hr : r.length ≤ 1) => ptext_ok a (Lib.itoa n) (by have := itoaN_len hn h64; omega) (by rw [List.length_append]; omega))
  have HL := Lib.hid (fun W (r s : List Nd) (g x : Int) (a : At w0 S W p (ds ++ r ++ s)) (hr : r.length ≤ 1) (hs : s.length ≤ 1) (dg : Den (textT groupS) (ds ++ r ++ s) g) (dx : Den (textT (Lib.itoa n)) (ds ++ r ++ s) x) => pall_ok (a.step ((Kept.refl W).alloc (.cells #[.int .i64 g, .int .i64 i, .int .i64 x, .int .i64 t, .int .i64 c, .int .i64 z] 3))) (RdI.sl6 W g i x t c z) (by simp) (DenL.cons dg (DenL.cons ((hi.more r).more s) (DenL.cons dx (DenL.cons ((ht.more r).more s) (DenL.cons ((hc.more r).more s) (DenL.cons ((he.more r).more s) (DenL.nil _))))))) (by simp only [List.length_append]; omega))
  obtain ⟨pb, rfl⟩ := h.ptr
  have b1 : decide (n < 0) = false := decide_eq_false (by omega)
  generalize Lib.itoa n = D at *
  generalize strB D = Y at *
  clear h hi ht hc he h64
  go_enter Tryd.func19, Tryd.ntmps19
  go_wp2_with fail
  generalize w.alloc (.cells #[.int .i64 i, .int .i64 t, .int .i64 c, .int .i64 z] 3) = w1 at *
  (with_reducible refine HT.out.mono ?_); rintro e w1' ⟨rfl, rfl⟩
  clear HT
  go_wp2_with fail
  (with_reducible refine HG.out.mono ?_); rintro e w2 ⟨r2, t2, rfl, a2, hr2, d2, k2⟩
  have A2 := Lib.hid a2
  have D2 := Shut.mk d2
  have K2 := Lib.hid ((k1.keep S).trans k2)
  have HD2 := Lib.hid (HDg.out w2 a2.tabs)
  clear a2 d2 k2 HG k1 HDg
  go_wp2_with fail
  (with_reducible refine HD2.out.mono ?_); rintro e w3 ⟨rfl, k3⟩
  have HX2 := Lib.hid (HX.out _ r2 (A2.out.step k3) hr2)
  have K3 := Lib.hid (K2.out.trans (k3.keep S))
  clear HX HD2 A2 K2 k3
  go_wp2_with fail
  (with_reducible refine HX2.out.mono ?_); rintro e w4 ⟨r4, t4, rfl, a4, hr4, d4, k4⟩
  have HL2 := Lib.hid (HL.out w4 r2 r4 t2 t4 a4 hr2 hr4 (D2.out.more r4) d4)
  have ks : Kept w4 (w4.alloc (.cells #[.int .i64 t2, .int .i64 i, .int .i64 t4, .int .i64 t, .int .i64 c, .int .i64 z] 3)) := (Kept.refl w4).alloc _
  have K4 := Lib.hid ((K3.out.trans k4).trans (ks.keep S))
  clear HL HX2 a4 d4 k4 K3 ks
  go_wp2_with fail
  generalize w4.alloc (.cells #[.int .i64 t2, .int .i64 i, .int .i64 t4, .int .i64 t, .int .i64 c, .int .i64 z] 3) = w5 at *
  (with_reducible refine HL2.out.mono ?_); rintro e w6 ⟨r6, t6, rfl, a6, hr6, d6, k6⟩
  go_wp2
  go_ret2
  refine ⟨r2 ++ r4 ++ r6, t6, rfl, ?_, by simp only [List.length_append]; omega, ?_, K4.out.trans k6⟩
  · simp only [← List.append_assoc]; exact a6
  · simp only [← List.append_assoc]; exact d6
end Go.Proofs.YtdjfdobcjakmhaaDoor
end

section
/- What strconv.Atoi says of numerals (no program). -/
set_option linter.unusedSimpArgs false
set_option linter.unusedVariables false
namespace Go.Proofs.YtdjfdobcjakmhaaDoor
open Go.RowKit Go.Maps

theorem pu_dig : ∀ (l : List UInt8) (a : Nat), (∀ y ∈ l, isDig y = true) → (a + 1) * 10 ^ l.length ≤ 1000000000000000000 → Lib.parseUint10 a l = .ok (l.foldl (fun a c => a * 10 + (c.toNat - 48)) a) := by
  intro l
  induction l with
  | nil => intro a _ _; rfl
  | cons c l ih =>
    intro a h hl
    have hc := h c (List.mem_cons_self)
    unfold isDig at hc
    rw [Bool.and_eq_true] at hc
    have c1 := of_decide_eq_true hc.1
    have c2 := of_decide_eq_true hc.2
    have hp : 0 < 10 ^ l.length := Nat.pow_pos (by decide)
    rw [List.length_cons, Nat.pow_succ, Nat.mul_comm (10 ^ l.length) 10, ← Nat.mul_assoc] at hl
    have h10 : (a + 1) * 10 ≤ 1000000000000000000 := Nat.le_trans (Nat.le_mul_of_pos_right _ hp) hl
    rw [Lib.parseUint10, if_pos ⟨c1, c2⟩, if_neg (by omega), if_neg (by omega), List.foldl_cons]
    refine ih _ (fun y hy => h y (List.mem_cons_of_mem _ hy)) (Nat.le_trans (Nat.mul_le_mul_right _ ?_) hl)
    omega
theorem atoi_dd {m : Nat} (h : m < 1000000000) : Lib.atoiAll (Lib.decDigits m) = .ok (m : Int) := by
  have hl : (Lib.decDigits m).length ≤ 9 := dd_len_lt 8 m (by omega)
  have hd := dd_dig m
  have hv := dd_val m
  have hp := dd_pos m
  generalize Lib.decDigits m = l at *
  cases l with
  | nil => simp at hp
  | cons c r =>
    have hc := hd c (List.mem_cons_self)
    unfold isDig at hc
    rw [Bool.and_eq_true] at hc
    have c1 := of_decide_eq_true hc.1
    have c2 := of_decide_eq_true hc.2
    rw [Lib.atoiAll_plain c r (by omega) (by omega)]
    have h1 : Lib.parseMag (c :: r) = .ok m := by
      unfold Lib.parseMag
      rw [if_neg (by simp), pu_dig _ 0 hd]
      · unfold decVal at hv
        rw [hv]
      · have h2 : (10 : Nat) ^ (c :: r).length ≤ 10 ^ 9 := Nat.pow_le_pow_right (by decide) hl
        have h3 : (10 : Nat) ^ 9 = 1000000000 := by decide
        omega
    rw [h1]
    unfold Lib.signless
    simp only
    rw [if_neg (by omega)]
end Go.Proofs.YtdjfdobcjakmhaaDoor
end

section
/- The program's transcript: text, number. -/
set_option linter.unusedSimpArgs false
set_option linter.unusedVariables false
namespace Go.Proofs.YtdjfdobcjakmhaaDoor
open Go.RowKit Go.Maps

/-- What Atoi answers of a text. -/
def AtoiPost (w : World) (x : List UInt8) (e : Ending) (w' : World) : Prop :=
  Kept w w' ∧ ((∃ v : Int, I64 v ∧ Lib.atoiAll x = .ok v ∧ e = .returned (.tuple #[.int .i64 v, .nilIface])) ∨ (∃ (v : Int) (u : TypeId) (a : Addr), (∀ v', Lib.atoiAll x ≠ .ok v') ∧ e = .returned (.tuple #[.int .i64 v, .iface u (.pointer (some a))])))
theorem atoi_any {w : World} (x : List UInt8) (hx : x.length ≤ 1000) (hE : TabsE w) : Calls Tryd.prog 67 #[.string (strB x)] w (AtoiPost w x) := by
  have hs : (strB x).size ≤ 1000 := by rw [strB_size]; exact hx
  have hd : (strB x).data.toList = x := by unfold strB; simp
  cases h : Lib.atoiAll x
  · rename_i v
    refine (Tryd.strconv_Atoi_ok (strB x) (by omega) v (by rw [hd]; exact h) w).mono ?_
    rintro e w' ⟨rfl, hw⟩
    refine ⟨?_, .inl ⟨v, Lib.atoiAll_bounds h, h, rfl⟩⟩
    rcases hw with rfl | ⟨t, rfl⟩
    · exact Kept.refl _
    · exact Lib.bytesWorld_below _ _ _
  · obtain ⟨ev, hv, hev⟩ := hE.syn
    refine (Any.strconv_Atoi_syntax Tryd.laysC172 (strB x) (by omega) (by rw [hd]; exact h) ev w hv hev).mono ?_
    rintro e w' ⟨N, rfl, _, _, hb⟩
    exact ⟨hb, .inr ⟨_, _, _, (fun v' hh => absurd (h.symm.trans hh) (by simp)), rfl⟩⟩
  · obtain ⟨ev, hv, hev⟩ := hE.rng
    refine (Tryd.strconv_Atoi_range (strB x) (by omega) (by rw [hd]; exact h) ev w hv hev).mono ?_
    rintro e w' ⟨N, rfl, _, _, hb⟩
    exact ⟨hb, .inr ⟨_, _, _, (fun v' hh => absurd (h.symm.trans hh) (by simp)), rfl⟩⟩

/-- A text is an epoch's. -/
def IsEp (x : List UInt8) (m : Nat) : Prop := x = Lib.decDigits m ∧ m < 1000000000
def NumPost (w : World) (x : List UInt8) (e : Ending) (w' : World) : Prop :=
  Kept w w' ∧ ∃ (v : Int) (b : Bool), e = .returned (.tuple #[.int .i64 v, .bool b]) ∧ (b = true → ∃ m : Nat, IsEp x m ∧ v = (m : Int)) ∧ (b = false → ∀ m, ¬ IsEp x m)
theorem ep_of {x : List UInt8} {v : Int} (h0 : 0 ≤ v) (h1 : v < 1000000000) (h : Lib.itoa v = x) : ∃ m : Nat, IsEp x m ∧ v = (m : Int) :=
  ⟨v.toNat, ⟨by rw [← h, itoa_dec h0], by omega⟩, by omega⟩
theorem ep_no {x : List UInt8} (h : ∀ v', Lib.atoiAll x ≠ .ok v') (m : Nat) : ¬ IsEp x m := by
  rintro ⟨rfl, hm⟩
  exact h _ (atoi_dd hm)
theorem ep_val {x : List UInt8} {v : Int} (h : Lib.atoiAll x = .ok v) {m : Nat} (hm : IsEp x m) : v = (m : Int) := by
  obtain ⟨rfl, hm⟩ := hm
  rw [atoi_dd hm] at h
  injection h with h
  exact h.symm
set_option maxHeartbeats 4000000 in
set_option maxRecDepth 100000 in
theorem number_any {w : World} (x : List UInt8) (hx : x.length ≤ 1000) (hE : TabsE w) (hT : Tabs w) : Calls Tryd.prog 50 #[.string (strB x)] w (NumPost w x) := by
  have HA := Lib.hid (atoi_any x hx hE)
  have HI := Lib.hid (fun W (hw : Kept w W) (v : Int) (hv : I64 v) => itoa_any v hv W (hT.kept hw).pow)
  have HX := Shut.mk (strB_list x)
  generalize strB x = X at *
  clear hx hE hT
  go_enter Tryd.func50, Tryd.ntmps50
  go_wp2_with fail
  (with_reducible refine HA.out.mono ?_)
  rintro e w2 ⟨k2, hcase⟩
  have K2 := Lib.hid k2
  rcases hcase with ⟨v, iv, hv, rfl⟩ | ⟨v, u, a, hv, rfl⟩
  · have HV := Shut.mk hv
    clear hv
    by_cases h0 : 0 ≤ v
    · have b0 : decide (v ≥ 0) = true := decide_eq_true h0
      by_cases h1 : v < 1000000000
      · have b1 : decide (v < 1000000000) = true := decide_eq_true h1
        have HI2 := Lib.hid (HI.out w2 k2 v iv)
        have EP := Shut.mk (fun h => ep_of (x := x) h0 h1 h)
        have EN := Shut.mk (fun (hne : ¬ Lib.itoa v = x) m (hm : IsEp x m) => hne (by rw [ep_val HV.out hm, hm.1, itoa_dec (by omega)]; rfl))
        have hl := strB_list (Lib.itoa v)
        generalize Lib.itoa v = D at *
        generalize strB D = Y at *
        clear HI HA k2 iv
        by_cases hs : D = x
        · have hq : (Y.toList == X.toList) = true := by rw [hl, HX.out, hs]; exact beq_self_eq_true _
          have HS := Shut.mk hs
          clear hs hl
          go_wp2_with fail
          (with_reducible refine HI2.out.mono ?_); rintro e w3 ⟨rfl, k3⟩
          go_wp2
          go_ret2
          exact ⟨K2.out.trans k3, v, true, rfl, fun _ => EP.out HS.out, fun h => by cases h⟩
        · have hq : (Y.toList == X.toList) = false := by rw [hl, HX.out]; exact beq_eq_false_iff_ne.2 hs
          have HS := Shut.mk (show ∀ m, ¬ IsEp x m from EN.out hs)
          clear hs hl
          go_wp2_with fail
          (with_reducible refine HI2.out.mono ?_); rintro e w3 ⟨rfl, k3⟩
          go_wp2
          go_ret2
          exact ⟨K2.out.trans k3, v, false, rfl, (fun h => by cases h), fun _ => HS.out⟩
      · have b1 : decide (v < 1000000000) = false := decide_eq_false h1
        have HS := Shut.mk (show ∀ m, ¬ IsEp x m from fun m hm => by have := ep_val HV.out hm; have := hm.2; omega)
        clear h1
        go_wp2
        go_ret2
        exact ⟨K2.out, v, false, rfl, (fun h => by cases h), fun _ => HS.out⟩
    · have b0 : decide (v ≥ 0) = false := decide_eq_false h0
      have HS := Shut.mk (show ∀ m, ¬ IsEp x m from fun m hm => by have := ep_val HV.out hm; omega)
      go_wp2
      go_ret2
      exact ⟨K2.out, v, false, rfl, (fun h => by cases h), fun _ => HS.out⟩
  · have HV := Shut.mk hv
    clear hv
    go_wp2
    go_ret2
    exact ⟨K2.out, v, false, rfl, (fun h => by cases h), fun _ m => ep_no HV.out m⟩
end Go.Proofs.YtdjfdobcjakmhaaDoor
end

section
/- The program's transcript: text, Read. -/
set_option linter.unusedSimpArgs false
set_option linter.unusedVariables false
namespace Go.Proofs.YtdjfdobcjakmhaaDoor
open Go.RowKit Go.Maps

set_option maxHeartbeats 4000000 in
set_option maxRecDepth 100000 in
theorem ttext_any {F : Nat → Prop} {w : World} {p : Value} {ds : List Nd} (h : Ar F w p ds) (t : Int) :
    Calls Tryd.prog 51 #[p, .int .i64 t] w fun e w' => e = .returned (.string (strB (ndAt ds t).s)) ∧ Kept w w' := by
  have HN := Lib.hid (node_any h t)
  obtain ⟨pb, mb, nv, rfl, _, _, _⟩ := ArG.nodes h
  generalize ndE ds t = E at *
  generalize ndAt ds t = d at *
  obtain ⟨op, n, s, l⟩ := d
  clear h
  go_enter Tryd.func51, Tryd.ntmps51
  go_wp2_with fail
  (with_reducible refine HN.out.mono ?_); rintro e w2 ⟨v, rfl, ⟨lv, rfl, hl⟩, k2⟩
  obtain ⟨la, lc, rfl, _, _, _⟩ := hl.len
  have k3 := k2.alloc (.cells #[.int .i64 op, .int .i64 n, .string (strB s), .slice la l.length lc] 65)
  go_wp2
  go_ret
  exact ⟨rfl, k3⟩

theorem ndAt_out {ds : List Nd} {t : Int} (h : ¬ IsT ds t) : ndAt ds t = nd0 := if_neg h
theorem ndAt_in {ds : List Nd} {t : Int} (h : IsT ds t) : ndAt ds t = ndI ds t := if_pos h
theorem good_text {ds : List Nd} (hg : Good ds) {t : Int} (h : IsT ds t) (hs : (ndI ds t).s ≠ []) : (ndI ds t).op = 2 := by
  have := hg.may' (i := t.toNat) (by have := h.1; have := h.2; omega)
  rcases this.s1 with c | c
  · exact absurd c hs
  · exact c
theorem good_short {ds : List Nd} (hg : Good ds) (t : Int) : (ndAt ds t).s.length ≤ 200 := by
  by_cases h : IsT ds t
  · rw [ndAt_in h]
    exact (hg.may' (i := t.toNat) (by have := h.1; have := h.2; omega)).s0
  · rw [ndAt_out h]; simp [nd0]
theorem ones5 (a b c d e : Int) : ∀ u ∈ [Value.int .i64 a, .int .i64 b, .int .i64 c, .int .i64 d, .int .i64 e], u.oneCell' = true := by simp [Value.oneCell']
/-- Wherever a List of six is told. -/
theorem six_read {ds : List Nd} (hg : Good ds) {k : Nat} {n g i x tt c z : Int} {s : List UInt8} (hk : k < ds.length) (hd : ds.getD k nd0 = ⟨3, n, s, [g, i, x, tt, c, z]⟩) {v : Int} {b : Bool}
    (h1 : b = true → ∃ m : Nat, IsEp (ndAt ds x).s m ∧ v = (m : Int)) (h0 : b = false → ∀ m, ¬ IsEp (ndAt ds x).s m) :
    ((ndAt ds g).s = groupS → b = true → ReadQ ds (k : Int) (arr5 i v tt c z) 0) ∧ (((ndAt ds g).s ≠ groupS ∨ b = false) → ReadQ ds (k : Int) (arr5 0 0 0 0 0) 1) := by
  have hI : ndI ds (k : Int) = ⟨3, n, s, [g, i, x, tt, c, z]⟩ := by unfold ndI; rw [Int.toNat_natCast]; exact hd
  have hm := hg.may' hk
  rw [hd] at hm
  have tg : IsT ds g := hm.all g (by simp)
  have tx : IsT ds x := hm.all x (by simp)
  rw [ndAt_in tx] at h1 h0
  rw [ndAt_in tg]
  constructor
  · intro hs hb
    obtain ⟨m, ⟨e1, e2⟩, rfl⟩ := h1 hb
    refine .inl ⟨i, (m : Int), tt, c, z, ⟨g, x, m, ⟨by omega, by omega⟩, by rw [hI], by rw [hI], good_text hg tg (by rw [hs]; decide), hs, good_text hg tx (fun hh => by have := dd_pos m; rw [← e1, hh] at this; simp at this), e1, rfl, e2⟩, rfl, rfl⟩
  · intro hh
    refine readQ_no (fun g' i' x' tt' c' z' m _ q1 q2 q3 q4 q5 q6 => ?_)
    rw [hI] at q1
    simp only [List.cons.injEq, and_true] at q1
    obtain ⟨rfl, rfl, rfl, rfl, rfl, rfl⟩ := q1
    rcases hh with hh | hh
    · exact hh q3
    · exact h0 hh m ⟨q5, q6⟩
set_option maxHeartbeats 8000000 in
set_option maxRecDepth 100000 in
theorem PRead_out {F : Nat → Prop} {w : World} {p : Value} {ds : List Nd} {t : Int} (h : Ar F w p ds) (ht : ¬ IsT ds t) :
    Calls Tryd.prog 27 #[p, .int .i64 t] w (ReadPost w ds t) := by
  have HN := Lib.hid (fun W (k : Kept w W) => node_any (ArG.kept h k) t)
  have hE : ndE ds t = 4 := by unfold ndE; rw [if_neg (show ¬ (0 ≤ t ∧ t < (ds.length : Int)) from ht)]
  rw [hE, ndAt_out ht] at HN
  obtain ⟨pb, mb, nv, rfl, _, _, _⟩ := ArG.nodes h
  have HQ := Shut.mk (show ReadQ ds t (arr5 0 0 0 0 0) 1 from .inr ⟨fun i n tt c z hc => by obtain ⟨_, _, _, hh, _⟩ := hc; exact ht hh, rfl, rfl⟩)
  clear h hE ht
  have b1 := Blk.new w [.int .i64 0, .int .i64 0, .int .i64 0, .int .i64 0, .int .i64 0] 44
  have k1 := (Kept.refl w).alloc (.cells #[.int .i64 0, .int .i64 0, .int .i64 0, .int .i64 0, .int .i64 0] 44)
  go_enter Tryd.func27, Tryd.ntmps27
  go_wp2_with fail
  (with_reducible refine (HN.out _ k1).mono ?_); rintro e w2 ⟨v, rfl, ⟨lv, rfl, hl⟩, k2⟩
  obtain ⟨la, lc, rfl, _, _, _⟩ := hl.len
  generalize nd0 = d0 at *
  have k3 := k2.alloc (.cells #[.int .i64 d0.op, .int .i64 d0.n, .string (strB d0.s), .slice la d0.l.length lc] 65)
  have b3 := b1.kept k3
  have hK := Shut.mk (k1.trans k3)
  clear b1 k1 k2 k3 hl HN
  go_upto_region 2 with fail
  generalize (w2.alloc (.cells #[.int .i64 d0.op, .int .i64 d0.n, .string (strB d0.s), .slice la d0.l.length lc] 65)) = w3 at *
  have c0 := b3.cell 0
  have c1 := b3.cell 1
  have c2 := b3.cell 2
  have c3 := b3.cell 3
  have c4 := b3.cell 4
  have f0 := b3.frozen 0
  have f1 := b3.frozen 1
  have f2 := b3.frozen 2
  have f3 := b3.frozen 3
  have f4 := b3.frozen 4
  have bl := b3.lt
  simp only [List.getElem?_cons_succ, List.getElem?_cons_zero] at c0 c1 c2 c3 c4
  go_wp2
  refine bodyPost_ret (v := .tuple #[arr5 0 0 0 0 0, .int .i64 1]) ?_ rfl ?_
  · have hr : Tryd.f27.results = #[.cell 4 44, .tmp 5] := rfl
    simp [results, hr]
    go_simp
    rfl
  · exact ⟨_, _, rfl, HQ.out, keep5 hK.out (Nat.le_refl _) _ _ _ _ _⟩
set_option maxHeartbeats 8000000 in
set_option maxRecDepth 100000 in
theorem PRead_op {F : Nat → Prop} {w : World} {p : Value} {ds : List Nd} {k : Nat} {op n : Int} {s : List UInt8} {l : List Int} (h : Ar F w p ds) (hk : k < ds.length) (hd : ds.getD k nd0 = ⟨op, n, s, l⟩) (ho : op ≠ 3) :
    Calls Tryd.prog 27 #[p, .int .i64 (k : Int)] w (ReadPost w ds (k : Int)) := by
  have HN := Lib.hid (fun W (kk : Kept w W) => node_any (ArG.kept h kk) (k : Int))
  have hE : ndE ds (k : Int) = 0 := by unfold ndE; rw [if_pos ⟨by omega, by omega⟩]
  have hD : ndAt ds (k : Int) = ⟨op, n, s, l⟩ := by unfold ndAt; rw [if_pos ⟨by omega, by omega⟩, Int.toNat_natCast]; exact hd
  rw [hE, hD] at HN
  have hI : ndI ds (k : Int) = ⟨op, n, s, l⟩ := by unfold ndI; rw [Int.toNat_natCast]; exact hd
  have HQ := Shut.mk (readQ_no (ds := ds) (t := (k : Int)) (fun g i x tt c z m h1 _ _ _ _ _ _ => by rw [hI] at h1; exact ho h1))
  obtain ⟨qb, qm, nv, rfl, q0, _, hn⟩ := ArG.nodes h
  clear q0 hn
  clear h hE hD hI hd hk
  have b1 := Blk.new w [.int .i64 0, .int .i64 0, .int .i64 0, .int .i64 0, .int .i64 0] 44
  have k1 := (Kept.refl w).alloc (.cells #[.int .i64 0, .int .i64 0, .int .i64 0, .int .i64 0, .int .i64 0] 44)
  go_enter Tryd.func27, Tryd.ntmps27
  go_wp2_with fail
  (with_reducible refine (HN.out _ k1).mono ?_); rintro e w2 ⟨v, rfl, ⟨lv, rfl, hl⟩, k2⟩
  have hl : RdI w2 lv l := hl
  obtain ⟨la, lc, e, _, _, _⟩ := hl.len
  have e : lv = .slice la l.length lc := e
  subst e
  have b2 := Blk.new w2 [.int .i64 op, .int .i64 n, .string (strB s), .slice la l.length lc] 65
  have k3 := (Kept.refl w2).alloc (.cells #[.int .i64 op, .int .i64 n, .string (strB s), .slice la l.length lc] 65)
  have b3 := b1.kept (k2.trans k3)
  have hK := Shut.mk (k1.trans (k2.trans k3))
  have hne : w2.heap.size ≠ w.heap.size := by have := (k1.trans k2).size; have := b1.lt; have := k2.size; omega
  have hl3 := hl.kept k3
  clear b1 k1 k2 k3 hl HN
  go_upto_region 2 with fail
  generalize (w2.alloc (.cells #[.int .i64 op, .int .i64 n, .string (strB s), .slice la l.length lc] 65)) = w3 at *
  generalize w2.heap.size = bx at *
  have c0 := b3.cell 0
  have c1 := b3.cell 1
  have c2 := b3.cell 2
  have c3 := b3.cell 3
  have c4 := b3.cell 4
  have f0 := b3.frozen 0
  have f1 := b3.frozen 1
  have f2 := b3.frozen 2
  have f3 := b3.frozen 3
  have f4 := b3.frozen 4
  have bl := b3.lt
  have n0 := b2.cell 0
  have n1 := b2.cell 1
  have n2 := b2.cell 2
  have n3 := b2.cell 3
  have nl := b2.lt
  simp only [List.getElem?_cons_succ, List.getElem?_cons_zero] at c0 c1 c2 c3 c4 n0 n1 n2 n3
  have hb := bne_int ho
  clear ho
  go_wp2
  refine bodyPost_ret (v := .tuple #[arr5 0 0 0 0 0, .int .i64 1]) ?_ rfl ?_
  · have hr : Tryd.f27.results = #[.cell 4 44, .tmp 5] := rfl
    simp [results, hr]
    go_simp
    rfl
  · exact ⟨_, _, rfl, HQ.out, keep5 hK.out (Nat.le_refl _) _ _ _ _ _⟩
set_option maxHeartbeats 8000000 in
set_option maxRecDepth 100000 in
theorem PRead_len {F : Nat → Prop} {w : World} {p : Value} {ds : List Nd} {k : Nat} {n : Int} {s : List UInt8} {l : List Int} (h : Ar F w p ds) (hk : k < ds.length) (hd : ds.getD k nd0 = ⟨3, n, s, l⟩) (h6 : l.length ≠ 6) :
    Calls Tryd.prog 27 #[p, .int .i64 (k : Int)] w (ReadPost w ds (k : Int)) := by
  have HN := Lib.hid (fun W (kk : Kept w W) => node_any (ArG.kept h kk) (k : Int))
  have hE : ndE ds (k : Int) = 0 := by unfold ndE; rw [if_pos ⟨by omega, by omega⟩]
  have hD : ndAt ds (k : Int) = ⟨3, n, s, l⟩ := by unfold ndAt; rw [if_pos ⟨by omega, by omega⟩, Int.toNat_natCast]; exact hd
  rw [hE, hD] at HN
  have hI : ndI ds (k : Int) = ⟨3, n, s, l⟩ := by unfold ndI; rw [Int.toNat_natCast]; exact hd
  have HQ := Shut.mk (readQ_no (ds := ds) (t := (k : Int)) (fun g i x tt c z m _ h1 _ _ _ _ _ => by rw [hI] at h1; simp only at h1; rw [h1] at h6; exact h6 rfl))
  obtain ⟨qb, qm, nv, rfl, q0, _, hn⟩ := ArG.nodes h
  clear q0 hn
  clear h hE hD hI hd hk
  have b1 := Blk.new w [.int .i64 0, .int .i64 0, .int .i64 0, .int .i64 0, .int .i64 0] 44
  have k1 := (Kept.refl w).alloc (.cells #[.int .i64 0, .int .i64 0, .int .i64 0, .int .i64 0, .int .i64 0] 44)
  go_enter Tryd.func27, Tryd.ntmps27
  go_wp2_with fail
  (with_reducible refine (HN.out _ k1).mono ?_); rintro e w2 ⟨v, rfl, ⟨lv, rfl, hl⟩, k2⟩
  have hl : RdI w2 lv l := hl
  obtain ⟨la, lc, e, _, _, _⟩ := hl.len
  have e : lv = .slice la l.length lc := e
  subst e
  have b2 := Blk.new w2 [.int .i64 3, .int .i64 n, .string (strB s), .slice la l.length lc] 65
  have k3 := (Kept.refl w2).alloc (.cells #[.int .i64 3, .int .i64 n, .string (strB s), .slice la l.length lc] 65)
  have b3 := b1.kept (k2.trans k3)
  have hK := Shut.mk (k1.trans (k2.trans k3))
  have hne : w2.heap.size ≠ w.heap.size := by have := (k1.trans k2).size; have := b1.lt; have := k2.size; omega
  have hl3 := hl.kept k3
  clear b1 k1 k2 k3 hl HN
  go_upto_region 2 with fail
  generalize (w2.alloc (.cells #[.int .i64 3, .int .i64 n, .string (strB s), .slice la l.length lc] 65)) = w3 at *
  generalize w2.heap.size = bx at *
  have c0 := b3.cell 0
  have c1 := b3.cell 1
  have c2 := b3.cell 2
  have c3 := b3.cell 3
  have c4 := b3.cell 4
  have f0 := b3.frozen 0
  have f1 := b3.frozen 1
  have f2 := b3.frozen 2
  have f3 := b3.frozen 3
  have f4 := b3.frozen 4
  have bl := b3.lt
  have n0 := b2.cell 0
  have n1 := b2.cell 1
  have n2 := b2.cell 2
  have n3 := b2.cell 3
  have nl := b2.lt
  simp only [List.getElem?_cons_succ, List.getElem?_cons_zero] at c0 c1 c2 c3 c4 n0 n1 n2 n3
  have hb : (((l.length : Nat) : Int) != 6) = true := bne_int (by omega)
  clear h6
  go_wp2
  refine bodyPost_ret (v := .tuple #[arr5 0 0 0 0 0, .int .i64 1]) ?_ rfl ?_
  · have hr : Tryd.f27.results = #[.cell 4 44, .tmp 5] := rfl
    simp [results, hr]
    go_simp
    rfl
  · exact ⟨_, _, rfl, HQ.out, keep5 hK.out (Nat.le_refl _) _ _ _ _ _⟩
set_option maxHeartbeats 8000000 in
set_option maxRecDepth 100000 in
theorem PRead_six {F : Nat → Prop} {w : World} {p : Value} {ds : List Nd} {k : Nat} {n g i x tt c z : Int} {s : List UInt8} (h : Ar F w p ds) (hT : Tabs w) (hTE : TabsE w) (hk : k < ds.length) (hd : ds.getD k nd0 = ⟨3, n, s, [g, i, x, tt, c, z]⟩) :
    Calls Tryd.prog 27 #[p, .int .i64 (k : Int)] w (ReadPost w ds (k : Int)) := by
  have HN := Lib.hid (fun W (kk : Kept w W) => node_any (ArG.kept h kk) (k : Int))
  have hE : ndE ds (k : Int) = 0 := by unfold ndE; rw [if_pos ⟨by omega, by omega⟩]
  have hD : ndAt ds (k : Int) = ⟨3, n, s, [g, i, x, tt, c, z]⟩ := by unfold ndAt; rw [if_pos ⟨by omega, by omega⟩, Int.toNat_natCast]; exact hd
  rw [hE, hD] at HN
  have hI : ndI ds (k : Int) = ⟨3, n, s, [g, i, x, tt, c, z]⟩ := by unfold ndI; rw [Int.toNat_natCast]; exact hd
  have HQ := Shut.mk (fun (v : Int) (b : Bool) => six_read (v := v) (b := b) h.good hk hd)
  have HG := Lib.hid (fun W (kk : Kept w W) => ttext_any (ArG.kept h kk) g)
  have HX := Lib.hid (fun W (kk : Kept w W) => ttext_any (ArG.kept h kk) x)
  have HM := Lib.hid (fun W (kk : Kept w W) => number_any (ndAt ds x).s (by have := good_short h.good x; omega) (hTE.kept kk) (hT.kept kk))
  generalize (ndAt ds x).s = sx at *
  generalize (ndAt ds g).s = sg at *
  obtain ⟨pb, mb, nv, rfl, _, _, _⟩ := ArG.nodes h
  clear h hE hD hI hd hk hT hTE
  have b1 := Blk.new w [.int .i64 0, .int .i64 0, .int .i64 0, .int .i64 0, .int .i64 0] 44
  have k1 := (Kept.refl w).alloc (.cells #[.int .i64 0, .int .i64 0, .int .i64 0, .int .i64 0, .int .i64 0] 44)
  go_enter Tryd.func27, Tryd.ntmps27
  go_wp2_with fail
  (with_reducible refine (HN.out _ k1).mono ?_); rintro e w2 ⟨v, rfl, ⟨lv, rfl, hl⟩, k2⟩
  have hl : RdI w2 lv [g, i, x, tt, c, z] := hl
  obtain ⟨la, lc, e, _, _, _⟩ := hl.len
  have e : lv = .slice la 6 lc := e
  subst e
  have b2 := Blk.new w2 [.int .i64 3, .int .i64 n, .string (strB s), .slice la 6 lc] 65
  have k3 := (Kept.refl w2).alloc (.cells #[.int .i64 3, .int .i64 n, .string (strB s), .slice la 6 lc] 65)
  have b3 := b1.kept (k2.trans k3)
  have hK := Shut.mk (k1.trans (k2.trans k3))
  have hne : w2.heap.size ≠ w.heap.size := by have := (k1.trans k2).size; have := b1.lt; have := k2.size; omega
  have hl3 := hl.kept k3
  clear b1 k1 k2 k3 hl HN
  go_upto_region 2 with fail
  generalize (w2.alloc (.cells #[.int .i64 3, .int .i64 n, .string (strB s), .slice la 6 lc] 65)) = w3 at *
  generalize w2.heap.size = bx at *
  have HL3 := Lib.hid hl3
  have B2 := Lib.hid b2
  have B3 := Lib.hid b3
  clear b2 b3 hl3
  have n0 := B2.out.cell 0
  have n3 := B2.out.cell 3
  have nl := B2.out.lt
  simp only [List.getElem?_cons_succ, List.getElem?_cons_zero] at n0 n3
  obtain ⟨rb, ro, rc, hv, _, _, rl, hcell⟩ := HL3.out.addr (by simp)
  simp only [Value.slice.injEq] at hv
  obtain ⟨rfl, _, rfl⟩ := hv
  have r2 := hcell 2 (by simp)
  simp only [List.getD_cons_succ, List.getD_cons_zero, Nat.add_zero] at r2
  clear hcell
  have HX3 := Lib.hid (HX.out _ hK.out)
  clear HX
  go_wp2_with fail
  (with_reducible refine HX3.out.mono ?_); rintro e w4 ⟨rfl, k4⟩
  have k04 := hK.out.trans k4
  have HM4 := Lib.hid (HM.out _ k04)
  have B24 := Lib.hid (B2.out.kept k4)
  have B34 := Lib.hid (B3.out.kept k4)
  have HL4 := Lib.hid (HL3.out.kept k4)
  have K04 := Lib.hid k04
  clear HM HX3 B2 B3 HL3 k4 k04 hK n0 n3 nl r2 rl
  generalize strB sx = X at *
  go_wp2_with fail
  (with_reducible refine HM4.out.mono ?_); rintro e w5 ⟨k5, v, b, rfl, hb1, hb0⟩
  have hQ := HQ.out v b hb1 hb0
  have HQ2 := Shut.mk hQ
  have k05 := K04.out.trans k5
  have HG5 := Lib.hid (HG.out _ k05)
  have B25 := Lib.hid (B24.out.kept k5)
  have B35 := Lib.hid (B34.out.kept k5)
  have HL5 := Lib.hid (HL4.out.kept k5)
  have K05 := Lib.hid k05
  clear HQ hQ hb1 hb0 HM4 B24 B34 HL4 K04 k5 k05 HG
  have n3 := B25.out.cell 3
  have nl := B25.out.lt
  simp only [List.getElem?_cons_succ, List.getElem?_cons_zero] at n3
  obtain ⟨rb', ro', rc', hv, _, _, rl, hcell⟩ := HL5.out.addr (by simp)
  simp only [Value.slice.injEq, Option.some.injEq, Addr.mk.injEq, and_true, true_and] at hv
  obtain ⟨⟨rfl, rfl⟩, _, rfl⟩ := hv
  have r0 := hcell 0 (by simp)
  simp only [List.getD_cons_succ, List.getD_cons_zero, Nat.add_zero] at r0
  clear hcell
  have hsl := strB_list sg
  generalize strB sg = Y at *
  go_wp2_with fail
  (with_reducible refine HG5.out.mono ?_); rintro e w6 ⟨rfl, k6⟩
  have hK := Shut.mk (K05.out.trans k6)
  have b2 := B25.out.kept k6
  have b3 := B35.out.kept k6
  have hl3 := HL5.out.kept k6
  clear K05 B25 B35 HL5 k6 HG5 n3 nl r0 rl
  have c0 := b3.cell 0
  have c1 := b3.cell 1
  have c2 := b3.cell 2
  have c3 := b3.cell 3
  have c4 := b3.cell 4
  have f0 := b3.frozen 0
  have f1 := b3.frozen 1
  have f2 := b3.frozen 2
  have f3 := b3.frozen 3
  have f4 := b3.frozen 4
  have bl := b3.lt
  have n0 := b2.cell 0
  have n1 := b2.cell 1
  have n2 := b2.cell 2
  have n3 := b2.cell 3
  have nl := b2.lt
  simp only [List.getElem?_cons_succ, List.getElem?_cons_zero] at c0 c1 c2 c3 c4 n0 n1 n2 n3
  obtain ⟨rb', ro', rc', hv, _, _, rl, hcell⟩ := hl3.addr (by simp)
  simp only [Value.slice.injEq, Option.some.injEq, Addr.mk.injEq, and_true, true_and] at hv
  obtain ⟨⟨rfl, rfl⟩, _, rfl⟩ := hv
  have r1 := hcell 1 (by simp)
  have r3 := hcell 3 (by simp)
  have r4 := hcell 4 (by simp)
  have r5 := hcell 5 (by simp)
  simp only [List.getD_cons_succ, List.getD_cons_zero, Nat.add_zero] at r1 r3 r4 r5
  clear hcell hl3
  by_cases hs : sg = groupS
  · have hne1 : Y.toList = [103, 114, 111, 117, 112] := by rw [hsl, hs]; rfl
    have HS := Shut.mk hs
    clear hs hsl
    cases b with
    | true =>
      have HQ3 := Shut.mk (HQ2.out.1 HS.out rfl)
      clear HQ2 HS
      go_upto_region 7 with fail
      go_region
      go_wp2
      refine bodyPost_ret (v := .tuple #[arr5 i v tt c z, .int .i64 0]) ?_ rfl ?_
      · have hr : Tryd.f27.results = #[.cell 4 44, .tmp 5] := rfl
        simp [results, hr]
        go_simp
        rfl
      · refine ⟨_, _, rfl, HQ3.out, ?_⟩
        first
          | exact (keep5 hK.out (Nat.le_refl _) _ _ _ _ _).drewN _
          | exact keep5 hK.out (Nat.le_refl _) _ _ _ _ _
    | false =>
      have HQ3 := Shut.mk (HQ2.out.2 (.inr rfl))
      clear HQ2 HS
      go_wp2
      refine bodyPost_ret (v := .tuple #[arr5 0 0 0 0 0, .int .i64 1]) ?_ rfl ?_
      · have hr : Tryd.f27.results = #[.cell 4 44, .tmp 5] := rfl
        simp [results, hr]
        go_simp
        rfl
      · exact ⟨_, _, rfl, HQ3.out, keep5 hK.out (Nat.le_refl _) _ _ _ _ _⟩
  · have hne1 : ¬ Y.toList = [103, 114, 111, 117, 112] := by rw [hsl]; exact hs
    have HQ3 := Shut.mk (HQ2.out.2 (.inl hs))
    clear HQ2 hs hsl
    go_wp2
    refine bodyPost_ret (v := .tuple #[arr5 0 0 0 0 0, .int .i64 1]) ?_ rfl ?_
    · have hr : Tryd.f27.results = #[.cell 4 44, .tmp 5] := rfl
      simp [results, hr]
      go_simp
      rfl
    · exact ⟨_, _, rfl, HQ3.out, keep5 hK.out (Nat.le_refl _) _ _ _ _ _⟩
end Go.Proofs.YtdjfdobcjakmhaaDoor
end

section
/- The program's transcript over ten Atoms: whether they are terms or not; Read of any term. -/
set_option linter.unusedSimpArgs false
set_option linter.unusedVariables false
namespace Go.Proofs.YtdjfdobcjakmhaaDoor
open Go.RowKit Go.Maps

theorem PA.of_ok {w0 : World} {S : Nat → Prop} {w : World} {p : Value} {ds : List Nd} {m n : Nat} {Q : List Nd → Int → Prop} {e : Ending} {w' : World} (h : PMk w0 S w p ds m Q e w') (hm : m ≤ n) : PA w0 S w p ds n true Q e w' := by
  obtain ⟨r, t, he, ha, hl, hq, hk⟩ := h
  exact ⟨r, t, he, ha, by omega, fun _ => hq, (fun h => by cases h), hk⟩
theorem PA.of_no {w0 : World} {S : Nat → Prop} {w : World} {p : Value} {ds : List Nd} {n m : Nat} {Q : List Nd → Int → Prop} {e : Ending} {w' : World} (h : PNo w0 S w p ds m e w') (hm : m ≤ n) : PA w0 S w p ds n false Q e w' := by
  obtain ⟨r, he, ha, hl, hk⟩ := h
  exact ⟨r, 0, he, ha, by omega, (fun h => by cases h), fun _ => rfl, hk⟩
theorem PConfirmed_any {w0 : World} {S : Nat → Prop} {w : World} {p : Value} {r : List Nd} {i c g : Int} (h : At w0 S w p (atomsL 10 ++ r)) (n : Near 10 [i, c, g]) (ii : I64 i) (ic : I64 c) (ig : I64 g) (hr : r.length ≤ 1000) :
    Calls Tryd.prog 12 #[p, .int .i64 i, .int .i64 c, .int .i64 g] w (PA w0 S w p (atomsL 10 ++ r) 2 (tB [i, c, g]) (QC i c g)) := by
  cases hb : tB [i, c, g] with
  | true => exact (PConfirmed_ok h (tBd hb (by simp)) (tBd hb (by simp)) (tBd hb (by simp)) (by rw [List.length_append, atomsL_len]; omega)).mono fun e w' q => PA.of_ok q (by decide)
  | false => exact (PConfirmed_no h ii ic ig (near_no n hr hb)).mono fun e w' q => PA.of_no q (Nat.zero_le _)
theorem PInterim_any {w0 : World} {S : Nat → Prop} {w : World} {p : Value} {r : List Nd} {c t : Int} (h : At w0 S w p (atomsL 10 ++ r)) (n : Near 10 [c, t]) (ic : I64 c) (it : I64 t) (hr : r.length ≤ 1000) :
    Calls Tryd.prog 17 #[p, .int .i64 c, .int .i64 t] w (PA w0 S w p (atomsL 10 ++ r) 2 (tB [c, t]) (QI c t)) := by
  cases hb : tB [c, t] with
  | true => exact (PInterim_ok h (tBd hb (by simp)) (tBd hb (by simp)) (by rw [List.length_append, atomsL_len]; omega)).mono fun e w' q => PA.of_ok q (by decide)
  | false => exact (PInterim_no h ic it (near_no n hr hb)).mono fun e w' q => PA.of_no q (Nat.zero_le _)
theorem PTag_any {w0 : World} {S : Nat → Prop} {w : World} {p : Value} {r : List Nd} {k c : Int} (h : At w0 S w p (atomsL 10 ++ r)) (n : Near 10 [k, c]) (ik : I64 k) (ic : I64 c) (hr : r.length ≤ 1000) :
    Calls Tryd.prog 15 #[p, .int .i64 k, .int .i64 c] w (PA w0 S w p (atomsL 10 ++ r) 2 (tB [k, c]) (QT k c)) := by
  cases hb : tB [k, c] with
  | true => exact (PTag_ok h (tBd hb (by simp)) (tBd hb (by simp)) (by rw [List.length_append, atomsL_len]; omega)).mono fun e w' q => PA.of_ok q (by decide)
  | false => exact (PTag_no h ik ic (near_no n hr hb)).mono fun e w' q => PA.of_no q (Nat.zero_le _)
theorem PContext_any {w0 : World} {S : Nat → Prop} {w : World} {p : Value} {r : List Nd} {i n t c z : Int} (h : At w0 S w p (atomsL 10 ++ r)) (nr : Near 10 [i, t, c, z]) (jn : I64 n) (hr : r.length ≤ 500) :
    Calls Tryd.prog 19 #[p, .int .i64 i, .int .i64 n, .int .i64 t, .int .i64 c, .int .i64 z] w (PA w0 S w p (atomsL 10 ++ r) 3 (decide (0 ≤ n) && tB [i, t, c, z]) (QX i n t c z)) := by
  by_cases hn : 0 ≤ n
  · rw [decide_eq_true hn, Bool.true_and]
    cases hb : tB [i, t, c, z] with
    | true => exact (PContext_ok h hn jn.2 (tBd hb (by simp)) (tBd hb (by simp)) (tBd hb (by simp)) (tBd hb (by simp)) (by rw [List.length_append, atomsL_len]; omega)).mono fun e w' q => PA.of_ok q (by decide)
    | false => exact (PContext_no h hn (near_no nr (by omega) hb)).mono fun e w' q => PA.of_no q (Nat.zero_le _)
  · rw [decide_eq_false hn, Bool.false_and]
    exact (PContext_neg h (by omega)).mono fun e w' q => PA.of_no q (Nat.zero_le _)
theorem PStart_any {w0 : World} {S : Nat → Prop} {w : World} {p : Value} {r : List Nd} (h : At w0 S w p (atomsL 10 ++ r)) (hr : r.length ≤ 1000) :
    Calls Tryd.prog 21 #[p] w (PA w0 S w p (atomsL 10 ++ r) 1 true (Den (textT []))) :=
  (PStart_ok h (by rw [List.length_append, atomsL_len]; omega)).mono fun e w' q => PA.of_ok q (by decide)
theorem PRead_any {F : Nat → Prop} {w : World} {p : Value} {ds : List Nd} (h : Ar F w p ds) (hT : Tabs w) (hE : TabsE w) (t : Int) :
    Calls Tryd.prog 27 #[p, .int .i64 t] w (ReadPost w ds t) := by
  by_cases ht : IsT ds t
  · obtain ⟨k, rfl⟩ : ∃ k : Nat, t = (k : Int) := ⟨t.toNat, by have := ht.1; omega⟩
    have hk : k < ds.length := by have := ht.2; omega
    obtain ⟨op, n, s, l, hd⟩ : ∃ op n s l, ds.getD k nd0 = ⟨op, n, s, l⟩ := ⟨_, _, _, _, rfl⟩
    by_cases ho : op = 3
    · subst ho
      by_cases h6 : l.length = 6
      · obtain ⟨g, i, x, tt, c, z, rfl⟩ : ∃ g i x tt c z, l = [g, i, x, tt, c, z] := by
          match l, h6 with
          | [g, i, x, tt, c, z], _ => exact ⟨g, i, x, tt, c, z, rfl⟩
        exact PRead_six h hT hE hk hd
      · exact PRead_len h hk hd h6
    · exact PRead_op h hk hd ho
  · exact PRead_out h ht
end Go.Proofs.YtdjfdobcjakmhaaDoor
end

section
/- Arrays of numbers compared. -/
set_option linter.unusedSimpArgs false
set_option linter.unusedVariables false
namespace Go.Proofs.YtdjfdobcjakmhaaDoor
open Go.RowKit Go.Maps

theorem eqI_cons {w : World} {i : Nat} {is : List Nat} {xs ys : Array Value} {a b : Int} {r : Bool} (hp : (part 3 xs (i * 1)).run Tryd.prog w = .ok (.int .i64 a) w) (hq : (part 3 ys (i * 1)).run Tryd.prog w = .ok (.int .i64 b) w)
    (hr : (Op.eqItems 9999 3 1 xs ys is).run Tryd.prog w = .ok r w) : (Op.eqItems 9999 3 1 xs ys (i :: is)).run Tryd.prog w = .ok ((a == b) && r) w := by
  have he : ∀ (a b : Int) (w : World), (Op.equalIn 9999 3 (.int .i64 a) (.int .i64 b)).run Tryd.prog w = .ok (a == b) w := fun a b w => run_equalIn_int (P := Tryd.prog) (w := w) 9998 3 .i64 .i64 a b Tryd.underlying3
  simp only [Op.eqItems, Sem.run_bind, Result.andThen_ok, hp, hq, he]
  cases h : (a == b)
  · simp
  · simp [hr]
theorem cmp3 (w : World) (a0 a1 a2 b0 b1 b2 : Int) : (Op.equalIn 10000 50 (.agg #[.int .i64 a0, .int .i64 a1, .int .i64 a2]) (.agg #[.int .i64 b0, .int .i64 b1, .int .i64 b2])).run Tryd.prog w = .ok ((a0 == b0) && ((a1 == b1) && ((a2 == b2) && true))) w := by
  obtain ⟨i0, hi, hz0, hz1, hz2⟩ := info_parts Tryd.infoInt
  have hp : Tryd.prog.plainKey 3 = true := by kernel_rfl
  have hc : Tryd.prog.cellsOf 3 = 1 := by kernel_rfl
  rw [run_equalIn_array (P := Tryd.prog) (w := w) 9999 _ _ Tryd.underlying50 hi, hc, show List.range 3 = [0, 1, 2] from rfl]
  exact eqI_cons (run_part_plain (P := Tryd.prog) w hp rfl) (run_part_plain (P := Tryd.prog) w hp rfl) (eqI_cons (run_part_plain (P := Tryd.prog) w hp rfl) (run_part_plain (P := Tryd.prog) w hp rfl) (eqI_cons (run_part_plain (P := Tryd.prog) w hp rfl) (run_part_plain (P := Tryd.prog) w hp rfl) rfl))
theorem cmp5 (w : World) (a0 a1 a2 a3 a4 b0 b1 b2 b3 b4 : Int) : (Op.equalIn 10000 44 (.agg #[.int .i64 a0, .int .i64 a1, .int .i64 a2, .int .i64 a3, .int .i64 a4]) (.agg #[.int .i64 b0, .int .i64 b1, .int .i64 b2, .int .i64 b3, .int .i64 b4])).run Tryd.prog w = .ok ((a0 == b0) && ((a1 == b1) && ((a2 == b2) && ((a3 == b3) && ((a4 == b4) && true))))) w := by
  obtain ⟨i0, hi, hz0, hz1, hz2⟩ := info_parts Tryd.infoInt
  have hp : Tryd.prog.plainKey 3 = true := by kernel_rfl
  have hc : Tryd.prog.cellsOf 3 = 1 := by kernel_rfl
  rw [run_equalIn_array (P := Tryd.prog) (w := w) 9999 _ _ Tryd.underlying44 hi, hc, show List.range 5 = [0, 1, 2, 3, 4] from rfl]
  exact eqI_cons (run_part_plain (P := Tryd.prog) w hp rfl) (run_part_plain (P := Tryd.prog) w hp rfl) (eqI_cons (run_part_plain (P := Tryd.prog) w hp rfl) (run_part_plain (P := Tryd.prog) w hp rfl) (eqI_cons (run_part_plain (P := Tryd.prog) w hp rfl) (run_part_plain (P := Tryd.prog) w hp rfl) (eqI_cons (run_part_plain (P := Tryd.prog) w hp rfl) (run_part_plain (P := Tryd.prog) w hp rfl) (eqI_cons (run_part_plain (P := Tryd.prog) w hp rfl) (run_part_plain (P := Tryd.prog) w hp rfl) rfl))))
theorem grd3 (w : World) (op : BinOp) (x y : Operand) (xs ys : Array Value) : (eqGuard op 50 x y (.agg xs) (.agg ys)).run Tryd.prog w = .ok () w := run_eqGuard_agg (P := Tryd.prog) (w := w) op 50 x y xs ys (by kernel_rfl)
theorem grd5 (w : World) (op : BinOp) (x y : Operand) (xs ys : Array Value) : (eqGuard op 44 x y (.agg xs) (.agg ys)).run Tryd.prog w = .ok () w := run_eqGuard_agg (P := Tryd.prog) (w := w) op 44 x y xs ys (by kernel_rfl)
end Go.Proofs.YtdjfdobcjakmhaaDoor
end

section
/- live of layer 12. -/
set_option linter.unusedSimpArgs false
set_option linter.unusedVariables false
namespace Go.Proofs.YtdjfdobcjakmhaaDoor
open Go.RowKit Go.Maps

def liveS12 : List UInt8 := [108, 105, 115, 116, 40, 34, 103, 114, 111, 117, 112, 34, 44, 35, 48, 44, 34, 49, 50, 34, 44, 35, 49, 44, 35, 50, 44, 35, 51, 41]
theorem atom_is10 {r : List Nd} (hg : Good (atomsL 10 ++ r)) {n : Nat} (hn : n < 10) {t : Int} (h : Den (atomT (n : Int)) (atomsL 10 ++ r) t) : t = (n : Int) := by
  have h2 := (atoms_den (k := 10) (n := n) good10 hn).more r
  exact (den_iff hg h.1 h2.1).1 (h.2.trans h2.2.symm)
theorem itoa_small {n : Nat} (h : n < 10) : Lib.itoa (n : Int) = [UInt8.ofNat (48 + n)] := by
  unfold Lib.itoa
  rw [if_neg (by omega), Int.toNat_natCast, Lib.decDigits_one h]
theorem itoa_12 : Lib.itoa 12 = [49, 50] := by
  unfold Lib.itoa
  rw [if_neg (by decide), show (12 : Int).toNat = 12 from rfl, Lib.decDigits_two (by decide) (by decide)]
  rfl
theorem live12_sh {r : List Nd} (hg : Good (atomsL 10 ++ r)) {t : Int} (h : QX 0 12 1 2 3 (atomsL 10 ++ r) t) : (shE (atomsL 10 ++ r) t = 0 ∧ shT (atomsL 10 ++ r) t = liveS12) ∧ CtxIs (atomsL 10 ++ r) t 0 12 1 2 3 := by
  obtain ⟨l, hi, hl⟩ := den_inv hg h
  obtain ⟨g, l, rfl, dg, hl⟩ := hl.cons_inv
  obtain ⟨a, l, rfl, da, hl⟩ := hl.cons_inv
  obtain ⟨x, l, rfl, dx, hl⟩ := hl.cons_inv
  obtain ⟨b, l, rfl, db, hl⟩ := hl.cons_inv
  obtain ⟨c, l, rfl, dc, hl⟩ := hl.cons_inv
  obtain ⟨d, l, rfl, dd, hl⟩ := hl.cons_inv
  obtain rfl := hl.nil_inv
  obtain rfl := atom_is10 hg (n := 0) (by decide) da
  obtain rfl := atom_is10 hg (n := 1) (by decide) db
  obtain rfl := atom_is10 hg (n := 2) (by decide) dc
  obtain rfl := atom_is10 hg (n := 3) (by decide) dd
  obtain ⟨lg, ig, hlg⟩ := den_inv hg dg
  obtain rfl := hlg.nil_inv
  obtain ⟨lx, jx, hlx⟩ := den_inv hg dx
  obtain rfl := hlx.nil_inv
  obtain ⟨l0, i0, _⟩ := den_inv hg da
  obtain ⟨l1, i1, _⟩ := den_inv hg db
  obtain ⟨l2, i2, _⟩ := den_inv hg dc
  obtain ⟨l3, i3, _⟩ := den_inv hg dd
  have hs : shw (atomsL 10 ++ r) t = liveS12 := by
    rw [is_shw hg hi]
    simp only [one, List.map_cons, List.map_nil, is_shw hg ig, is_shw hg i0, is_shw hg jx, is_shw hg i1, is_shw hg i2, is_shw hg i3]
    simp [one, itoa_12, itoa_small (n := 0) (by decide), itoa_small (n := 1) (by decide), itoa_small (n := 2) (by decide), itoa_small (n := 3) (by decide), joinC, esc, kName, kTab, liveS12, groupS]
    rw [show Lib.itoa 0 = [48] from itoa_small (n := 0) (by decide), show Lib.itoa 1 = [49] from itoa_small (n := 1) (by decide), show Lib.itoa 2 = [50] from itoa_small (n := 2) (by decide), show Lib.itoa 3 = [51] from itoa_small (n := 3) (by decide)]
    rfl
  have hE : shE (atomsL 10 ++ r) t = 0 := by
    unfold shE
    rw [if_pos (show 0 ≤ t ∧ t < ((atomsL 10 ++ r).length : Int) from h.1), hs, if_neg (by decide)]
  refine ⟨⟨hE, by unfold shT; rw [if_pos hE, hs]⟩, g, x, 12, h.1, ?_, ?_, ?_, ?_, ?_, ?_, rfl, by decide⟩
  · unfold ndI; rw [hi.eq]
  · unfold ndI; rw [hi.eq]; rfl
  · unfold ndI; rw [ig.eq]
  · unfold ndI; rw [ig.eq]
  · unfold ndI; rw [jx.eq]
  · unfold ndI; rw [jx.eq, itoa_dec (by decide)]; rfl
theorem near_live : Near 10 [0, 1, 2, 3] := fun x hx => by
  simp only [List.mem_cons, List.not_mem_nil, or_false] at hx
  omega
theorem tB_live : tB [0, 1, 2, 3] = true := by
  simp only [tB, termsB, List.all_cons, List.all_nil, IsT, atomsL_len]
  rfl
set_option maxHeartbeats 8000000 in
set_option maxRecDepth 100000 in
theorem live12_any {w : World} (hT : Tabs w) (hE : TabsE w) : Calls Tryd.prog 9 #[] w fun e w' => e = .returned (.bool true) ∧ Kept w w' := by
  have HT := Lib.hid hT
  have HTE := Lib.hid hE
  clear hT hE
  go_enter Tryd.func9, Tryd.ntmps9
  go_wp2_with fail
  (with_reducible refine (two12_any HT.out).mono ?_); rintro e w1 ⟨p, q, pa, rfl, rfl, F, G, hA, hR, hFG, hF, hG, k1⟩
  have a1 : At w (fun b => b < w.heap.size) w1 (.pointer (some pa)) (atomsL 10 ++ []) := by rw [List.append_nil]; exact At.mkA hA hF k1 HT.out
  have HX := Lib.hid (PContext_any a1 near_live (n := 12) ⟨by decide, by decide⟩ (by simp))
  rw [tB_live, show (decide ((0 : Int) ≤ 12) && true) = true from rfl] at HX
  clear hA hR hFG hF hG k1 a1
  generalize (fun b => b < w.heap.size : Nat → Prop) = S at *
  go_wp2_with fail
  (with_reducible refine HX.out.mono ?_); rintro e w2 ⟨r, t, rfl, a2, hr, d2, _, k2⟩
  have a2 : At w S w2 (.pointer (some pa)) (atomsL 10 ++ r) := by simpa using a2
  have d2 : QX 0 12 1 2 3 (atomsL 10 ++ r) t := by simpa using d2 rfl
  obtain ⟨⟨hE, hS⟩, hC⟩ := live12_sh a2.good d2
  obtain ⟨F2, hF2, _⟩ := a2.ar
  have HSh := Lib.hid (show_any hF2 a2.tabs t)
  rw [hE, hS] at HSh
  have HT2 := Lib.hid a2.tabs
  have HE2 := Lib.hid (HTE.out.kept a2.kept)
  have HR := Lib.hid (fun W (k : Kept w2 W) => PRead_any (ArG.kept hF2 k) (HT2.out.kept k) (HE2.out.kept k) t)
  have HC := Shut.mk hC
  have KK := Lib.hid a2.kept
  clear a2 d2 hE hS hC hF2 HX hr k2
  have es := strB_list liveS12
  unfold liveS12 at es HSh
  unfold eB
  generalize strB [108, 105, 115, 116, 40, 34, 103, 114, 111, 117, 112, 34, 44, 35, 48, 44, 34, 49, 50, 34, 44, 35, 49, 44, 35, 50, 44, 35, 51, 41] = X at es HSh
  go_wp2_with fail
  (with_reducible refine HSh.out.mono ?_); rintro e w3 ⟨rfl, k3⟩
  have HR3 := Lib.hid (HR.out w3 k3)
  go_wp2_with fail
  (with_reducible refine HR3.out.mono ?_); rintro e w4 ⟨v, er, rfl, hq, k4⟩
  obtain ⟨rfl, rfl⟩ := hq.one (.inl ⟨0, 12, 1, 2, 3, HC.out, rfl, rfl⟩)
  have hc := fun W => cmp5 W 0 12 1 2 3 0 12 1 2 3
  simp at hc
  have hgd := grd5
  have kk := Shut.mk ((KK.out.trans k3).trans k4)
  unfold arr5
  go_wp2
  go_ret
  exact ⟨rfl, kk.out.alloc _⟩
end Go.Proofs.YtdjfdobcjakmhaaDoor
end

section
/- The walk of TranscriptMakes. -/
set_option linter.unusedSimpArgs false
set_option linter.unusedVariables false
namespace Go.Proofs.YtdjfdobcjakmhaaDoor
open Go.RowKit Go.Maps

theorem RdI.sl5 (w : World) (a b c d e : Int) : RdI (w.alloc (.cells #[.int .i64 a, .int .i64 b, .int .i64 c, .int .i64 d, .int .i64 e] 3)) (.slice (some ⟨w.heap.size, 0, none⟩) 5 5) [a, b, c, d, e] := RdI.lit w [a, b, c, d, e] (by simp)
/-- What a call of the program's leaves of two arenas. -/
def TP (w : World) (X : Nat → Prop) (p q : Value) (r s : List Nd) (n : Nat) (b : Bool) (Q : List Nd → Int → Prop) (e : Ending) (W' : World) : Prop :=
  ∃ (r' : List Nd) (t : Int), e = .returned (.tuple #[.int .i64 t, .int .i64 (eB b)]) ∧ Ta w X W' p q (atomsL 10 ++ (r ++ r')) (atomsL 10 ++ s) ∧ r'.length ≤ n ∧ (b = true → Q (atomsL 10 ++ (r ++ r')) t) ∧ (b = false → t = 0)
def TD (w : World) (X : Nat → Prop) (p q : Value) (r s : List Nd) (n : Nat) (b : Bool) (Q : List Nd → Int → Prop) (e : Ending) (W' : World) : Prop :=
  ∃ (s' : List Nd) (t : Int), e = .returned (.tuple #[.int .i64 t, .int .i64 (eB b)]) ∧ Ta w X W' p q (atomsL 10 ++ r) (atomsL 10 ++ (s ++ s')) ∧ s'.length ≤ n ∧ (b = true → Q (atomsL 10 ++ (s ++ s')) t)
theorem Ta.pa {w : World} {X : Nat → Prop} {W : World} {p q : Value} {r s : List Nd} {n : Nat} {b : Bool} {Q : List Nd → Int → Prop} {P : Program} {f : Nat} {args : Array Value} (T : Ta w X W p q (atomsL 10 ++ r) (atomsL 10 ++ s))
    (h : ∀ S, At w S W p (atomsL 10 ++ r) → Calls P f args W (PA w S W p (atomsL 10 ++ r) n b Q)) : Calls P f args W (TP w X p q r s n b Q) := by
  obtain ⟨S, a, _, _, back⟩ := T.prog
  refine (h S a).mono ?_
  rintro e W' ⟨r', t, he, ha, hr, hq, h0, hk⟩
  exact ⟨r', t, he, by rw [← List.append_assoc]; exact back W' _ ha hk, hr, fun hb => by rw [← List.append_assoc]; exact hq hb, h0⟩
theorem Ta.ra {w : World} {X : Nat → Prop} {W : World} {p q : Value} {r s : List Nd} {n : Nat} {b : Bool} {Q : List Nd → Int → Prop} {P : Program} {f : Nat} {args : Array Value} (T : Ta w X W p q (atomsL 10 ++ r) (atomsL 10 ++ s))
    (h : ∀ S, AtR w S W q (atomsL 10 ++ s) → Calls P f args W (RAny w S W q (atomsL 10 ++ s) n b Q)) : Calls P f args W (TD w X p q r s n b Q) := by
  obtain ⟨S, a, _, _, back⟩ := T.doc
  refine (h S a).mono ?_
  rintro e W' ⟨s', t, he, ha, hs, hq, hk⟩
  exact ⟨s', t, he, by rw [← List.append_assoc]; exact back W' _ ha hk, hs, fun hb => by rw [← List.append_assoc]; exact hq hb⟩
theorem Ta.same12 {w : World} {X : Nat → Prop} {W : World} {p q : Value} {ds es : List Nd} {T : Tr} {x y : Int} {b : Bool} (h : Ta w X W p q ds es) (hx : b = true → Den T ds x) (h0 : b = false → x = 0) (hy : b = true → Den T es y) :
    Calls Tryd.prog 14 #[p, q, .int .i64 x, .int .i64 (eB b), .int .i64 y, .int .i64 (eB b)] W fun e W' => e = .returned (.bool true) ∧ Ta w X W' p q ds es := by
  obtain ⟨F, G, hF, hG, _⟩ := h.ar
  exact (same12_any hF hG hx h0 hy).mono fun e W' k => ⟨k.1, h.step k.2⟩
theorem den_more2 {T : Tr} {r s : List Nd} {t : Int} (h : Den T (atomsL 10 ++ r) t) : Den T (atomsL 10 ++ (r ++ s)) t := by rw [← List.append_assoc]; exact h.more s
end Go.Proofs.YtdjfdobcjakmhaaDoor
end

section
/- The walk of ScheduleDerives (written by gen_scv.py). -/
set_option linter.unusedSimpArgs false
set_option linter.unusedVariables false
namespace Go.Proofs.YtdjfdobcjakmhaaDoor
open Go.RowKit Go.Maps

theorem Near.sub {n : Int} {l m : List Int} (h : Near n l) (hs : ∀ x ∈ m, x ∈ l) : Near n m := fun x hx => h x (hs x hx)
theorem Ta.of {w W : World} {p q : Value} {k : Nat} (hT : Tabs w) (h : TwoS w p q k W) : Ta w (fun _ => False) W p q (atomsL k) (atomsL k) := by
  obtain ⟨F, G, hA, hR, hFG, hF, hG, k1⟩ := h
  exact ⟨⟨F, G, hA, hR, hFG, fun b hb => ⟨hF b hb, id⟩, fun b hb => ⟨hG b hb, id⟩⟩, fun b hb => absurd hb id, k1, hT⟩
theorem Ta.ptrs {w : World} {X : Nat → Prop} {W : World} {p q : Value} {ds es : List Nd} (h : Ta w X W p q ds es) : ∃ pb qb : Nat, p = .pointer (some ⟨pb, 0, none⟩) ∧ q = .pointer (some ⟨qb, 0, none⟩) := by
  obtain ⟨F, G, hF, hG, _, _, _⟩ := h.ar
  obtain ⟨pb, pm, nv, rfl, _, _, _⟩ := ArG.nodes hF
  obtain ⟨qb, qm, nv', rfl, _, _, _⟩ := ArG.nodes hG
  exact ⟨pb, qb, rfl, rfl⟩
/-- A block that stays: one that X has. -/
theorem Ta.blk {S X : Nat → Prop} {W W' : World} {g : Nat} {e : TypeId} {xs : List Value} (b : Blk W g e xs) (k : Keep S W W') (hX : ∀ b, X b → S b) (hg : X g) : Blk W' g e xs := k.blk b (hX _ hg)
theorem Ta.bis {w : World} {X : Nat → Prop} {W W1 : World} {p q lv : Value} {ds es : List Nd} {T : Tr} {x y : Int} (h : Ta w X W p q ds es) (k : Kept W W1) (hl : OwnNs W.heap.size W1 lv ds) (hx : Den T ds x) (hy : Den T es y) :
    Calls Tryd.prog 40 #[q, lv, .int .i64 y, .int .i64 x, .map (some W1.heap.size)] (W1.alloc (.map #[] 0)) fun e w' => e = .returned (.bool true) ∧ Kept W w' := by
  obtain ⟨F, G, hF, hG, _, _, _⟩ := h.ar
  have ka : Kept W1 (W1.alloc (.map #[] 0)) := (Kept.refl W1).alloc _
  have hlk := hl.kept ka
  have hU : RdNsU (fun b => b = W1.heap.size) (W1.alloc (.map #[] 0)) lv ds := by
    obtain ⟨lvs, h1, h2, h3⟩ := hl
    obtain ⟨lvs', g1, g2, g3⟩ := hlk
    refine ⟨lvs, h1, fun V t => ⟨?_, fun i hi => ?_⟩⟩
    · exact (Ownv.turn (Ownv.kept h2 ka) t fun b hb e => by have e' : b = W1.heap.size := e; have := (Ownv.lt h2 hb).1; omega).rdv
    · exact (Ownv.turn (Ownv.kept (h3 i hi).1 ka) t fun b hb e => by have e' : b = W1.heap.size := e; have := (Ownv.lt (h3 i hi).1 hb).1; omega).rdv
  refine (bisD (ArG.kept hG (k.trans ka)) hF.good hF.few (fun c => by have := hG.lt _ c; have := k.size; omega) hU (met_new W1 es ds) hx hy).mono ?_
  rintro e w' ⟨he, ht, _⟩
  exact ⟨he, Turn.keptOf (k.trans ka) ht (fun b e => by have e' : b = W1.heap.size := e; have := k.size; omega)⟩
end Go.Proofs.YtdjfdobcjakmhaaDoor
end

section
/- The walk of TranscriptMakes (written by gen_tsw.py). -/
set_option linter.unusedSimpArgs false
set_option linter.unusedVariables false
namespace Go.Proofs.YtdjfdobcjakmhaaDoor
open Go.RowKit Go.Maps

set_option maxHeartbeats 16000000 in
set_option maxRecDepth 100000 in
theorem makes12_walk {w : World} {x y z n u v : Int} (ix : I64 x) (iy : I64 y) (iz : I64 z) (jn : I64 n) (iu : I64 u) (iv : I64 v) (ht : Tabs w) (hte : TabsE w) :
    Calls Tryd.prog 3 #[.int .i64 x, .int .i64 y, .int .i64 z, .int .i64 n, .int .i64 u, .int .i64 v] w fun e w' => e = .returned (.bool true) ∧ Kept w w' := by
  have HT := Lib.hid ht
  have HTE := Lib.hid hte
  have HI := Shut.mk (And.intro ix (And.intro iy (And.intro iz (And.intro jn (And.intro iu iv)))))
  clear ht hte ix iy iz jn iu iv
  go_enter Tryd.func3, Tryd.ntmps3
  go_wp2_with fail
  (with_reducible refine (live12_any HT.out HTE.out).mono ?_); rintro e w1 ⟨rfl, k1⟩
  have ks : Kept w1 (w1.alloc (.cells #[.int .i64 x, .int .i64 y, .int .i64 z, .int .i64 u, .int .i64 v] 3)) := (Kept.refl w1).alloc _
  have HB := Lib.hid (beyond_any (RdI.sl5 w1 x y z u v) 10)
  go_wp2_with fail
  generalize w1.alloc (.cells #[.int .i64 x, .int .i64 y, .int .i64 z, .int .i64 u, .int .i64 v] 3) = w1' at *
  (with_reducible refine HB.out.mono ?_); rintro e w2 ⟨b1, rfl, hb1, k2⟩
  clear HB
  have k12 := (k1.trans ks).trans k2
  clear k1 ks k2
  cases b1 with
  | true =>
    clear hb1
    go_wp2
    go_ret
    exact ⟨rfl, k12⟩
  | false =>
    have N0 := hb1 rfl
    have N1 := Shut.mk (show Near 10 [x, y, z] from N0.sub (fun y hy => by simp only [List.mem_cons, List.not_mem_nil, or_false] at hy ⊢; omega))
    have N2 := Shut.mk (show Near 10 [x, y] from N0.sub (fun y hy => by simp only [List.mem_cons, List.not_mem_nil, or_false] at hy ⊢; omega))
    have N3 := Shut.mk (show Near 10 [x, y, u, v] from N0.sub (fun y hy => by simp only [List.mem_cons, List.not_mem_nil, or_false] at hy ⊢; omega))
    have K12 := Lib.hid k12
    clear hb1 N0 k12
    go_wp2_with fail
    (with_reducible refine (two12_any (HT.out.kept K12.out)).mono ?_); rintro e w3 ⟨p, q, pa, rfl, rfl, hs⟩
    have T0 := Lib.hid (Ta.of (HT.out.kept K12.out) hs)
    obtain ⟨pb, qb, hp, rfl⟩ := T0.out.ptrs
    rw [hp] at T0
    obtain rfl : pa = ⟨pb, 0, none⟩ := by injection hp with hp; injection hp
    have T0 := Lib.hid (show Ta w2 (fun _ => False) w3 (.pointer (some ⟨pb, 0, none⟩)) (.pointer (some ⟨qb, 0, none⟩)) (atomsL 10 ++ []) (atomsL 10 ++ []) by rw [List.append_nil]; exact T0.out)
    clear hs hp
    generalize (fun _ => False : Nat → Prop) = X at *
    have PC := Lib.hid (fun W (r s : List Nd) (T : Ta w2 X W (.pointer (some ⟨pb, 0, none⟩)) (.pointer (some ⟨qb, 0, none⟩)) (atomsL 10 ++ r) (atomsL 10 ++ s)) (hr : r.length ≤ 300 ∧ s.length ≤ 300) => T.pa (fun S a => PConfirmed_any a N1.out HI.out.1 HI.out.2.1 HI.out.2.2.1 (by omega)))
    have RC := Lib.hid (fun W (r s : List Nd) (T : Ta w2 X W (.pointer (some ⟨pb, 0, none⟩)) (.pointer (some ⟨qb, 0, none⟩)) (atomsL 10 ++ r) (atomsL 10 ++ s)) (hr : r.length ≤ 300 ∧ s.length ≤ 300) => T.ra (fun S a => RConfirmed_any a N1.out HI.out.1 HI.out.2.1 HI.out.2.2.1 (by omega)))
    have PT := Lib.hid (fun W (r s : List Nd) (T : Ta w2 X W (.pointer (some ⟨pb, 0, none⟩)) (.pointer (some ⟨qb, 0, none⟩)) (atomsL 10 ++ r) (atomsL 10 ++ s)) (hr : r.length ≤ 300 ∧ s.length ≤ 300) => T.pa (fun S a => PTag_any a N2.out HI.out.1 HI.out.2.1 (by omega)))
    have RT := Lib.hid (fun W (r s : List Nd) (T : Ta w2 X W (.pointer (some ⟨pb, 0, none⟩)) (.pointer (some ⟨qb, 0, none⟩)) (atomsL 10 ++ r) (atomsL 10 ++ s)) (hr : r.length ≤ 300 ∧ s.length ≤ 300) => T.ra (fun S a => RTag_any a N2.out HI.out.1 HI.out.2.1 (by omega)))
    have PI := Lib.hid (fun W (r s : List Nd) (T : Ta w2 X W (.pointer (some ⟨pb, 0, none⟩)) (.pointer (some ⟨qb, 0, none⟩)) (atomsL 10 ++ r) (atomsL 10 ++ s)) (hr : r.length ≤ 300 ∧ s.length ≤ 300) => T.pa (fun S a => PInterim_any a N2.out HI.out.1 HI.out.2.1 (by omega)))
    have RI := Lib.hid (fun W (r s : List Nd) (T : Ta w2 X W (.pointer (some ⟨pb, 0, none⟩)) (.pointer (some ⟨qb, 0, none⟩)) (atomsL 10 ++ r) (atomsL 10 ++ s)) (hr : r.length ≤ 300 ∧ s.length ≤ 300) => T.ra (fun S a => RInterim_any a N2.out HI.out.1 HI.out.2.1 (by omega)))
    have PX := Lib.hid (fun W (r s : List Nd) (T : Ta w2 X W (.pointer (some ⟨pb, 0, none⟩)) (.pointer (some ⟨qb, 0, none⟩)) (atomsL 10 ++ r) (atomsL 10 ++ s)) (hr : r.length ≤ 300 ∧ s.length ≤ 300) => T.pa (fun S a => PContext_any a N3.out HI.out.2.2.2.1 (by omega)))
    have RX := Lib.hid (fun W (r s : List Nd) (T : Ta w2 X W (.pointer (some ⟨pb, 0, none⟩)) (.pointer (some ⟨qb, 0, none⟩)) (atomsL 10 ++ r) (atomsL 10 ++ s)) (hr : r.length ≤ 300 ∧ s.length ≤ 300) => T.ra (fun S a => RContext_any a N3.out HI.out.2.2.2.1 HI.out.1 HI.out.2.1 HI.out.2.2.2.2.1 HI.out.2.2.2.2.2 (by omega)))
    have PS := Lib.hid (fun W (r s : List Nd) (T : Ta w2 X W (.pointer (some ⟨pb, 0, none⟩)) (.pointer (some ⟨qb, 0, none⟩)) (atomsL 10 ++ r) (atomsL 10 ++ s)) (hr : r.length ≤ 300 ∧ s.length ≤ 300) => T.pa (fun S a => PStart_any a (by omega)))
    have RS := Lib.hid (fun W (r s : List Nd) (T : Ta w2 X W (.pointer (some ⟨pb, 0, none⟩)) (.pointer (some ⟨qb, 0, none⟩)) (atomsL 10 ++ r) (atomsL 10 ++ s)) (hr : r.length ≤ 300 ∧ s.length ≤ 300) => T.ra (fun S a => (textDR_ok a [] (by decide) (by rw [List.length_append, atomsL_len]; omega)).mono fun e w q => RAny.of_ok q))
    simp only [show strB [] = ⟨#[]⟩ from rfl] at RS
    obtain ⟨bS, hbS⟩ : ∃ b : Bool, b = true := ⟨true, rfl⟩
    rw [← hbS] at PS RS
    have HbS := Shut.mk hbS
    clear hbS
    generalize (decide (0 ≤ n) && tB [x, y, u, v]) = bX at *
    generalize tB [x, y, z] = bC at *
    generalize tB [x, y] = bT at *
    have H := Lib.hid (PC.out _ [] [] T0.out ⟨by simp only [List.length_append, List.length_nil]; omega, by simp only [List.length_append, List.length_nil]; omega⟩)
    go_wp2_with fail
    (with_reducible refine H.out.mono ?_); rintro e w4 ⟨r4, t4, rfl, T4, l4, q4, z4⟩
    have T4 := Lib.hid T4
    have Q4 := Shut.mk (And.intro q4 z4)
    clear H q4 z4 T0
    have H := Lib.hid (RC.out _ ([] ++ r4) [] T4.out ⟨by simp only [List.length_append, List.length_nil]; omega, by simp only [List.length_append, List.length_nil]; omega⟩)
    go_wp2_with fail
    (with_reducible refine H.out.mono ?_); rintro e w5 ⟨r5, t5, rfl, T5, l5, q5⟩
    have T5 := Lib.hid T5
    have Q5 := Shut.mk q5
    clear H q5 T4
    have H := Lib.hid (T5.out.same12 (Q4.out.1) Q4.out.2 (Q5.out))
    go_wp2_with fail
    (with_reducible refine H.out.mono ?_); rintro e w6 ⟨rfl, T6⟩
    have T6 := Lib.hid T6
    clear H T5
    have H := Lib.hid (PT.out _ ([] ++ r4) ([] ++ r5) T6.out ⟨by simp only [List.length_append, List.length_nil]; omega, by simp only [List.length_append, List.length_nil]; omega⟩)
    go_wp2_with fail
    (with_reducible refine H.out.mono ?_); rintro e w7 ⟨r7, t7, rfl, T7, l7, q7, z7⟩
    have T7 := Lib.hid T7
    have Q7 := Shut.mk (And.intro q7 z7)
    clear H q7 z7 T6
    have H := Lib.hid (RT.out _ (([] ++ r4) ++ r7) ([] ++ r5) T7.out ⟨by simp only [List.length_append, List.length_nil]; omega, by simp only [List.length_append, List.length_nil]; omega⟩)
    go_wp2_with fail
    (with_reducible refine H.out.mono ?_); rintro e w8 ⟨r8, t8, rfl, T8, l8, q8⟩
    have T8 := Lib.hid T8
    have Q8 := Shut.mk q8
    clear H q8 T7
    have H := Lib.hid (T8.out.same12 (Q7.out.1) Q7.out.2 (Q8.out))
    go_wp2_with fail
    (with_reducible refine H.out.mono ?_); rintro e w9 ⟨rfl, T9⟩
    have T9 := Lib.hid T9
    clear H T8
    have H := Lib.hid (PI.out _ (([] ++ r4) ++ r7) (([] ++ r5) ++ r8) T9.out ⟨by simp only [List.length_append, List.length_nil]; omega, by simp only [List.length_append, List.length_nil]; omega⟩)
    go_wp2_with fail
    (with_reducible refine H.out.mono ?_); rintro e w10 ⟨r10, t10, rfl, T10, l10, q10, z10⟩
    have T10 := Lib.hid T10
    have Q10 := Shut.mk (And.intro q10 z10)
    clear H q10 z10 T9
    have H := Lib.hid (RI.out _ ((([] ++ r4) ++ r7) ++ r10) (([] ++ r5) ++ r8) T10.out ⟨by simp only [List.length_append, List.length_nil]; omega, by simp only [List.length_append, List.length_nil]; omega⟩)
    go_wp2_with fail
    (with_reducible refine H.out.mono ?_); rintro e w11 ⟨r11, t11, rfl, T11, l11, q11⟩
    have T11 := Lib.hid T11
    have Q11 := Shut.mk q11
    clear H q11 T10
    have H := Lib.hid (T11.out.same12 (Q10.out.1) Q10.out.2 (Q11.out))
    go_wp2_with fail
    (with_reducible refine H.out.mono ?_); rintro e w12 ⟨rfl, T12⟩
    have T12 := Lib.hid T12
    clear H T11
    have H := Lib.hid (PX.out _ ((([] ++ r4) ++ r7) ++ r10) ((([] ++ r5) ++ r8) ++ r11) T12.out ⟨by simp only [List.length_append, List.length_nil]; omega, by simp only [List.length_append, List.length_nil]; omega⟩)
    go_wp2_with fail
    (with_reducible refine H.out.mono ?_); rintro e w13 ⟨r13, t13, rfl, T13, l13, q13, z13⟩
    have T13 := Lib.hid T13
    have Q13 := Shut.mk (And.intro q13 z13)
    clear H q13 z13 T12
    have H := Lib.hid (RX.out _ (((([] ++ r4) ++ r7) ++ r10) ++ r13) ((([] ++ r5) ++ r8) ++ r11) T13.out ⟨by simp only [List.length_append, List.length_nil]; omega, by simp only [List.length_append, List.length_nil]; omega⟩)
    go_wp2_with fail
    (with_reducible refine H.out.mono ?_); rintro e w14 ⟨r14, t14, rfl, T14, l14, q14⟩
    have T14 := Lib.hid T14
    have Q14 := Shut.mk q14
    clear H q14 T13
    have H := Lib.hid (PS.out _ (((([] ++ r4) ++ r7) ++ r10) ++ r13) (((([] ++ r5) ++ r8) ++ r11) ++ r14) T14.out ⟨by simp only [List.length_append, List.length_nil]; omega, by simp only [List.length_append, List.length_nil]; omega⟩)
    go_wp2_with fail
    (with_reducible refine H.out.mono ?_); rintro e w15 ⟨r15, t15, rfl, T15, l15, q15, z15⟩
    have T15 := Lib.hid T15
    have Q15 := Shut.mk (And.intro q15 z15)
    clear H q15 z15 T14
    have H := Lib.hid (RS.out _ ((((([] ++ r4) ++ r7) ++ r10) ++ r13) ++ r15) (((([] ++ r5) ++ r8) ++ r11) ++ r14) T15.out ⟨by simp only [List.length_append, List.length_nil]; omega, by simp only [List.length_append, List.length_nil]; omega⟩)
    go_wp2_with fail
    (with_reducible refine H.out.mono ?_); rintro e w16 ⟨r16, t16, rfl, T16, l16, q16⟩
    have T16 := Lib.hid T16
    have Q16 := Shut.mk q16
    clear H q16 T15
    have H := Lib.hid (T16.out.same12 (fun h => den_more2 (Q13.out.1 h)) Q13.out.2 (fun h => den_more2 (Q14.out h)))
    go_wp2_with fail
    (with_reducible refine H.out.mono ?_); rintro e w17 ⟨rfl, T17⟩
    have T17 := Lib.hid T17
    clear H T16
    have H := Lib.hid (T17.out.same12 (Q15.out.1) Q15.out.2 (Q16.out))
    go_wp2_with fail
    (with_reducible refine H.out.mono ?_); rintro e w18 ⟨rfl, T18⟩
    have T18 := Lib.hid T18
    clear H T17
    go_wp2
    go_ret
    exact ⟨rfl, K12.out.trans T18.out.kept⟩
end Go.Proofs.YtdjfdobcjakmhaaDoor
end
