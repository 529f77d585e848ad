/- Texts of one proof, put together: RtP, RtQ, RtT, RtU, Rp0, RpA, RpB, RpC, RpD, RpE. -/
import Derived.Test.YtnmaiokhndbicaaGreatDoorMg03
import Derived.Test.YtnmaiokhndbicaaGreatDoorMg06
import Derived.Test.YtnmaiokhndbicaaGreatDoorMg02
import Derived.Shelf.Abstract
section
/- Nodes of the call's own of which one is an argument's; zero nodes at the end; Unmerged that grow. -/
set_option linter.unusedSimpArgs false
set_option linter.unusedVariables false
namespace Go.Proofs.YtnmaiokhndbicaaGreatDoor
open Go.RowKit
open Rt

def zero6 : Array Value := #[.int .i64 0, .int .i64 0, .int .i64 0, .int .i64 0, .int .i64 0, .slice none 0 0]
theorem zero6_flat (m : Nat) : (Builtin.zeroCells zero6 m).toList = tflat (List.replicate m tn0) (List.replicate m (.slice none 0 0)) := by
  refine List.ext_getElem? fun q => ?_
  have hlz : (Builtin.zeroCells zero6 m).toList.length = m * 6 := by rw [Array.length_toList, size_zeroCells]; rfl
  by_cases hq : q < m * 6
  · have e : q = q / 6 * 6 + q % 6 := by omega
    have h6 : q % 6 < 6 := by omega
    have hi : q / 6 < m := by omega
    have h1 : (Builtin.zeroCells zero6 m).toList[q]? = some (zero6[q % 6]!) := by
      rw [Array.getElem?_toList]
      unfold Builtin.zeroCells
      rw [Array.getElem?_map, Array.getElem?_range, if_pos (by simpa [zero6] using hq)]
      rfl
    rw [h1]
    rw [e]
    generalize q / 6 = i at hi
    generalize q % 6 = j at h6
    rw [tflat_at _ _ i j (by rw [List.length_replicate]; exact hi) h6]
    have hnd : nd (List.replicate m tn0) i = tn0 := by unfold nd; rw [List.getD_eq_getElem?_getD, List.getElem?_replicate_of_lt hi]; rfl
    have hlv : (List.replicate m (Value.slice none 0 0)).getD i undef = .slice none 0 0 := by rw [List.getD_eq_getElem?_getD, List.getElem?_replicate_of_lt hi]; rfl
    rw [hnd, hlv, show (i * 6 + j) % 6 = j by omega]
    have : j = 0 ∨ j = 1 ∨ j = 2 ∨ j = 3 ∨ j = 4 ∨ j = 5 := by omega
    rcases this with rfl | rfl | rfl | rfl | rfl | rfl <;> rfl
  · rw [List.getElem?_eq_none (by rw [hlz]; omega), List.getElem?_eq_none (by rw [tflat_length, List.length_replicate]; omega)]
theorem tflat_append (ds es : List TN) (ls ks : List Value) (h : ls.length = ds.length) : tflat (ds ++ es) (ls ++ ks) = tflat ds ls ++ tflat es ks := by
  induction ds generalizing ls with
  | nil => cases ls with
    | nil => rfl
    | cons _ _ => cases h
  | cons d ds ih => cases ls with
    | nil => cases h
    | cons v ls =>
      show tnCells d v ++ tflat (ds ++ es) (ls ++ ks) = (tnCells d v ++ tflat ds ls) ++ tflat es ks
      rw [ih ls (by simpa using h), List.append_assoc]
theorem nd_rep {m i : Nat} : nd (List.replicate m tn0) i = tn0 := by
  unfold nd
  rw [List.getD_eq_getElem?_getD, List.getElem?_replicate]
  split <;> rfl
theorem nd_app {ds es : List TN} {i : Nat} : nd (ds ++ es) i = if i < ds.length then nd ds i else nd es (i - ds.length) := by
  unfold nd
  by_cases c : i < ds.length
  · rw [if_pos c, List.getD_eq_getElem?_getD, List.getElem?_append_left c, ← List.getD_eq_getElem?_getD]
  · rw [if_neg c, List.getD_eq_getElem?_getD, List.getElem?_append_right (by omega), ← List.getD_eq_getElem?_getD]
theorem lv_app {ls ks : List Value} {i : Nat} : (ls ++ ks).getD i undef = if i < ls.length then ls.getD i undef else ks.getD (i - ls.length) undef := by
  by_cases c : i < ls.length
  · rw [if_pos c, List.getD_eq_getElem?_getD, List.getElem?_append_left c, ← List.getD_eq_getElem?_getD]
  · rw [if_neg c, List.getD_eq_getElem?_getD, List.getElem?_append_right (by omega), ← List.getD_eq_getElem?_getD]
theorem lv_rep {m i : Nat} (h : i < m) : (List.replicate m (Value.slice none 0 0)).getD i undef = .slice none 0 0 := by
  rw [List.getD_eq_getElem?_getD, List.getElem?_replicate_of_lt h]; rfl
/-- Zero nodes behind those of the call's own. -/
theorem OwnT.zeros {B : Nat} {w w' : World} {v v' : Value} {ds : List TN} {lvs : List Value} (h : OwnT B w v ds lvs) (m : Nat)
    (ho : Ownv B 29 6 w' v' (ds.length + m) (tflat ds lvs ++ (Builtin.zeroCells zero6 m).toList)) (ht : Turn (Blks v) w w') :
    OwnT B w' v' (ds ++ List.replicate m tn0) (lvs ++ List.replicate m (.slice none 0 0)) := by
  have hl := h.len
  have hun : ∀ i, i < ds.length + m → OwnI B w' ((lvs ++ List.replicate m (Value.slice none 0 0)).getD i undef) (nd (ds ++ List.replicate m tn0) i).un := fun i hi => by
    rw [nd_app, lv_app, hl]
    by_cases c : i < ds.length
    · rw [if_pos c, if_pos c]
      exact Ownv.turn (h.un i c) ht fun b hb hv => Ownv.apart (h.un i c) h.row (by decide) hb hv
    · rw [if_neg c, if_neg c, nd_rep, lv_rep (by omega)]
      exact OwnI.nil _ _
  refine ⟨?_, by simp [hl], fun i hi => ?_, fun i j hi hj hij b => ?_⟩
  · rw [List.length_append, List.length_replicate, tflat_append _ _ _ _ hl, ← zero6_flat]
    exact ho
  · rw [List.length_append, List.length_replicate] at hi
    exact hun i hi
  · rw [List.length_append, List.length_replicate] at hi hj
    rw [lv_app, lv_app, hl]
    by_cases c : i < ds.length
    · rw [if_pos c]
      by_cases c2 : j < ds.length
      · rw [if_pos c2]; exact h.apart i j c c2 hij b
      · rw [if_neg c2, lv_rep (by omega)]
        exact fun _ hb => by cases hb
    · rw [if_neg c, lv_rep (by omega)]
      exact fun hb => by cases hb
/-- Nodes that lie in a row g of the call's own; all Unmerged but that of the place q are the call's own, each for itself, apart from the row pv; that of q is none. -/
structure MixT (B g cap q : Nat) (pv : Value) (pl : List Int) (w : World) (ds : List TN) (lvs : List Value) : Prop where
  row : Ownv B 29 6 w (.slice (some ⟨g, 0, none⟩) ds.length cap) ds.length (tflat ds lvs)
  len : lvs.length = ds.length
  un : ∀ i, i < ds.length → i ≠ q → OwnI B w (lvs.getD i undef) (nd ds i).un
  apart : ∀ i j, i < ds.length → j < ds.length → i ≠ q → j ≠ q → i ≠ j → ∀ b, Blks (lvs.getD i undef) b → ¬ Blks (lvs.getD j undef) b
  emp : (nd ds q).un = []
  at' : ∀ W, RdI W (lvs.getD q undef) []
  pth : OwnI B w pv pl
  pap : ∀ i, i < ds.length → i ≠ q → ∀ b, Blks (lvs.getD i undef) b → ¬ Blks pv b
theorem MixT.rd {B g cap q : Nat} {pv : Value} {pl : List Int} {w : World} {ds : List TN} {lvs : List Value} (h : MixT B g cap q pv pl w ds lvs) : RdTs w (.slice (some ⟨g, 0, none⟩) ds.length cap) ds :=
  ⟨lvs, h.len, Ownv.rdv h.row, fun i hi => by
    by_cases c : i = q
    · rw [c, h.emp]; exact h.at' w
    · exact OwnI.rd (h.un i hi c)⟩
theorem MixT.kept {B g cap q : Nat} {pv : Value} {pl : List Int} {w w' : World} {ds : List TN} {lvs : List Value} (h : MixT B g cap q pv pl w ds lvs) (k : Kept w w') : MixT B g cap q pv pl w' ds lvs :=
  ⟨Ownv.kept h.row k, h.len, fun i hi hq => Ownv.kept (h.un i hi hq) k, h.apart, h.emp, h.at', Ownv.kept h.pth k, h.pap⟩
theorem MixT.cells {B g cap q : Nat} {pv : Value} {pl : List Int} {w : World} {us : List TN} {lvs : List Value} (h : MixT B g cap q pv pl w us lvs) {x : Nat} (hx : x < us.length) :
    TnAt w g (x * 6) (nd us x) (lvs.getD x undef) ∧ ∀ q, w.frozen? ⟨g, q, none⟩ = false := by
  have hat := fun j hj => (tflat_at us lvs x j hx hj)
  refine ⟨⟨?_, ?_, ?_, ?_, ?_, ?_⟩, fun q => Ownv.free h.row q⟩
  · exact Ownv.cell0 h.row (x * 6) ((hat 0 (by omega)).trans rfl)
  · exact Ownv.cell0 h.row (x * 6 + 1) ((hat 1 (by omega)).trans rfl)
  · exact Ownv.cell0 h.row (x * 6 + 2) ((hat 2 (by omega)).trans rfl)
  · exact Ownv.cell0 h.row (x * 6 + 3) ((hat 3 (by omega)).trans rfl)
  · exact Ownv.cell0 h.row (x * 6 + 4) ((hat 4 (by omega)).trans rfl)
  · exact Ownv.cell0 h.row (x * 6 + 5) ((hat 5 (by omega)).trans rfl)
/-- The leaf q is written. -/
theorem OwnT.mix {B g cap : Nat} {w w' : World} {ds : List TN} {lvs : List Value} (h : OwnT B w (.slice (some ⟨g, 0, none⟩) ds.length cap) ds lvs) {q : Nat} (hq : q < ds.length) (d : TN) (lv : Value) (hd : d.un = []) (hlv : ∀ W, RdI W lv [])
    {pv : Value} {pl : List Int} (k : Kept (put6 w g (q * 6) d lv) w') (hp : OwnI w.heap.size w' pv pl) : MixT B g cap q pv pl w' (ds.set q d) (lvs.set q lv) := by
  have ht := put6_turn w g (q * 6) d lv
  have hrow := (((((h.row.put (i := q * 6) (by omega) (.int .i64 d.kd)).put (i := q * 6 + 1) (by omega) (.int .i64 d.id)).put (i := q * 6 + 2) (by omega) (.int .i64 d.enc)).put (i := q * 6 + 3) (by omega) (.int .i64 d.sig)).put (i := q * 6 + 4) (by omega) (.int .i64 d.hash)).put (i := q * 6 + 5) (by omega) lv
  rw [tflat_set h.len hq] at hrow
  have hB : B ≤ w.heap.size := by have := Ownv.lt h.row (b := g) rfl; omega
  refine ⟨by rw [List.length_set]; exact Ownv.kept hrow k, by simp [h.len], fun i hi hne => ?_, fun i j hi hj hiq hjq hij => ?_, by rw [nd_set hq, if_pos rfl]; exact hd, by rw [lv_set (by rw [h.len]; exact hq), if_pos rfl]; exact hlv, Ownv.mono hp hB, fun i hi hne b hb hb2 => ?_⟩
  · rw [List.length_set] at hi
    rw [nd_set hq, lv_set (by rw [h.len]; exact hq), if_neg hne, if_neg hne]
    exact Ownv.kept (Ownv.turn (h.un i hi) ht fun b hb e => by
      subst e
      exact Ownv.apart (h.un i hi) h.row (by decide) hb rfl) k
  · rw [List.length_set] at hi hj
    rw [lv_set (by rw [h.len]; exact hq), lv_set (by rw [h.len]; exact hq), if_neg hiq, if_neg hjq]
    exact h.apart i j hi hj hij
  · rw [List.length_set] at hi
    rw [lv_set (by rw [h.len]; exact hq), if_neg hne] at hb
    have h1 := (Ownv.lt (h.un i hi) hb).1
    have h2 := (Ownv.lt hp hb2).2
    omega
theorem tflat_set5 {ds : List TN} {lvs : List Value} (hl : lvs.length = ds.length) {x : Nat} (hx : x < ds.length) (us : List Int) (lv : Value) :
    (tflat ds lvs).set (x * 6 + 5) lv = tflat (ds.set x { nd ds x with un := us }) (lvs.set x lv) := by
  refine List.ext_getElem? fun q => ?_
  by_cases hq : q < ds.length * 6
  · have e : q = q / 6 * 6 + q % 6 := by omega
    have h6 : q % 6 < 6 := by omega
    have hi : q / 6 < ds.length := by omega
    generalize q / 6 = i at e hi
    generalize q % 6 = j at e h6
    subst e
    rw [tflat_at (ds.set x _) (lvs.set x lv) i j (by simpa using hi) h6, nd_set hx, lv_set (by omega)]
    simp only [List.getElem?_set, List.length_set, tflat_length]
    by_cases c : i = x
    · subst c
      rw [if_pos rfl, if_pos rfl]
      have : j = 0 ∨ j = 1 ∨ j = 2 ∨ j = 3 ∨ j = 4 ∨ j = 5 := by omega
      rcases this with rfl | rfl | rfl | rfl | rfl | rfl
      · rw [if_neg (by omega)]; exact tflat_at ds lvs i 0 hi (by omega)
      · rw [if_neg (by omega)]; exact tflat_at ds lvs i 1 hi (by omega)
      · rw [if_neg (by omega)]; exact tflat_at ds lvs i 2 hi (by omega)
      · rw [if_neg (by omega)]; exact tflat_at ds lvs i 3 hi (by omega)
      · rw [if_neg (by omega)]; exact tflat_at ds lvs i 4 hi (by omega)
      · rw [if_pos rfl, if_pos (by omega)]; rfl
    · rw [if_neg c, if_neg c, if_neg (by omega)]
      exact tflat_at ds lvs i j hi h6
  · rw [List.getElem?_eq_none (by rw [List.length_set, tflat_length]; omega), List.getElem?_eq_none (by rw [tflat_length]; simp; omega)]
/-- The Unmerged of one node is grown. -/
theorem MixT.step {B g cap q : Nat} {pv : Value} {pl : List Int} {w w1 w2 w3 : World} {ds : List TN} {lvs : List Value} (h : MixT B g cap q pv pl w ds lvs) {x : Nat} (hx : x < ds.length) (hq : x ≠ q)
    (k1 : Kept w w1) (t2 : Turn (Blks (lvs.getD x undef)) w1 w2) (k3 : Kept w2 w3) {u : Value} {us : List Int} (hu : OwnI w2.heap.size w3 u us) :
    MixT B g cap q pv pl (w3.setCell ⟨g, x * 6 + 5, none⟩ u) (ds.set x { nd ds x with un := us }) (lvs.set x u) := by
  have hB : B ≤ w.heap.size ∧ g < w.heap.size := by have := Ownv.lt h.row (b := g) rfl; omega
  have hsz : w.heap.size ≤ w2.heap.size := Nat.le_trans k1.size t2.size
  have hgx : ¬ Blks (lvs.getD x undef) g := fun hb => Ownv.apart (h.un x hx hq) h.row (by decide) hb rfl
  have hrow : Ownv B 29 6 w3 (.slice (some ⟨g, 0, none⟩) ds.length cap) ds.length (tflat ds lvs) := Ownv.kept (Ownv.turn (Ownv.kept h.row k1) t2 (fun b hb => by
    have e : g = b := Option.some.inj (show some g = some b from hb)
    rw [← e]; exact hgx)) k3
  have hint : ∀ {v : Value} {zs : List Int}, OwnI B w v zs → (∀ b, Blks v b → ¬ Blks (lvs.getD x undef) b) → OwnI B (w3.setCell ⟨g, x * 6 + 5, none⟩ u) v zs := fun ho hn =>
    Ownv.setCell (ad := ⟨g, x * 6 + 5, none⟩) (Ownv.kept (Ownv.turn (Ownv.kept ho k1) t2 hn) k3) (fun hb => Ownv.apart ho h.row (by decide) hb rfl) u
  have hlx : x < lvs.length := by rw [h.len]; exact hx
  have hqs : (nd (ds.set x { nd ds x with un := us }) q).un = [] := by rw [nd_set hx, if_neg (Ne.symm hq)]; exact h.emp
  refine ⟨?_, by simp [h.len], fun i hi hne => ?_, fun i j hi hj hiq hjq hij b hb hb2 => ?_, hqs, by rw [lv_set hlx, if_neg (Ne.symm hq)]; exact h.at', hint h.pth (fun b hb hb2 => h.pap x hx hq b hb2 hb), fun i hi hne b hb hb2 => ?_⟩
  · rw [List.length_set, ← tflat_set5 h.len hx us u]
    exact hrow.put (by omega) u
  · rw [List.length_set] at hi
    rw [nd_set hx, lv_set hlx]
    by_cases c : i = x
    · rw [if_pos c, if_pos c]
      exact Ownv.setCell (Ownv.mono hu (by omega)) (fun hb => by have := (Ownv.lt hu hb).2; have hh : w2.heap.size ≤ g := this; omega) u
    · rw [if_neg c, if_neg c]
      exact hint (h.un i hi hne) (h.apart i x hi hx hne hq c)
  · rw [List.length_set] at hi hj
    rw [lv_set hlx] at hb hb2
    by_cases c : i = x
    · rw [if_pos c] at hb
      rw [if_neg (by omega)] at hb2
      have h1 := (Ownv.lt hu hb).2
      have h2 := (Ownv.lt (h.un j hj hjq) hb2).1
      omega
    · rw [if_neg c] at hb
      by_cases c2 : j = x
      · rw [if_pos c2] at hb2
        have h1 := (Ownv.lt hu hb2).2
        have h2 := (Ownv.lt (h.un i hi hiq) hb).1
        omega
      · rw [if_neg c2] at hb2
        exact h.apart i j hi hj hiq hjq hij b hb hb2
  · rw [List.length_set] at hi
    rw [lv_set hlx] at hb
    by_cases c : i = x
    · rw [if_pos c] at hb
      have h1 := (Ownv.lt hu hb).2
      have h2 := (Ownv.lt h.pth hb2).1
      omega
    · rw [if_neg c] at hb
      exact h.pap i hi hne b hb hb2
theorem MixT.cell3 {B g cap q : Nat} {pv : Value} {pl : List Int} {w w1 w2 w3 : World} {ds : List TN} {lvs : List Value} (h : MixT B g cap q pv pl w ds lvs) {x : Nat} (hx : x < ds.length) (hq : x ≠ q)
    (k1 : Kept w w1) (t2 : Turn (Blks (lvs.getD x undef)) w1 w2) (k3 : Kept w2 w3) : w3.cell? ⟨g, x * 6 + 5, none⟩ = some (lvs.getD x undef) ∧ w3.frozen? ⟨g, x * 6 + 5, none⟩ = false := by
  have hgx : ¬ Blks (lvs.getD x undef) g := fun hb => Ownv.apart (h.un x hx hq) h.row (by decide) hb rfl
  have hrow : Ownv B 29 6 w3 (.slice (some ⟨g, 0, none⟩) ds.length cap) ds.length (tflat ds lvs) := Ownv.kept (Ownv.turn (Ownv.kept h.row k1) t2 (fun b hb => by
    have e : g = b := Option.some.inj (show some g = some b from hb)
    rw [← e]; exact hgx)) k3
  exact ⟨Ownv.cell0 hrow (x * 6 + 5) ((tflat_at ds lvs x 5 hx (by omega)).trans rfl), Ownv.free hrow _⟩
end Go.Proofs.YtnmaiokhndbicaaGreatDoor
end

section
/- Walks of the document's answer: Add (written by gen_add.py). -/
set_option linter.unusedSimpArgs false
set_option linter.unusedVariables false
namespace Go.Proofs.YtnmaiokhndbicaaGreatDoor
open Go.RowKit
open Rt

theorem path_fresh {n i j : Nat} (hn : n ∈ Mth.fulls) (hi : i < n) (hj : j < (Mth.path (2 * i) n).length) :
    (Mth.path (2 * i) n).getD j 0 ∉ (Mth.path (2 * i) n).take j ∧ (Mth.path (2 * i) n).getD j 0 ≠ 2 * i ∧ (Mth.path (2 * i) n).getD j 0 < 2 * n - 1 := by
  have hb := fulls_bd hn
  have hi2 : 2 * i < 2 * n - 1 := by omega
  have hp := Mth.path_of hn hi2
  have hl0 : Mth.lvl (2 * i) = 0 := (Mth.top_at hn hi2).leaf (by omega) |>.1
  have hpl : (Mth.path (2 * i) n).length = _ := hp.len
  have hlv : ∀ c, c < (Mth.path (2 * i) n).length → Mth.lvl ((Mth.path (2 * i) n).getD c 0) = c + 1 ∧ (Mth.path (2 * i) n).getD c 0 < 2 * n - 1 := fun c hc => by
    have h1 : (Mth.path (2 * i) n).getD c 0 = Mth.itr (c + 1) (2 * i) := (hp.at' c (by omega)).1
    have h5 := (hp.at' c (by omega)).2.2
    have st := Mth.step_at hn h5.1 h5.2.1
    rw [h1, Mth.itr_succ]
    exact ⟨by rw [st.up]; omega, st.inP⟩
  have h0 := hlv j hj
  refine ⟨fun hm => ?_, fun e => ?_, h0.2⟩
  · obtain ⟨c, hc, hg⟩ := List.getElem_of_mem hm
    rw [List.length_take] at hc
    have h1 := (hlv c (by omega)).1
    rw [List.getElem_take] at hg
    rw [List.getD_eq_getElem?_getD, List.getElem?_eq_getElem (by omega)] at h1
    have h1 : Mth.lvl (Mth.path (2 * i) n)[c] = c + 1 := h1
    rw [hg, h0.1] at h1
    omega
  · have h1 := h0.1
    rw [e, hl0] at h1
    omega
/-- The first leaf that is not there; n: all are. -/
def fr (t : List TN) (n : Nat) : Nat := ((List.range n).find? fun i => !lk t i).getD n
theorem fr_of {t : List TN} {n k : Nat} (hk : k ≤ n) (hall : ∀ j, j < k → lk t j = true) (h : k = n ∨ lk t k = false) : fr t n = k := by
  unfold fr
  by_cases e : k = n
  · subst e
    rw [List.find?_eq_none.2 (fun x hx => by rw [hall x (List.mem_range.1 hx)]; decide)]
    rfl
  · have hl : lk t k = false := h.resolve_left e
    rw [List.find?_range_eq_some.2 ⟨by rw [hl]; rfl, List.mem_range.2 (by omega), fun j hj => by rw [hall j hj]; rfl⟩]
    rfl
/-- What Add answers. -/
def addE (t : List TN) (l : TN) : Int := bif chkB t && leafB l then (bif Nat.beq (fr t (lvs t.length)) (lvs t.length) && Nat.beq (lvs t.length) 256 then 2 else 0) else 1
def addI (t : List TN) (l : TN) : Int := bif decide (addE t l = 0) then ((fr t (lvs t.length) : Nat) : Int) else 0
def addT (t : List TN) (l : TN) : List TN :=
  bif decide (addE t l = 0) then (bif Nat.beq (fr t (lvs t.length)) (lvs t.length) then tab (t.length + 2 * lvs t.length) (addG (t ++ List.replicate (2 * lvs t.length) tn0) (lvs t.length) l) else tab t.length (addG t (fr t (lvs t.length)) l)) else []
def AddPost (w : World) (ts : List TN) (i er : Int) (e : Ending) (w' : World) : Prop := ∃ v, e = .returned (.tuple #[v, .int .i64 i, .int .i64 er]) ∧ RdTs w' v ts ∧ (∀ b, Blks v b → w.heap.size ≤ b) ∧ Kept w w'
theorem may_ris {t : List TN} {n : Nat} (m : MayN t n) : ∀ x, x < t.length → (nd t x).kd = 2 → (nd t x).un.Pairwise (· < ·) := fun x hx h2 => by
  have hx' : x < 2 * n - 1 := by rw [← m.len]; exact hx
  by_cases ho : x % 2 = 0
  · have := (m.leaf x hx' (by omega) ho).1
    omega
  · exact (m.par x hx' (by omega) (by omega)).2.2.2.1
theorem may_un2 {t : List TN} {n : Nat} (m : MayN t n) : ∀ x, x < t.length → (nd t x).un.length ≤ 1000 := fun x hx => by
  have := may_un m (nd t x) (by rw [nd_get hx]; exact List.getElem_mem hx)
  exact this
theorem fulls_dbl {n : Nat} (h : n ∈ Mth.fulls) (h2 : n ≠ 256) : 2 * n ∈ Mth.fulls ∧ n ≤ 128 := by
  have : ∀ m ∈ Mth.fulls, m ≠ 256 → 2 * m ∈ Mth.fulls ∧ m ≤ 128 := by decide +kernel
  exact this n h h2
theorem ones_zero6 (m : Nat) : ∀ u ∈ (Builtin.zeroCells (Value.agg zero6).cells m).toList, u.oneCell' = true := by
  intro u hu
  obtain ⟨i, hi, rfl⟩ := List.getElem_of_mem hu
  have h : (Builtin.zeroCells zero6 m).toList[i]? = some (zero6[i % 6]!) := by
    rw [Array.getElem?_toList]
    unfold Builtin.zeroCells
    have hi' : i < m * 6 := by
      have : i < (Builtin.zeroCells zero6 m).toList.length := hi
      rw [Array.length_toList, size_zeroCells] at this
      exact this
    rw [Array.getElem?_map, Array.getElem?_range, if_pos (by simpa [zero6] using hi')]
    rfl
  have h2 : (Builtin.zeroCells (Value.agg zero6).cells m).toList[i] = zero6[i % 6]! := Option.some.inj ((List.getElem?_eq_getElem hi).symm.trans h)
  rw [h2]
  have : i % 6 = 0 ∨ i % 6 = 1 ∨ i % 6 = 2 ∨ i % 6 = 3 ∨ i % 6 = 4 ∨ i % 6 = 5 := by omega
  rcases this with e | e | e | e | e | e <;> rw [e] <;> rfl
theorem go_appz {w : World} {ops : Array Oper} {rest : List Oper} {a : Act} {Q : Exit → Act → World → Prop} {d : Option Tmp} {ty : TypeId} {ps : String} {af : Array Edge} {s x : Operand}
    (B : Nat) (v : Value) (ds : List TN) (lvs : List Value) (hs : a.eval s = v) (ho : OwnT B w v ds lvs) (h0 : 0 < ds.length) (m : Nat) (hm0 : 0 < m) (hx : a.eval x = .int .i64 m) (hl : ds.length + m ≤ 1000000) (hB : B ≤ w.heap.size)
    (hK : ∀ v' w', OwnT B w' v' (ds ++ List.replicate m tn0) (lvs ++ List.replicate m (.slice none 0 0)) → Turn (Blks v) w w' → wpList Tryz.prog ops Q rest (a.put d v') w') :
    wpList Tryz.prog ops Q (⟨d, .call { callee := .builtin .append, args := #[s, x], argTypes := #[22, 3] }, ty, ps, af, none⟩ :: rest) a w := by
  obtain ⟨i0, hi, hz0, hz1, hz2⟩ := info_parts Tryz.infoTN
  refine go_app_make B 29 6 64 .i64 i0 (.agg zero6) Tryz.underlying22 Tryz.underlying3 hi hz0 hz1 hz2 rfl (by decide) ones_zero6 v ds.length (tflat ds lvs) hs ho.row h0 m hm0 hx (by unfold maxLen; omega) (by omega) hB ?_
  intro v' w' ho' ht _
  exact hK v' w' (ho.zeros m ho' ht) ht
end Go.Proofs.YtnmaiokhndbicaaGreatDoor
end

section
/- Plain facts of what Add answers. -/
set_option linter.unusedSimpArgs false
set_option linter.unusedVariables false
namespace Go.Proofs.YtnmaiokhndbicaaGreatDoor
open Go.RowKit
open Rt

theorem nd_zeros {t : List TN} {m x : Nat} : nd (t ++ List.replicate m tn0) x = nd t x := by
  rw [nd_app]
  by_cases c : x < t.length
  · rw [if_pos c]
  · rw [if_neg c, nd_rep, nd_out (by omega)]
theorem addG_grow {t : List TN} {n : Nat} {l : TN} (m : MayN t n) : tab (t.length + 2 * n) (addG (t ++ List.replicate (2 * n) tn0) n l) = tab (4 * n - 1) (growG t n l) := by
  have hb := fulls_bd m.hn
  have hlen := m.len
  refine tn_ext (by rw [tab_len, tab_len]; omega) fun x hx => ?_
  rw [tab_len] at hx
  rw [tab_nd hx, tab_nd (by omega)]
  unfold addG growG
  rw [nd_zeros]
  by_cases c : x = 2 * n
  · rw [if_pos c, if_pos c]
  · rw [if_neg c, if_neg c, if_neg (fun q => ?_)]
    have hxn : x < 2 * n - 1 := by
      cases Nat.lt_or_ge x (2 * n - 1) with
      | inl h => exact h
      | inr hge =>
        have := q.2
        rw [nd_out (by omega)] at this
        cases this
    have h1 := hi_le m.hn hxn
    have h2 := (Mth.hasB_iff.1 q.1).2
    omega
theorem fr_spec (t : List TN) (n : Nat) : fr t n ≤ n ∧ (∀ j, j < fr t n → lk t j = true) ∧ (fr t n = n ∨ lk t (fr t n) = false) := by
  have hx : ∀ b, ∃ k, k ≤ b ∧ (∀ j, j < k → lk t j = true) ∧ (k = b ∨ lk t k = false) := by
    intro b
    induction b with
    | zero => exact ⟨0, Nat.le_refl _, fun j h => absurd h (Nat.not_lt_zero _), .inl rfl⟩
    | succ b ih =>
      obtain ⟨k, h1, h2, h3⟩ := ih
      cases h3 with
      | inr h => exact ⟨k, by omega, h2, .inr h⟩
      | inl h =>
        cases hl : lk t b with
        | true => exact ⟨b + 1, Nat.le_refl _, fun j hj => by
            by_cases c : j = b
            · rw [c]; exact hl
            · exact h2 j (by omega), .inl rfl⟩
        | false => exact ⟨b, by omega, by rw [← h]; exact h2, .inr hl⟩
  obtain ⟨k, h1, h2, h3⟩ := hx n
  rw [fr_of h1 h2 h3]
  exact ⟨h1, h2, h3⟩
/-- What Add answers may be. -/
structure AddOk (t : List TN) (l : TN) (u : List TN) (i n m : Nat) : Prop where
  was : Rt.May t n
  may : Rt.May u m
  lt : i < m
  first : ∀ j, j < i → lk t j = true
  free : lk t i = false
  leaf : nd u (2 * i) = l
  others : ∀ j, j ≠ i → nd u (2 * j) = nd t (2 * j)
theorem add_ok {t : List TN} {l : TN} (h : addE t l = 0) : ∃ i n m : Nat, addI t l = (i : Int) ∧ AddOk t l (addT t l) i n m := by
  have hi : addI t l = ((fr t (lvs t.length) : Nat) : Int) := by unfold addI; rw [h]; rfl
  have ht : addT t l = bif Nat.beq (fr t (lvs t.length)) (lvs t.length) then tab (t.length + 2 * lvs t.length) (addG (t ++ List.replicate (2 * lvs t.length) tn0) (lvs t.length) l) else tab t.length (addG t (fr t (lvs t.length)) l) := by unfold addT; rw [h]; rfl
  unfold addE at h
  cases hc : chkB t with
  | false => rw [hc] at h; cases h
  | true =>
    cases hl : leafB l with
    | false => rw [hc, hl] at h; cases h
    | true =>
      rw [hc, hl] at h
      have hm := chkB_may.1 hc
      have hlf := leafB_iff.1 hl
      generalize lvs t.length = n at h hi ht hm
      obtain ⟨f1, f2, f3⟩ := fr_spec t n
      have hb := fulls_bd hm.mn.hn
      have hlen := hm.mn.len
      generalize fr t n = k at h hi ht f1 f2 f3
      by_cases c : k = n
      · subst c
        rw [Nat.beq_refl] at h ht
        have h256 : k ≠ 256 := fun e => by rw [e] at h; cases h
        obtain ⟨hd1, hd2⟩ := fulls_dbl hm.mn.hn h256
        have ht : addT t l = tab (4 * k - 1) (growG t k l) := ht.trans (addG_grow hm.mn)
        have hmay := grow_may (l := l) hm.mn hd1 hlf
        rw [← ht] at hmay
        have hself : nd (addT t l) (2 * k) = l := by rw [ht, tab_nd (by omega)]; unfold growG; rw [if_pos rfl]
        have hoth : ∀ j, j ≠ k → nd (addT t l) (2 * j) = nd t (2 * j) := fun j hj => by
          rw [ht]
          by_cases cj : 2 * j < 4 * k - 1
          · rw [tab_nd cj]; unfold growG; rw [if_neg (by omega)]
          · rw [nd_out (by rw [tab_len]; omega), nd_out (by omega)]
        have hlk : lk (addT t l) k = true := by unfold lk; rw [hself, hlf.1]; rfl
        exact ⟨k, k, 2 * k, hi, hm, ⟨hmay, ⟨k, by omega, hlk⟩, .inr ⟨k, by omega, by omega, hlk⟩⟩, by omega, f2, by unfold lk; rw [nd_out (by omega)]; rfl, hself, hoth⟩
      · have hlt : k < n := by omega
        have hbq : Nat.beq k n = false := by
          cases e : Nat.beq k n with
          | false => rfl
          | true => exact absurd (Nat.eq_of_beq_eq_true e) c
        rw [hbq] at ht
        have ht : addT t l = tab (2 * n - 1) (addG t k l) := by rw [← hlen]; exact ht
        have hmay := addG_may (l := l) hm.mn hlt hlf
        rw [← ht] at hmay
        have hself : nd (addT t l) (2 * k) = l := by rw [ht, tab_nd (by omega)]; unfold addG; rw [if_pos rfl]
        have hlk : lk (addT t l) k = true := by unfold lk; rw [hself, hlf.1]; rfl
        have hoth : ∀ j, j ≠ k → nd (addT t l) (2 * j) = nd t (2 * j) := fun j hj => by
          rw [ht]
          by_cases cj : 2 * j < 2 * n - 1
          · rw [tab_nd cj]
            unfold addG
            rw [if_neg (by omega)]
            by_cases c2 : (nd t (2 * j)).kd = 2
            · have h9 := (hm.mn.leaf (2 * j) cj (by omega) (by omega)).1
              omega
            · rw [if_neg (fun q => c2 q.2)]
          · rw [nd_out (by rw [tab_len]; omega), nd_out (by omega)]
        have hkeep : ∀ j, lk t j = true → lk (addT t l) j = true := fun j hj => by
          by_cases cj : j = k
          · rw [cj]; exact hlk
          · unfold lk at hj ⊢; rw [hoth j cj]; exact hj
        refine ⟨k, n, n, hi, hm, ⟨hmay, ⟨k, hlt, hlk⟩, ?_⟩, hlt, f2, f3.resolve_left c, hself, hoth⟩
        rcases hm.right with h1 | ⟨j, a, b, hj⟩
        · exact .inl h1
        · exact .inr ⟨j, a, b, hkeep j hj⟩
end Go.Proofs.YtnmaiokhndbicaaGreatDoor
end

section
/- Plain facts of what Update and Remove answer. -/
set_option linter.unusedSimpArgs false
set_option linter.unusedVariables false
namespace Go.Proofs.YtnmaiokhndbicaaGreatDoor
open Go.RowKit
open Rt

theorem nd_take {u : List TN} {k x : Nat} (h : x < k) : nd (u.take k) x = nd u x := by
  unfold nd
  rw [List.getD_eq_getElem?_getD, List.getElem?_take, if_pos h, ← List.getD_eq_getElem?_getD]
theorem take_tab {u : List TN} {k : Nat} (h : k ≤ u.length) : u.take k = tab k (nd u) := by
  refine tn_ext (by rw [List.length_take, tab_len]; omega) fun x hx => ?_
  rw [List.length_take] at hx
  rw [nd_take (by omega), tab_nd (by omega)]
/-- A leaf that is not there is zero. -/
theorem not_lk {t : List TN} {n j : Nat} (m : MayN t n) (h : lk t j = false) : nd t (2 * j) = tn0 := by
  by_cases c : 2 * j < 2 * n - 1
  · by_cases h0 : (nd t (2 * j)).kd = 0
    · exact m.blank _ c h0
    · have := (m.leaf _ c h0 (by omega)).1
      unfold lk at h
      exact absurd this (of_decide_eq_false h)
  · exact nd_out (by rw [m.len]; omega)
theorem trunc_ok (f : Nat) : ∀ (u : List TN) (n : Nat), MayN u n → (∃ i, i < n ∧ lk u i = true) → n ≤ 2 ^ f → ∃ m : Nat, m ≤ n ∧ Rt.May (truncF f u n) m ∧ ∀ j, nd (truncF f u n) (2 * j) = nd u (2 * j) := by
  induction f with
  | zero =>
    intro u n m h hn
    have hb := fulls_bd m.hn
    exact ⟨n, Nat.le_refl _, ⟨m, h, .inl (by omega)⟩, fun _ => rfl⟩
  | succ f ih =>
    intro u n m h hn
    unfold truncF
    cases hc : (decide (1 < n) && !someB u (n / 2) n) with
    | false =>
      refine ⟨n, Nat.le_refl _, ⟨m, h, ?_⟩, fun _ => rfl⟩
      by_cases c : 1 < n
      · rw [decide_eq_true c, Bool.true_and] at hc
        have hs : someB u (n / 2) n = true := by simpa using hc
        obtain ⟨i, a, b, d⟩ := someB_true.1 hs
        exact .inr ⟨i, a, b, d⟩
      · have hb := fulls_bd m.hn
        exact .inl (by omega)
    | true =>
      rw [Bool.and_eq_true] at hc
      have h1 : 1 < n := of_decide_eq_true hc.1
      have hs : someB u (n / 2) n = false := by have := hc.2; simpa using this
      obtain ⟨g1, g2⟩ := half_fulls m.hn h1
      have hnone : ∀ i, n / 2 ≤ i → i < n → lk u i = false := fun i a b => by
        cases hl : lk u i with
        | false => rfl
        | true => rw [someB_true.2 ⟨i, a, b, hl⟩] at hs; cases hs
      have hm2 : MayN u (2 * (n / 2)) := by rw [← g2]; exact m
      have hmh := half_may hm2 g1
      rw [← take_tab (by rw [m.len]; omega)] at hmh
      have hlk : ∀ i, i < n / 2 → lk (u.take (2 * (n / 2) - 1)) i = lk u i := fun i hi => by unfold lk; rw [nd_take (by omega)]
      obtain ⟨i, hi, hl⟩ := h
      have hi2 : i < n / 2 := by
        cases Nat.lt_or_ge i (n / 2) with
        | inl q => exact q
        | inr q => rw [hnone i q hi] at hl; cases hl
      obtain ⟨k, k1, k2, k3⟩ := ih (u.take (2 * (n / 2) - 1)) (n / 2) hmh ⟨i, hi2, by rw [hlk i hi2]; exact hl⟩ (by rw [Nat.pow_succ] at hn; omega)
      refine ⟨k, by omega, k2, fun j => ?_⟩
      show nd (truncF f (u.take (2 * (n / 2) - 1)) (n / 2)) (2 * j) = nd u (2 * j)
      rw [k3 j]
      by_cases c : 2 * j < 2 * (n / 2) - 1
      · exact nd_take c
      · rw [nd_out (by rw [List.length_take]; omega)]
        by_cases c2 : j < n
        · exact (not_lk m (hnone j (by omega) c2)).symm
        · exact (nd_out (by rw [m.len]; omega)).symm
theorem updG_even {t : List TN} {n i j : Nat} {l : TN} (m : MayN t n) (hi : i < n) : nd (tab t.length (updG t i l)) (2 * j) = if j = i then l else nd t (2 * j) := by
  have hb := fulls_bd m.hn
  have hlen := m.len
  by_cases c : 2 * j < t.length
  · rw [tab_nd c]
    unfold updG blkG
    by_cases e : j = i
    · rw [if_pos e, if_pos (by rw [e])]
    · rw [if_neg e, if_neg (by omega), hasB_leaf (by omega), decide_eq_false (by omega)]
      rfl
  · rw [nd_out (by rw [tab_len]; omega), if_neg (by omega), nd_out (by omega)]
/-- What Update answers may be. -/
structure UpdOk (t : List TN) (l : TN) (u : List TN) (i n : Nat) : Prop where
  was : Rt.May t n
  may : Rt.May u n
  lt : i < n
  there : lk t i = true
  leaf : nd u (2 * i) = l
  others : ∀ j, j ≠ i → nd u (2 * j) = nd t (2 * j)
theorem upd_ok {t : List TN} {l : TN} {i : Int} (h : updE t i l = 0) : ∃ j n : Nat, i = (j : Int) ∧ UpdOk t l (updT t i l) j n := by
  unfold updE at h
  cases hl : leafB l with
  | false => rw [hl] at h; cases h
  | true =>
    rw [hl] at h
    have hth : thI t i = 0 := h
    have hlf := leafB_iff.1 hl
    obtain ⟨n, j, rfl, hj, hm, hlk⟩ := thI_ok hth
    have ht : updT t j l = tab t.length (updG t j l) := by unfold updT; rw [hl, hth]; rfl
    have hmay := updG_may (i := j) (l := l) hm.mn hj (.inr hlf)
    rw [← hm.mn.len, ← ht] at hmay
    have hev := fun q => updG_even (j := q) (l := l) hm.mn hj
    rw [← ht] at hev
    have hlu : ∀ q, lk t q = true → lk (updT t j l) q = true := fun q hq => by
      unfold lk at hq ⊢
      rw [hev q]
      by_cases c : q = j
      · rw [if_pos c, hlf.1]; rfl
      · rw [if_neg c]; exact hq
    refine ⟨j, n, rfl, hm, ⟨hmay, ⟨j, hj, hlu j hlk⟩, ?_⟩, hj, hlk, by rw [hev j, if_pos rfl], fun q hq => by rw [hev q, if_neg hq]⟩
    rcases hm.right with h1 | ⟨q, a, b, hq⟩
    · exact .inl h1
    · exact .inr ⟨q, a, b, hlu q hq⟩
/-- What Remove answers may be. -/
structure RemOk (t : List TN) (u : List TN) (i n m : Nat) : Prop where
  was : Rt.May t n
  may : Rt.May u m
  lt : i < n
  le : m ≤ n
  there : lk t i = true
  gone : lk u i = false
  others : ∀ j, j ≠ i → nd u (2 * j) = nd t (2 * j)
theorem rem_ok {t : List TN} {i : Int} (h : remE t i = 0) : ∃ j n m : Nat, i = (j : Int) ∧ RemOk t (remT t i) j n m := by
  unfold remE at h
  by_cases hth : thI t i = 0
  · rw [decide_eq_true hth] at h
    obtain ⟨n, j, rfl, hj, hm, hlk⟩ := thI_ok hth
    have hll := lvs_of hm.mn.hn
    rw [← hm.mn.len] at hll
    have h : errI (someB (blkT t j) 0 (lvs t.length)) = 0 := h
    rw [hll] at h
    have hs : someB (blkT t j) 0 n = true := by
      cases e : someB (blkT t j) 0 n with
      | true => rfl
      | false => rw [e] at h; cases h
    have ht : remT t j = truncF 9 (blkT t j) n := by
      unfold remT
      rw [decide_eq_true hth]
      show (bif someB (blkT t j) 0 (lvs t.length) then truncF 9 (blkT t j) (lvs t.length) else []) = _
      rw [hll, hs]; rfl
    have hmay := updG_may (i := j) (l := tn0) hm.mn hj (.inl rfl)
    rw [← hm.mn.len] at hmay
    have hev := fun q => updG_even (j := q) (l := tn0) hm.mn hj
    obtain ⟨q, _, q1, q2⟩ := someB_true.1 hs
    have hb := fulls_bd hm.mn.hn
    obtain ⟨m, m1, m2, m3⟩ := trunc_ok 9 (blkT t j) n hmay ⟨q, q1, q2⟩ (by omega)
    rw [← ht] at m2 m3
    refine ⟨j, n, m, rfl, hm, m2, hj, m1, hlk, ?_, fun k hk => ?_⟩
    · unfold lk
      rw [m3 j]
      show decide ((nd (tab t.length (updG t j tn0)) (2 * j)).kd = 1) = false
      rw [hev j, if_pos rfl]; rfl
    · rw [m3 k]
      show nd (tab t.length (updG t j tn0)) (2 * k) = _
      rw [hev k, if_neg hk]
  · rw [decide_eq_false hth] at h
    exact absurd h hth
end Go.Proofs.YtnmaiokhndbicaaGreatDoor
end

section
/- What the program's own Check, needed, .. say, plainly: the same as the document's. -/
set_option linter.unusedVariables false
namespace Go.Proofs.YtnmaiokhndbicaaGreatDoor
open Rt

theorem nbeq_false {a b : Nat} (h : a ≠ b) : Nat.beq a b = false := by
  cases e : Nat.beq a b with
  | false => rfl
  | true => exact absurd (Nat.eq_of_beq_eq_true e) h
/-- Unmerged are leaves under the node, rising. -/
def unfB (t : List TN) (h : Nat) : Int → List Int → Bool
  | _, [] => true
  | least, i :: r => !(decide (i < least) || decide ((h : Int) ≤ i) || !lk t i.toNat) && unfB t h (i + 1) r
def parB (d : TN) : Bool := d.kd == 2 && d.id == 0 && d.sig == 0
def fitB (t : List TN) (x : Nat) : Bool :=
  bif (nd t x).kd == 0 then sameNB (nd t x) tn0 else bif Nat.beq (x % 2) 0 then leafB (nd t x) else parB (nd t x) && unfB t (Mth.hi x) (Mth.lo x : Nat) (nd t x).un
theorem unfB_iff {t : List TN} {h : Nat} {us : List Int} {least : Int} : unfB t h least us = true ↔ us.Pairwise (· < ·) ∧ (∀ i ∈ us, least ≤ i) ∧ ∀ i ∈ us, i < (h : Int) ∧ lk t i.toNat = true := by
  induction us generalizing least with
  | nil => exact ⟨fun _ => ⟨List.Pairwise.nil, fun i hi => absurd hi List.not_mem_nil, fun i hi => absurd hi List.not_mem_nil⟩, fun _ => rfl⟩
  | cons a us ih =>
    show (!(decide (a < least) || decide ((h : Int) ≤ a) || !lk t a.toNat) && unfB t h (a + 1) us) = true ↔ _
    rw [Bool.and_eq_true, Bool.not_eq_true', Bool.or_eq_false_iff, Bool.or_eq_false_iff, decide_eq_false_iff_not, decide_eq_false_iff_not, Bool.not_eq_false', ih, List.pairwise_cons]
    constructor
    · rintro ⟨⟨⟨h1, h2⟩, h3⟩, h5, h6, h7⟩
      refine ⟨⟨fun i hi => ?_, h5⟩, fun i hi => ?_, fun i hi => ?_⟩
      · have := h6 i hi; omega
      · rcases List.mem_cons.1 hi with rfl | hi
        · omega
        · have := h6 i hi; omega
      · rcases List.mem_cons.1 hi with rfl | hi
        · exact ⟨by omega, h3⟩
        · exact h7 i hi
    · rintro ⟨⟨h1, h2⟩, h3, h4⟩
      have ha := h4 a List.mem_cons_self
      have hl := h3 a List.mem_cons_self
      exact ⟨⟨⟨by omega, by omega⟩, ha.2⟩, h2, fun i hi => by have := h1 i hi; omega, fun i hi => h4 i (List.mem_cons_of_mem _ hi)⟩
/-- A node has a leaf as not merged. -/
def hasU (t : List TN) (x i : Nat) : Bool := decide ((i : Int) ∈ (nd t x).un)
/-- What is asked of the Parents above a leaf, the lowest first. -/
def agF (t : List TN) (i : Nat) : Bool → List Nat → Bool
  | _, [] => true
  | b, x :: r => bif (nd t x).kd == 2 then (b || !hasU t x i) && agF t i (hasU t x i) r else agF t i b r
theorem agF_iff {t : List TN} {i : Nat} {p : List Nat} {b : Bool} : agF t i b p = true ↔ (p.Pairwise fun z x => (nd t z).kd = 2 → (nd t x).kd = 2 → hasU t x i = true → hasU t z i = true) ∧ (b = false → ∀ x ∈ p, (nd t x).kd = 2 → hasU t x i = false) := by
  induction p generalizing b with
  | nil => exact ⟨fun _ => ⟨List.Pairwise.nil, fun _ x hx => absurd hx List.not_mem_nil⟩, fun _ => rfl⟩
  | cons x r ih =>
    show (bif (nd t x).kd == 2 then (b || !hasU t x i) && agF t i (hasU t x i) r else agF t i b r) = true ↔ _
    rw [List.pairwise_cons]
    cases hk : ((nd t x).kd == 2) with
    | true =>
      have hk2 : (nd t x).kd = 2 := by simpa using hk
      show ((b || !hasU t x i) && agF t i (hasU t x i) r) = true ↔ _
      rw [Bool.and_eq_true, ih]
      constructor
      · rintro ⟨h1, h2, h3⟩
        refine ⟨⟨fun y hy _ hy2 hy3 => ?_, h2⟩, fun hb y hy hy2 => ?_⟩
        · cases e : hasU t x i with
          | true => rfl
          | false => rw [h3 e y hy hy2] at hy3; cases hy3
        · rw [hb, Bool.false_or, Bool.not_eq_true'] at h1
          rcases List.mem_cons.1 hy with rfl | hy
          · exact h1
          · exact h3 h1 y hy hy2
      · rintro ⟨⟨h1, h2⟩, h3⟩
        refine ⟨?_, h2, fun e y hy hy2 => ?_⟩
        · cases b with
          | true => rfl
          | false => rw [h3 rfl x List.mem_cons_self hk2]; rfl
        · cases e2 : hasU t y i with
          | false => rfl
          | true => rw [h1 y hy hk2 hy2 e2] at e; cases e
    | false =>
      have hk2 : (nd t x).kd ≠ 2 := by simpa using hk
      show agF t i b r = true ↔ _
      rw [ih]
      constructor
      · rintro ⟨h2, h3⟩
        refine ⟨⟨fun y hy h => absurd h hk2, h2⟩, fun hb y hy hy2 => ?_⟩
        rcases List.mem_cons.1 hy with rfl | hy
        · exact absurd hy2 hk2
        · exact h3 hb y hy hy2
      · rintro ⟨⟨h1, h2⟩, h3⟩
        exact ⟨h2, fun hb y hy hy2 => h3 hb y (List.mem_cons_of_mem _ hy) hy2⟩
/-- Of two nodes above a leaf the lower one is under the other one. -/
def pwB : List Nat → Bool
  | [] => true
  | z :: r => r.all (fun x => Mth.underB z x && !Nat.beq z x) && pwB r
theorem pwB_pw {l : List Nat} (h : pwB l = true) : l.Pairwise fun z x => Mth.underB z x = true ∧ z ≠ x := by
  induction l with
  | nil => exact List.Pairwise.nil
  | cons z r ih =>
    have h : (r.all (fun x => Mth.underB z x && !Nat.beq z x) && pwB r) = true := h
    rw [Bool.and_eq_true, List.all_eq_true] at h
    refine List.pairwise_cons.2 ⟨fun x hx => ?_, ih h.2⟩
    have := h.1 x hx
    rw [Bool.and_eq_true] at this
    exact ⟨this.1, fun e => by rw [e, Nat.beq_refl] at this; cases this.2⟩
theorem pathB_all : Mth.allB (fun n x => Nat.ble 1 (x % 2) || pwB (Mth.path x n)) = true := by decide +kernel
theorem path_pw {n i : Nat} (hn : n ∈ Mth.fulls) (hi : i < n) : (Mth.path (2 * i) n).Pairwise fun z x => Mth.underB z x = true ∧ z ≠ x := by
  have h := Mth.allB_at pathB_all hn (show 2 * i < 2 * n - 1 by omega)
  rw [Bool.or_eq_true] at h
  rcases h with h | h
  · have := Nat.le_of_ble_eq_true h; omega
  · exact pwB_pw h
theorem under_lvl {z x : Nat} (h : Mth.underB z x = true) : Mth.lvl z ≤ Mth.lvl x := by
  unfold Mth.underB at h
  rw [Bool.and_eq_true] at h
  exact Nat.le_of_ble_eq_true h.2
/-- The Parents above a leaf agree, just if each that has it as not merged is covered. -/
theorem agree_iff {t : List TN} {n i : Nat} (hn : n ∈ Mth.fulls) (hlen : t.length = 2 * n - 1) (hi : i < n) (hev : (nd t (2 * i)).kd ≠ 2) :
    agF t i true (Mth.path (2 * i) n) = true ↔ ∀ x, x < 2 * n - 1 → (nd t x).kd = 2 → Mth.hasB x i = true → hasU t x i = true → coverB t x i = true := by
  have hpm := fun x hx => path_mem (x := x) hn hi hx
  have hpw := path_pw hn hi
  have hb := fulls_bd hn
  have hpl : ∀ x ∈ Mth.path (2 * i) n, x < 2 * n - 1 := fun x hx => by
    obtain ⟨k, hk, hg⟩ := List.getElem_of_mem hx
    have := (path_fresh (j := k) hn hi hk).2.2
    rw [List.getD_eq_getElem?_getD, List.getElem?_eq_getElem hk, hg] at this
    exact this
  have hul : ∀ z, z < 2 * n - 1 → Mth.underB (2 * i) z = Mth.hasB z i := fun z hz => Mth.under_leaf hn (by omega) hz
  rw [agF_iff]
  generalize Mth.path (2 * i) n = p at hpm hpw hpl
  constructor
  · rintro ⟨hp, _⟩ x hx hx2 hxi hxu
    refine coverB_true fun z hz => covZ_false.2 fun h2 h3 h4 h5 => ?_
    rw [hlen] at hz
    rw [hul z hz] at h4
    have hx0 : x ≠ 2 * i := fun e => hev (e ▸ hx2)
    have hz0 : z ≠ 2 * i := fun e => hev (e ▸ h2)
    obtain ⟨a, ha, hga⟩ := List.getElem_of_mem ((hpm z hz).2 ⟨h4, hz0⟩)
    obtain ⟨b, hb', hgb⟩ := List.getElem_of_mem ((hpm x hx).2 ⟨hxi, hx0⟩)
    have key : hasU t z i = true := by
      rcases Nat.lt_trichotomy a b with h | h | h
      · have := List.pairwise_iff_getElem.1 hp a b ha hb' h
        rw [hga, hgb] at this
        exact this h2 hx2 hxu
      · subst h
        rw [hga] at hgb
        exact absurd hgb h3
      · have := (List.pairwise_iff_getElem.1 hpw b a hb' ha h).1
        rw [hga, hgb] at this
        have e1 := under_lvl this
        have e2 := under_lvl h5
        have i1 := itr_node (by omega : x < 511) hxi
        have i2 := itr_node (by omega : z < 511) h4
        rw [show Mth.lvl x = Mth.lvl z by omega, i2] at i1
        exact absurd i1 h3
    exact of_decide_eq_true key
  · intro h
    refine ⟨?_, fun hf => by cases hf⟩
    refine List.Pairwise.imp_of_mem (fun {z x} hz hx hzx hz2 hx2 hxu => ?_) hpw
    have hzl := hpl z hz
    have hxl := hpl x hx
    have h1 := (hpm x hxl).1 hx
    have h2 := (hpm z hzl).1 hz
    have hc := h x hxl hx2 h1.1 hxu
    have h3 : covZ t x i z = false := by
      have := List.all_eq_true.1 hc z (List.mem_range.2 (by omega))
      simpa using this
    exact decide_eq_true (covZ_false.1 h3 hz2 hzx.2 (by rw [hul z hzl]; exact h2.1) hzx.1)
/-- Members' last one. -/
def ndd (l : List Int) : Nat := bif Nat.beq l.length 0 then 0 else Mth.size ((l.getD (l.length - 1) 0).toNat + 1)
theorem mem_last (t : List TN) (n : Nat) : (memK t n = [] ∧ ∀ i, i < n → lk t i = false) ∨ ∃ L, L < n ∧ lk t L = true ∧ (∀ j, L < j → j < n → lk t j = false) ∧ 0 < (memK t n).length ∧ (memK t n).getD ((memK t n).length - 1) 0 = (L : Int) := by
  induction n with
  | zero => exact .inl ⟨rfl, fun i hi => absurd hi (Nat.not_lt_zero _)⟩
  | succ n ih =>
    rw [memK_succ]
    cases hl : lk t n with
    | true =>
      refine .inr ⟨n, by omega, hl, fun j h1 h2 => absurd h1 (by omega), ?_, ?_⟩
      · show 0 < (memK t n ++ [(n : Int)]).length
        simp
      · show (memK t n ++ [(n : Int)]).getD ((memK t n ++ [(n : Int)]).length - 1) 0 = n
        rw [List.length_append, List.length_singleton, Nat.add_sub_cancel, List.getD_eq_getElem?_getD, List.getElem?_append_right (Nat.le_refl _), Nat.sub_self]; rfl
    | false =>
      show (memK t n ++ [] = [] ∧ _) ∨ ∃ L, L < n + 1 ∧ lk t L = true ∧ (∀ j, L < j → j < n + 1 → lk t j = false) ∧ 0 < (memK t n ++ []).length ∧ (memK t n ++ []).getD ((memK t n ++ []).length - 1) 0 = (L : Int)
      rw [List.append_nil]
      rcases ih with ⟨h1, h2⟩ | ⟨L, h1, h2, h3, h4⟩
      · exact .inl ⟨h1, fun i hi => by
          by_cases c : i = n
          · rw [c]; exact hl
          · exact h2 i (by omega)⟩
      · exact .inr ⟨L, by omega, h2, fun j a b => by
          by_cases c : j = n
          · rw [c]; exact hl
          · exact h3 j a (by omega), h4⟩
theorem size_all : (List.range 257).all (fun m => Mth.fulls.all fun n => Nat.beq m 0 || Nat.blt n m || (Nat.beq (Mth.size m) n == (Nat.beq n 1 || Nat.blt (n / 2) m))) = true := by decide +kernel
theorem size_at {m n : Nat} (hm : 1 ≤ m) (hmn : m ≤ n) (hn : n ∈ Mth.fulls) : Mth.size m = n ↔ (n = 1 ∨ n / 2 < m) := by
  have hb := fulls_bd hn
  have h := List.all_eq_true.1 (List.all_eq_true.1 size_all m (List.mem_range.2 (by omega))) n hn
  rw [Bool.or_eq_true, Bool.or_eq_true] at h
  rcases h with (h | h) | h
  · have := Nat.eq_of_beq_eq_true h; omega
  · have := Nat.le_of_ble_eq_true h; omega
  · have h := eq_of_beq h
    constructor
    · intro e
      rw [e, Nat.beq_refl] at h
      have h := h.symm
      rw [Bool.or_eq_true] at h
      exact h.imp Nat.eq_of_beq_eq_true Nat.le_of_ble_eq_true
    · intro e
      have : (Nat.beq n 1 || Nat.blt (n / 2) m) = true := by
        rw [Bool.or_eq_true]
        exact e.imp (fun e => by rw [e]; rfl) (fun e => Nat.ble_eq_true_of_le e)
      rw [this] at h
      exact Nat.eq_of_beq_eq_true h
theorem ndd_iff {t : List TN} {n : Nat} (hn : n ∈ Mth.fulls) : ndd (memK t n) = n ↔ ((∃ i, i < n ∧ lk t i = true) ∧ (n = 1 ∨ ∃ i, n / 2 ≤ i ∧ i < n ∧ lk t i = true)) := by
  have hb := fulls_bd hn
  rcases mem_last t n with ⟨h1, h2⟩ | ⟨L, h1, h2, h3, h4, h5⟩
  · rw [h1]
    constructor
    · intro e
      have e : 0 = n := e
      omega
    · rintro ⟨⟨i, a, b⟩, _⟩
      rw [h2 i a] at b; cases b
  · have e : ndd (memK t n) = Mth.size (L + 1) := by
      unfold ndd
      rw [nbeq_false (by omega), h5, Int.toNat_natCast]; rfl
    rw [e, size_at (by omega) (by omega) hn]
    constructor
    · intro h
      exact ⟨⟨L, h1, h2⟩, h.imp id fun h => ⟨L, by omega, h1, h2⟩⟩
    · rintro ⟨_, h⟩
      refine h.imp id fun ⟨i, a, b, c⟩ => ?_
      by_cases q : L < i
      · rw [h3 i q b] at c; cases c
      · omega
/-- What the program's Check tells. -/
def shpB (t : List TN) : Bool := !Nat.beq (lvs t.length) 0
def fitsB (t : List TN) : Bool := (List.range t.length).all fun x => fitB t x
def agreeB (t : List TN) (n : Nat) : Bool := (List.range n).all fun i => agF t i true (Mth.path (2 * i) n)
def needB (t : List TN) (n : Nat) : Bool := Nat.beq (ndd (memK t n)) n
theorem fit_iff {t : List TN} {n x : Nat} (hn : n ∈ Mth.fulls) (hlen : t.length = 2 * n - 1) (hx : x < 2 * n - 1) : fitB t x = true ↔
    ((nd t x).kd = 0 → nd t x = tn0) ∧ ((nd t x).kd ≠ 0 → x % 2 = 0 → (nd t x).kd = 1 ∧ (nd t x).un = []) ∧
    ((nd t x).kd ≠ 0 → x % 2 = 1 → (nd t x).kd = 2 ∧ (nd t x).id = 0 ∧ (nd t x).sig = 0 ∧ (nd t x).un.Pairwise (· < ·) ∧ ∀ i ∈ (nd t x).un, ((Mth.lo x : Nat) : Int) ≤ i ∧ i < (Mth.hi x : Int) ∧ lk t i.toNat = true) := by
  by_cases h0 : (nd t x).kd = 0
  · have e : fitB t x = sameNB (nd t x) tn0 := by unfold fitB; rw [show ((nd t x).kd == 0) = true by rw [h0]; rfl]; rfl
    rw [e, sameNB_iff]
    exact ⟨fun h => ⟨fun _ => h, fun h1 => absurd h0 h1, fun h1 => absurd h0 h1⟩, fun h => h.1 h0⟩
  · have hq : ((nd t x).kd == 0) = false := by rw [beq_eq_false_iff_ne]; exact h0
    by_cases h1 : x % 2 = 0
    · have e : fitB t x = leafB (nd t x) := by unfold fitB; rw [hq, h1]; rfl
      rw [e, leafB_iff]
      exact ⟨fun h => ⟨fun h2 => absurd h2 h0, fun _ _ => h, fun _ h2 => by omega⟩, fun h => h.2.1 h0 h1⟩
    · have e : fitB t x = (parB (nd t x) && unfB t (Mth.hi x) (Mth.lo x : Nat) (nd t x).un) := by unfold fitB; rw [hq, show x % 2 = 1 by omega]; rfl
      rw [e, Bool.and_eq_true, unfB_iff]
      unfold parB
      rw [Bool.and_eq_true, Bool.and_eq_true, beq_iff_eq, beq_iff_eq, beq_iff_eq]
      constructor
      · rintro ⟨⟨⟨a, b⟩, c⟩, d, f, g⟩
        exact ⟨fun h => absurd h h0, fun _ h => absurd h h1, fun _ _ => ⟨a, b, c, d, fun i hi => ⟨f i hi, g i hi⟩⟩⟩
      · rintro ⟨_, _, h⟩
        obtain ⟨a, b, c, d, f⟩ := h h0 (by omega)
        exact ⟨⟨⟨a, b⟩, c⟩, d, fun i hi => (f i hi).1, fun i hi => (f i hi).2⟩
theorem fits_may {t : List TN} {n : Nat} (hn : n ∈ Mth.fulls) (hlen : t.length = 2 * n - 1) : (fitsB t = true ∧ agreeB t n = true) ↔ ∀ x, x < 2 * n - 1 → nodeB t x = true := by
  have hb := fulls_bd hn
  constructor
  · rintro ⟨hf, ha⟩ x hx
    have hfit := fun x (hx : x < 2 * n - 1) => (fit_iff hn hlen hx).1 (List.all_eq_true.1 hf x (List.mem_range.2 (by omega)))
    obtain ⟨a, b, c⟩ := hfit x hx
    refine (nodeB_iff hn hlen hx).2 ⟨a, b, fun h0 h1 => ?_⟩
    obtain ⟨c1, c2, c3, c4, c5⟩ := c h0 h1
    refine ⟨c1, c2, c3, c4, fun i hi => ?_⟩
    obtain ⟨d1, d2, d3⟩ := c5 i hi
    have hhi := hi_le hn hx
    obtain ⟨j, rfl⟩ : ∃ j : Nat, i = j := ⟨i.toNat, by omega⟩
    rw [Int.toNat_natCast] at d3
    refine ⟨j, rfl, by omega, by omega, d3, fun z hz h2 h3 h4 h5 => ?_⟩
    have hj : j < n := by omega
    have hag := (agree_iff hn hlen hj (by unfold lk at d3; have := of_decide_eq_true d3; omega)).1 (List.all_eq_true.1 ha j (List.mem_range.2 hj)) x hx c1 (Mth.hasB_iff.2 ⟨by omega, by omega⟩) (decide_eq_true hi)
    have h6 : covZ t x j z = false := by
      have := List.all_eq_true.1 hag z (List.mem_range.2 (by omega))
      simpa using this
    exact covZ_false.1 h6 h2 h3 (by rw [Mth.under_leaf hn (by omega) hz]; exact h4) h5
  · intro h
    have hnd := fun x (hx : x < 2 * n - 1) => (nodeB_iff hn hlen hx).1 (h x hx)
    refine ⟨List.all_eq_true.2 fun x hx => ?_, List.all_eq_true.2 fun i hi => ?_⟩
    · have hx2 : x < 2 * n - 1 := by rw [← hlen]; exact List.mem_range.1 hx
      obtain ⟨a, b, c⟩ := hnd x hx2
      refine (fit_iff hn hlen hx2).2 ⟨a, b, fun h0 h1 => ?_⟩
      obtain ⟨c1, c2, c3, c4, c5⟩ := c h0 h1
      refine ⟨c1, c2, c3, c4, fun i hi => ?_⟩
      obtain ⟨j, rfl, d1, d2, d3, _⟩ := c5 i hi
      exact ⟨by omega, by omega, by rw [Int.toNat_natCast]; exact d3⟩
    · have hi2 := List.mem_range.1 hi
      have hev : (nd t (2 * i)).kd ≠ 2 := fun e => by
        have := ((hnd (2 * i) (by omega)).2.1 (by omega) (by omega)).1
        omega
      refine (agree_iff hn hlen hi2 hev).2 fun x hx hx2 hxi hxu => ?_
      have ho : x % 2 = 1 := by
        by_cases e : x % 2 = 0
        · have := ((hnd x hx).2.1 (by omega) e).1; omega
        · omega
      obtain ⟨c1, c2, c3, c4, c5⟩ := (hnd x hx).2.2 (by omega) ho
      obtain ⟨j, hj, d1, d2, d3, d4⟩ := c5 i (of_decide_eq_true hxu)
      refine coverB_true fun z hz => covZ_false.2 fun h2 h3 h4 h5 => ?_
      rw [hlen] at hz
      exact d4 z hz h2 h3 (by rw [← show i = j by omega, ← Mth.under_leaf hn (by omega) hz]; exact h4) h5
/-- The program's Check and the document's. -/
def pchkB (t : List TN) : Bool := shpB t && fitsB t && agreeB t (lvs t.length) && needB t (lvs t.length)
theorem pchk_eq (t : List TN) : pchkB t = chkB t := by
  rw [Bool.eq_iff_iff, chkB_may]
  unfold pchkB shpB
  rw [Bool.and_eq_true, Bool.and_eq_true, Bool.and_eq_true, Bool.not_eq_true']
  have hsp := lvs_spec t.length
  generalize lvs t.length = n at hsp
  constructor
  · rintro ⟨⟨⟨h0, h1⟩, h2⟩, h3⟩
    obtain ⟨hn, hlen⟩ : n ∈ Mth.fulls ∧ t.length = 2 * n - 1 := by
      rcases hsp with ⟨a, b⟩ | ⟨a, _⟩
      · exact ⟨a, b.symm⟩
      · rw [a] at h0; cases h0
    have hnd := fun x (hx : x < 2 * n - 1) => (nodeB_iff hn hlen hx).1 ((fits_may hn hlen).1 ⟨h1, h2⟩ x hx)
    obtain ⟨a, b⟩ := (ndd_iff hn).1 (Nat.eq_of_beq_eq_true h3)
    exact ⟨⟨hn, hlen, fun x hx h => (hnd x hx).1 h, fun x hx h1 h2 => (hnd x hx).2.1 h1 h2, fun x hx h1 h2 => (hnd x hx).2.2 h1 h2⟩, a, b⟩
  · rintro ⟨m, a, b⟩
    have hb := fulls_bd m.hn
    have hnd := fun x (hx : x < 2 * n - 1) => (nodeB_iff m.hn m.len hx).2 ⟨m.blank x hx, m.leaf x hx, m.par x hx⟩
    obtain ⟨h1, h2⟩ := (fits_may m.hn m.len).2 hnd
    exact ⟨⟨⟨nbeq_false (by omega), h1⟩, h2⟩, by unfold needB; rw [(ndd_iff m.hn).2 ⟨a, b⟩]; exact Nat.beq_refl _⟩
/-- What is left of a tree from which a leaf has gone. -/
theorem trunc_take (f : Nat) : ∀ (u : List TN) (n L : Nat), n ∈ Mth.fulls → u.length = 2 * n - 1 → L < n → lk u L = true → (∀ j, L < j → j < n → lk u j = false) → n ≤ 2 ^ f →
    truncF f u n = u.take (2 * Mth.size (L + 1) - 1) ∧ Mth.size (L + 1) ≤ n ∧ Mth.size (L + 1) ∈ Mth.fulls := by
  induction f with
  | zero =>
    intro u n L hn hlen hL hl hall hf
    have hb := fulls_bd hn
    have hs : Mth.size (L + 1) = n := (size_at (by omega) (by omega) hn).2 (.inl (by omega))
    rw [hs]
    exact ⟨(List.take_of_length_le (l := u) (by omega)).symm, Nat.le_refl _, hn⟩
  | succ f ih =>
    intro u n L hn hlen hL hl hall hf
    have hb := fulls_bd hn
    show (bif decide (1 < n) && !someB u (n / 2) n then truncF f (u.take (2 * (n / 2) - 1)) (n / 2) else u) = _ ∧ _
    cases hc : (decide (1 < n) && !someB u (n / 2) n) with
    | true =>
      rw [Bool.and_eq_true] at hc
      have h1 : 1 < n := of_decide_eq_true hc.1
      have hs : someB u (n / 2) n = false := by have := hc.2; simpa using this
      obtain ⟨g1, g2⟩ := half_fulls hn h1
      have hL2 : L < n / 2 := by
        cases Nat.lt_or_ge L (n / 2) with
        | inl h => exact h
        | inr h => rw [someB_true.2 ⟨L, h, hL, hl⟩] at hs; cases hs
      have hlk : ∀ i, i < n / 2 → lk (u.take (2 * (n / 2) - 1)) i = lk u i := fun i hi => by unfold lk; rw [nd_take (by omega)]
      obtain ⟨k1, k2, k3⟩ := ih (u.take (2 * (n / 2) - 1)) (n / 2) L g1 (by rw [List.length_take]; omega) hL2 (by rw [hlk L hL2]; exact hl) (fun j a b => by rw [hlk j b]; exact hall j a (by omega)) (by rw [Nat.pow_succ] at hf; omega)
      refine ⟨?_, by omega, k3⟩
      show truncF f (u.take (2 * (n / 2) - 1)) (n / 2) = _
      rw [k1, List.take_take, Nat.min_eq_left (by omega)]
    | false =>
      have hs : Mth.size (L + 1) = n := by
        refine (size_at (by omega) (by omega) hn).2 ?_
        by_cases c : 1 < n
        · rw [decide_eq_true c, Bool.true_and] at hc
          have hs : someB u (n / 2) n = true := by simpa using hc
          obtain ⟨i, a, b, d⟩ := someB_true.1 hs
          by_cases q : L < i
          · rw [hall i q b] at d; cases d
          · exact .inr (by omega)
        · exact .inl (by omega)
      rw [hs]
      exact ⟨(List.take_of_length_le (l := u) (by omega)).symm, Nat.le_refl _, hn⟩
end Go.Proofs.YtnmaiokhndbicaaGreatDoor
end

section
/- Walks of the program's ratchet: leaves, hasShape, isLeaf, isParent, sameNode; the library's Equal. -/
set_option linter.unusedSimpArgs false
set_option linter.unusedVariables false
namespace Go.Proofs.YtnmaiokhndbicaaGreatDoor
open Go.RowKit
open Rt

theorem pleaves_any {w : World} {v : Value} {t : List TN} (h : RdTs w v t) (hl : t.length ≤ 1000000) : Calls Tryz.prog 91 #[v] w fun e w' => e = .returned (.int .i64 (((t.length + 1) / 2 : Nat) : Int)) ∧ w = w' := by
  obtain ⟨ta, tc, rfl, l1, l2, l3⟩ := h.len
  have l63 : ((t.length : Nat) : Int) ≤ 1000000 := by omega
  go_enter Tryz.func91, Tryz.ntmps91
  go_wp2
  go_ret
  exact ⟨rfl, rfl⟩
/-- In a tree that has a shape. -/
theorem pleaves_of {w : World} {v : Value} {t : List TN} {n : Nat} (h : RdTs w v t) (hn : n ∈ Mth.fulls) (hlen : t.length = 2 * n - 1) : Calls Tryz.prog 91 #[v] w fun e w' => e = .returned (.int .i64 (n : Int)) ∧ w = w' := by
  have hb := fulls_bd hn
  have := pleaves_any h (by omega)
  rw [show (t.length + 1) / 2 = n by omega] at this
  exact this
theorem shp_eq (t : List TN) : shpB t = (treeB (((t.length + 1) / 2 : Nat) : Int) && decide (2 * ((t.length + 1) / 2) - 1 = t.length)) := by
  unfold shpB
  rcases lvs_spec t.length with ⟨h1, h2⟩ | ⟨h1, h2⟩
  · have hb := fulls_bd h1
    rw [nbeq_false (by omega), show (t.length + 1) / 2 = lvs t.length by omega, treeB_mk h1, decide_eq_true h2]; rfl
  · rw [h1]
    cases hb : treeB (((t.length + 1) / 2 : Nat) : Int) with
    | false => rfl
    | true =>
      obtain ⟨_, _, h3⟩ := treeB_true hb
      rw [Int.toNat_natCast] at h3
      rw [decide_eq_false (h2 _ h3)]; rfl
set_option maxHeartbeats 1000000 in
theorem pshape_any {w : World} {v : Value} {t : List TN} (h : RdTs w v t) (hl : t.length ≤ 1000000) : Calls Tryz.prog 67 #[v] w fun e w' => e = .returned (.bool (shpB t)) ∧ Kept w w' := by
  have HL := Lib.hid (pleaves_any h hl)
  have HW := Lib.hid (Width_any (((t.length + 1) / 2 : Nat) : Int) w ⟨by omega, by omega⟩)
  have HB := Shut.mk (shp_eq t)
  obtain ⟨ta, tc, rfl, l1, l2, l3⟩ := h.len
  have l63 : ((t.length : Nat) : Int) ≤ 1000000 := by omega
  have he : decide (2 * ((t.length + 1) / 2) - 1 = t.length) = ((2 * (((t.length + 1) / 2 : Nat) : Int) - 1) == (t.length : Int)) ∨ t.length = 0 := by
    by_cases h0 : t.length = 0
    · exact .inr h0
    · refine .inl ?_
      rw [Bool.eq_iff_iff, decide_eq_true_iff, beq_iff_eq]
      omega
  have ht0 : t.length = 0 → treeB (((t.length + 1) / 2 : Nat) : Int) = false := fun e => by rw [e]; rfl
  generalize ((t.length + 1) / 2 : Nat) = m at HL HW HB he ht0
  cases hb : treeB (m : Int) with
  | false =>
    rw [hb] at HW HB
    have HB2 := Shut.mk (show shpB t = false from HB.out)
    clear hb he ht0 HB
    go_enter Tryz.func67, Tryz.ntmps67
    go_wp2_with fail
    (with_reducible refine HL.out.mono ?_); rintro e w1 ⟨rfl, rfl⟩
    go_wp2_with fail
    (with_reducible refine HW.out.mono ?_); rintro e w1 ⟨rfl, k⟩
    simp only [pk, er, cond_false, cond_true]
    go_wp2
    go_ret
    exact ⟨by rw [HB2.out]; rfl, k⟩
  | true =>
    rw [hb] at HW HB
    have he := he.resolve_right fun e => by rw [ht0 e] at hb; cases hb
    have HB2 := Shut.mk (show shpB t = ((2 * (m : Int) - 1) == (t.length : Int)) by rw [HB.out, he]; rfl)
    generalize hq : ((2 * (m : Int) - 1) == (t.length : Int)) = q at HB2
    clear hb he ht0 HB
    go_enter Tryz.func67, Tryz.ntmps67
    go_wp2_with fail
    (with_reducible refine HL.out.mono ?_); rintro e w1 ⟨rfl, rfl⟩
    go_wp2_with fail
    (with_reducible refine HW.out.mono ?_); rintro e w1 ⟨rfl, k⟩
    simp only [pk, er, cond_false, cond_true]
    go_wp2
    go_ret
    exact ⟨by rw [HB2.out]; rfl, k⟩
set_option maxHeartbeats 1000000 in
theorem pleaf_any {w : World} {v : Value} {d : TN} (h : RdTn w v d) : Calls Tryz.prog 93 #[v] w fun e w' => e = .returned (.bool (leafB d)) ∧ Kept w w' := by
  obtain ⟨lv, rfl, hr⟩ := h
  obtain ⟨la, lc, rfl, l1, l2, l3⟩ := hr.len
  have HB := Shut.mk (show leafB d = (d.kd == 1 && ((d.un.length : Int) == 0)) by unfold leafB; rw [beq0])
  cases h1 : (d.kd == 1) with
  | false =>
    have HB2 := Shut.mk (show leafB d = false by rw [HB.out, h1]; rfl)
    go_enter Tryz.func93, Tryz.ntmps93
    go_wp2
    go_ret
    exact ⟨by rw [HB2.out]; rfl, (Kept.refl _).alloc _⟩
  | true =>
    have HB2 := Shut.mk (show leafB d = ((d.un.length : Int) == 0) by rw [HB.out, h1]; rfl)
    generalize hb : ((d.un.length : Int) == 0) = b at HB2
    go_enter Tryz.func93, Tryz.ntmps93
    go_wp2
    go_ret
    exact ⟨by rw [HB2.out]; rfl, (Kept.refl _).alloc _⟩
set_option maxHeartbeats 2000000 in
theorem ppar_any {w : World} {v : Value} {d : TN} (h : RdTn w v d) : Calls Tryz.prog 94 #[v] w fun e w' => e = .returned (.bool (parB d)) ∧ Kept w w' := by
  obtain ⟨lv, rfl, hr⟩ := h
  have HB := Shut.mk (show parB d = (d.kd == 2 && d.id == 0 && d.sig == 0) from rfl)
  cases h1 : (d.kd == 2) with
  | false =>
    have HB2 := Shut.mk (show parB d = false by rw [HB.out, h1]; rfl)
    go_enter Tryz.func94, Tryz.ntmps94
    go_wp2
    go_ret
    exact ⟨by rw [HB2.out]; rfl, (Kept.refl _).alloc _⟩
  | true =>
    cases h2 : (d.id == 0) with
    | false =>
      have HB2 := Shut.mk (show parB d = false by rw [HB.out, h1, h2]; rfl)
      go_enter Tryz.func94, Tryz.ntmps94
      go_wp2
      go_ret
      exact ⟨by rw [HB2.out]; rfl, (Kept.refl _).alloc _⟩
    | true =>
      have HB2 := Shut.mk (show parB d = (d.sig == 0) by rw [HB.out, h1, h2]; rfl)
      generalize hb : (d.sig == 0) = b at HB2
      go_enter Tryz.func94, Tryz.ntmps94
      go_wp2
      go_ret
      exact ⟨by rw [HB2.out]; rfl, (Kept.refl _).alloc _⟩
set_option maxHeartbeats 4000000 in
set_option maxRecDepth 100000 in
theorem equal_any {w : World} {u v : Value} {a b : List Int} (ha : RdI w u a) (hb : RdI w v b) :
    Calls Tryz.prog 114 #[u, v] w fun e w' => e = .returned (.bool (decide (a = b))) ∧ Kept w w' := by
  obtain ⟨aa, ac, rfl, a1, a2, a3⟩ := ha.len
  obtain ⟨ba, bc, rfl, b1, b2, b3⟩ := hb.len
  have a63 : ((a.length : Nat) : Int) ≤ 9223372036854775807 := by unfold maxLen at a2; omega
  by_cases hl : a.length = b.length
  · have hd : ((a.length : Int) != (b.length : Int)) = false := by simp [hl]
    have HL := Shut.mk hl
    rw [← hl] at hb b1 hd ⊢
    clear hl
    go_enter Tryz.func114, Tryz.ntmps114
    go_wp2
    go_loopw [13] (fun i wr => ∃ k : Nat, k ≤ a.length ∧ i = .int .i64 k ∧ (∀ j, j < k → a.getD j 0 = b.getD j 0) ∧ Kept w wr) (fun i _ => a.length - (intOf i).toNat)
    case atStart => exact ⟨0, Nat.zero_le _, rfl, fun j hj => absurd hj (Nat.not_lt_zero _), Kept.refl _⟩
    case round =>
      obtain ⟨k, hk0, rfl, hsame, hk⟩ := hrel
      have HS := Shut.mk hsame
      clear hsame
      by_cases hlt : k < a.length
      · obtain ⟨rb, ro, rc, hrv, _, _, hrb, hcl⟩ := ha.addr (by omega)
        simp only [Value.slice.injEq] at hrv
        obtain ⟨rfl, _, rfl⟩ := hrv
        have hcb := hb
        rw [show (Value.slice ba a.length bc) = Value.slice ba b.length bc by rw [HL.out]] at hcb
        obtain ⟨sb, so, sc, hsv, _, _, hsb, hcl2⟩ := hcb.addr (by have := HL.out; omega)
        simp only [Value.slice.injEq] at hsv
        obtain ⟨rfl, _, rfl⟩ := hsv
        have x1 := hk.cell (p := ⟨rb, ro + k, none⟩) hrb |>.trans (hcl k hlt)
        have x2 := hk.cell (p := ⟨sb, so + k, none⟩) hsb |>.trans (hcl2 k (by have := HL.out; omega))
        clear hcl hcl2 hcb
        have k0 : (0 : Int) ≤ (k : Int) := by omega
        have k1 : (k : Int) < (a.length : Int) := by omega
        generalize hx : a.getD k 0 = x at x1
        generalize hy : b.getD k 0 = y at x2
        have HX := Shut.mk hx
        have HY := Shut.mk hy
        clear hx hy
        by_cases hxy : x = y
        · subst hxy
          go_wp2
          go_quiet (fail)
          go_wp2
          go_roundw
          case rel => exact ⟨k + 1, hlt, rfl, fun j hj => by
            by_cases c : j < k
            · exact HS.out j c
            · obtain rfl : j = k := by omega
              rw [HX.out, HY.out], hk.drewN _⟩
          case measure => simp [intOf]; omega
        · have hd2 : (x != y) = true := by simpa using hxy
          have hne : ¬ a = b := fun e => hxy (by rw [← HX.out, ← HY.out, e])
          have HN := Shut.mk hne
          clear hne hxy
          go_wp2
          go_quiet (fail)
          go_wp2
          go_ret
          exact ⟨by rw [decide_eq_false HN.out]; rfl, hk.drewN _⟩
      · obtain rfl : k = a.length := by omega
        have he := getD_ext HL.out HS.out
        have HE := Shut.mk he
        clear he
        go_wp2
        go_ret
        exact ⟨by rw [decide_eq_true HE.out]; rfl, hk⟩
  · have hd : ((a.length : Int) != (b.length : Int)) = true := by simp; omega
    have hne : ¬ a = b := fun e => hl (by rw [e])
    have HN := Shut.mk hne
    clear hne hl
    go_enter Tryz.func114, Tryz.ntmps114
    go_wp2
    go_ret
    exact ⟨by rw [decide_eq_false HN.out]; rfl, Kept.refl _⟩
set_option maxHeartbeats 4000000 in
theorem psameN_any {w : World} {u v : Value} {a b : TN} (ha : RdTn w u a) (hb : RdTn w v b) : Calls Tryz.prog 92 #[u, v] w fun e w' => e = .returned (.bool (sameNB a b)) ∧ Kept w w' := by
  obtain ⟨lv, rfl, hr⟩ := ha
  obtain ⟨mv, rfl, hs⟩ := hb
  have HBB := Shut.mk (show sameNB a b = (a.kd == b.kd && a.id == b.id && a.enc == b.enc && a.sig == b.sig && a.hash == b.hash && decide (a.un = b.un)) from rfl)
  have hk : Kept w ((w.alloc (.cells #[.int .i64 a.kd, .int .i64 a.id, .int .i64 a.enc, .int .i64 a.sig, .int .i64 a.hash, lv] 29)).alloc (.cells #[.int .i64 b.kd, .int .i64 b.id, .int .i64 b.enc, .int .i64 b.sig, .int .i64 b.hash, mv] 29)) := ((Kept.refl w).alloc _).alloc _
  have HSI := Lib.hid (equal_any (hr.kept hk) (hs.kept hk))
  generalize hdd : decide (a.un = b.un) = dd at HBB HSI
  clear hr hs hdd
  cases c0 : (a.kd == b.kd) with
  | false =>
    have HB2 := Shut.mk (show sameNB a b = false by rw [HBB.out]; simp only [c0, Bool.and_false, Bool.false_and])
    go_enter Tryz.func92, Tryz.ntmps92
    go_wp2
    go_ret
    exact ⟨by rw [HB2.out]; rfl, hk⟩
  | true =>
    cases c1 : (a.id == b.id) with
    | false =>
      have HB2 := Shut.mk (show sameNB a b = false by rw [HBB.out]; simp only [c0, c1, Bool.and_false, Bool.false_and])
      go_enter Tryz.func92, Tryz.ntmps92
      go_wp2
      go_ret
      exact ⟨by rw [HB2.out]; rfl, hk⟩
    | true =>
      cases c2 : (a.enc == b.enc) with
      | false =>
        have HB2 := Shut.mk (show sameNB a b = false by rw [HBB.out]; simp only [c0, c1, c2, Bool.and_false, Bool.false_and])
        go_enter Tryz.func92, Tryz.ntmps92
        go_wp2
        go_ret
        exact ⟨by rw [HB2.out]; rfl, hk⟩
      | true =>
        cases c3 : (a.sig == b.sig) with
        | false =>
          have HB2 := Shut.mk (show sameNB a b = false by rw [HBB.out]; simp only [c0, c1, c2, c3, Bool.and_false, Bool.false_and])
          go_enter Tryz.func92, Tryz.ntmps92
          go_wp2
          go_ret
          exact ⟨by rw [HB2.out]; rfl, hk⟩
        | true =>
          cases c4 : (a.hash == b.hash) with
          | false =>
            have HB2 := Shut.mk (show sameNB a b = false by rw [HBB.out]; simp only [c0, c1, c2, c3, c4, Bool.and_false, Bool.false_and])
            go_enter Tryz.func92, Tryz.ntmps92
            go_wp2
            go_ret
            exact ⟨by rw [HB2.out]; rfl, hk⟩
          | true =>
            have HB2 := Shut.mk (show sameNB a b = dd by rw [HBB.out]; simp only [c0, c1, c2, c3, c4, Bool.true_and])
            go_enter Tryz.func92, Tryz.ntmps92
            go_wp2_with fail
            refine HSI.out.mono ?_; rintro e w' ⟨rfl, q⟩
            go_wp2
            go_ret
            exact ⟨by rw [HB2.out]; rfl, hk.trans q⟩

end Go.Proofs.YtnmaiokhndbicaaGreatDoor
end

section
/- Walks of the program's ratchet: members, free, needed, needsAll. -/
set_option linter.unusedSimpArgs false
set_option linter.unusedVariables false
namespace Go.Proofs.YtnmaiokhndbicaaGreatDoor
open Go.RowKit
open Rt

set_option maxHeartbeats 8000000 in
set_option maxRecDepth 100000 in
theorem pmembers_any {w : World} {tv : Value} {t : List TN} {n : Nat} (ht : RdTs w tv t) (hn : n ∈ Mth.fulls) (hlen : t.length = 2 * n - 1) :
    Calls Tryz.prog 119 #[tv] w (MemPost w (memK t n)) := by
  have HLv := Lib.hid (pleaves_of ht hn hlen)
  have HNL := Shut.mk hlen
  have hnb := fulls_bd hn
  obtain ⟨ta, tc, rfl, t1, t2, t3⟩ := ht.len
  have n0 : (1 : Int) ≤ (n : Int) := by omega
  have n1 : (n : Int) ≤ 256 := by omega
  clear hlen hn
  go_enter Tryz.func119, Tryz.ntmps119
  go_wp2_with fail
  (with_reducible refine HLv.out.mono ?_); rintro e w2 ⟨rfl, rfl⟩
  go_wp2
  go_loopw [3, 7] (fun o c wr => ∃ k : Nat, k ≤ n ∧ c = .int .i64 k ∧ (∃ v, v = o ∧ OwnI w.heap.size wr v (memK t k)) ∧ Kept w wr) (fun _ c _ => n - (intOf c).toNat)
  case atStart => exact ⟨0, Nat.zero_le _, rfl, ⟨_, rfl, (OwnI.nil _ _ : OwnI _ _ _ (memK t 0))⟩, Kept.refl _⟩
  case round =>
    obtain ⟨k, hk, rfl, ⟨v, rfl, ho⟩, hkw⟩ := hrel
    by_cases hlt : k < n
    · obtain ⟨zb, zo, zc, za, zcc, hzv, hzat, hzun⟩ := ht.at (k := 2 * k) (by have := HNL.out; omega)
      simp only [Value.slice.injEq] at hzv
      obtain ⟨rfl, -, rfl⟩ := hzv
      have hz0 := (hzat _ hkw).1
      have HLk := Shut.mk (lk_nd t k)
      have HSu := Shut.mk (memK_succ t k)
      have hle := memK_len t k
      have k0 : (0 : Int) ≤ (k : Int) := by omega
      have k1 : (k : Int) < (n : Int) := by omega
      have k2 : 2 * (k : Int) < (t.length : Int) := by have := HNL.out; omega
      generalize (nd t (2 * k)).kd = kd at hz0 HLk
      clear hzat
      cases hkd : (kd == 1) with
      | false =>
        have HS2 := Shut.mk (show memK t (k + 1) = memK t k by rw [HSu.out, HLk.out, hkd]; exact List.append_nil _)
        go_wp2
        go_roundw
        case rel => exact ⟨k + 1, hlt, rfl, ⟨_, rfl, by rw [HS2.out]; exact ho⟩, hkw⟩
        case measure => simp [intOf]; omega
      | true =>
        have HS2 := Shut.mk (show memK t (k + 1) = memK t k ++ [(k : Int)] by rw [HSu.out, HLk.out, hkd]; rfl)
        have hk3 := hkw.alloc (.cells #[.int .i64 (k : Int)] 3)
        have o2 := Ownv.kept ho ((Kept.refl wr).alloc (.cells #[.int .i64 (k : Int)] 3))
        have hlen : (memK t k).length + 1 ≤ 10000000000 := by omega
        have hsz := hkw.size
        go_wp2_with (at_builtin; refine go_appi w.heap.size v (memK t k) rfl o2 _ [(k : Int)] rfl (OwnI.rd (OwnI.lit1 wr _)) hlen (by simp; omega) ?_; intro v6 w6 o6 t6 l6; have k6 : Kept w w6 := Turn.keptOf hk3 t6 (fun b hb => (Ownv.lt o2 hb).2))
        go_roundw
        case rel => exact ⟨k + 1, hlt, rfl, ⟨_, rfl, by rw [HS2.out]; exact o6⟩, k6⟩
        case measure => simp [intOf]; omega
    · have e : k = n := by omega
      subst e
      go_wp2
      go_ret
      exact ⟨_, rfl, ho, hkw⟩
set_option maxHeartbeats 4000000 in
theorem pneeded_any {w : World} {tv : Value} {t : List TN} {n : Nat} (ht : RdTs w tv t) (hn : n ∈ Mth.fulls) (hlen : t.length = 2 * n - 1) :
    Calls Tryz.prog 99 #[tv] w fun e w' => e = .returned (.int .i64 (ndd (memK t n) : Nat)) ∧ Kept w w' := by
  have HM := Lib.hid (pmembers_any ht hn hlen)
  have hnb := fulls_bd hn
  have hml := memK_len t n
  have hla := mem_last t n
  have HS := Lib.hid (fun W => Size_any ((memK t n).getD ((memK t n).length - 1) 0 + 1) W)
  have HD := Shut.mk (show ndd (memK t n) = bif Nat.beq (memK t n).length 0 then 0 else Mth.size (((memK t n).getD ((memK t n).length - 1) 0).toNat + 1) from rfl)
  generalize memK t n = l at HM hml hla HS HD ⊢
  by_cases h0 : l.length = 0
  · have HD2 := Shut.mk (show ndd l = 0 by rw [HD.out, h0]; rfl)
    have hb : ((l.length : Int) == 0) = true := by rw [beq_iff_eq]; omega
    clear hla HD
    go_enter Tryz.func99, Tryz.ntmps99
    go_wp2_with fail
    (with_reducible refine HM.out.mono ?_); rintro e w2 ⟨v, rfl, ho, k⟩
    obtain ⟨a, c, rfl, _, _, _⟩ := (OwnI.rd ho).len
    clear h0
    go_wp2
    go_ret
    exact ⟨by rw [HD2.out]; rfl, k⟩
  · have hb : ((l.length : Int) == 0) = false := by rw [beq_eq_false_iff_ne]; omega
    obtain ⟨L, hL, _, _, _, hlast⟩ := hla.resolve_left (fun h => h0 (by rw [h.1]; rfl))
    have HD2 := Shut.mk (show ndd l = Mth.size (L + 1) by rw [HD.out, nbeq_false h0, hlast, Int.toNat_natCast]; rfl)
    rw [hlast] at HS
    have hsz : szB ((L : Int) + 1) = true := by unfold szB; rw [decide_eq_true (by omega), decide_eq_true (by omega)]; rfl
    have HS2 : Hid (∀ W, Calls Tryz.prog 120 #[.int .i64 ((L : Int) + 1)] W fun e w' => e = .returned (.tuple #[.int .i64 (Mth.size (L + 1) : Nat), .int .i64 0]) ∧ Kept W w') := Lib.hid (fun W => by
      have := HS.out W ⟨by omega, by omega⟩
      rw [hsz] at this
      exact this)
    have L0 : (0 : Int) ≤ (L : Int) := by omega
    have L1 : (L : Int) ≤ 255 := by omega
    have l1 : (1 : Int) ≤ (l.length : Int) := by omega
    have l2 : (l.length : Int) ≤ 256 := by omega
    have hl1 : l.length - 1 < l.length := by omega
    have HLast := Shut.mk hlast
    have H0 := Shut.mk h0
    clear HD HS hsz hlast h0
    go_enter Tryz.func99, Tryz.ntmps99
    go_wp2_with fail
    (with_reducible refine HM.out.mono ?_); rintro e w2 ⟨v, rfl, ho, k⟩
    obtain ⟨rb, ro, rc, rfl, _, _, hrb, hcl⟩ := (OwnI.rd ho).addr (by omega)
    have q0 := hcl (l.length - 1) hl1
    rw [HLast.out] at q0
    have hsub : ((l.length : Int) - 1) = ((l.length - 1 : Nat) : Int) := by omega
    generalize l.length - 1 = j at q0 hsub hl1
    have hnat : ((l.length : Int) - 1).toNat = j := by omega
    clear hcl
    go_wp2_with fail
    (with_reducible refine (HS2.out _).mono ?_); rintro e w3 ⟨rfl, k3⟩
    go_wp2
    go_ret
    exact ⟨by rw [HD2.out]; rfl, k.trans k3⟩
theorem nat_beq (a b : Nat) : ((a : Int) == (b : Int)) = Nat.beq a b := by
  rw [Bool.eq_iff_iff, beq_iff_eq, Nat.beq_eq]
  omega
set_option maxHeartbeats 2000000 in
theorem pneedsAll_any {w : World} {tv : Value} {t : List TN} {n : Nat} (ht : RdTs w tv t) (hn : n ∈ Mth.fulls) (hlen : t.length = 2 * n - 1) :
    Calls Tryz.prog 70 #[tv] w fun e w' => e = .returned (.bool (needB t n)) ∧ Kept w w' := by
  have HN := Lib.hid (pneeded_any ht hn hlen)
  have HL := Lib.hid (fun W (k : Kept w W) => pleaves_of (ht.kept k) hn hlen)
  have HB := Shut.mk (show needB t n = ((ndd (memK t n) : Int) == (n : Int)) by unfold needB; rw [nat_beq])
  generalize ndd (memK t n) = d at HN HB
  generalize hq : ((d : Int) == (n : Int)) = q at HB
  obtain ⟨ta, tc, rfl, t1, t2, t3⟩ := ht.len
  clear hlen hn
  go_enter Tryz.func70, Tryz.ntmps70
  go_wp2_with fail
  (with_reducible refine HN.out.mono ?_); rintro e w2 ⟨rfl, k⟩
  go_wp2_with fail
  (with_reducible refine (HL.out _ k).mono ?_); rintro e w3 ⟨rfl, rfl⟩
  go_wp2
  go_ret
  exact ⟨by rw [HB.out]; rfl, k⟩
end Go.Proofs.YtnmaiokhndbicaaGreatDoor
end

section
/- Walks of the program's ratchet: ownNode, ownNodes. -/
set_option linter.unusedSimpArgs false
set_option linter.unusedVariables false
namespace Go.Proofs.YtnmaiokhndbicaaGreatDoor
open Go.RowKit
open Rt

def NodePost (w : World) (d : TN) (e : Ending) (w' : World) : Prop := ∃ lv, e = .returned (.agg #[.int .i64 d.kd, .int .i64 d.id, .int .i64 d.enc, .int .i64 d.sig, .int .i64 d.hash, lv]) ∧ OwnI w.heap.size w' lv d.un ∧ Kept w w'
theorem ownN_step {w w6 : World} {d : TN} {X : List Value} {lv : Value} {ua : Option Addr} {ul uc : Nat} (k6 : Kept w w6)
    (b1 : Blk w6 w.heap.size 29 [.int .i64 d.kd, .int .i64 d.id, .int .i64 d.enc, .int .i64 d.sig, .int .i64 d.hash, lv]) (b2 : Blk w6 (w.heap.size + 1) 29 X) (hX : X.length = 6)
    (o6 : OwnI w.heap.size w6 (.slice ua ul uc) d.un) : 
    let w7 := w6.setCell ⟨w.heap.size, 5, none⟩ (.slice ua ul uc)
    let w8 := put6 w7 (w.heap.size + 1) 0 d (.slice ua ul uc)
    Kept w w8 ∧ OwnI w.heap.size w8 (.slice ua ul uc) d.un ∧ Blk w8 (w.heap.size + 1) 29 [.int .i64 d.kd, .int .i64 d.id, .int .i64 d.enc, .int .i64 d.sig, .int .i64 d.hash, .slice ua ul uc] := by
  intro w7 w8
  have k7 : Kept w w7 := k6.setCell (Nat.le_refl _) _
  have t8 : Turn (fun b => b = w.heap.size + 1) w7 w8 := put6_turn w7 (w.heap.size + 1) 0 d (.slice ua ul uc)
  refine ⟨Turn.keptOf k7 t8 (fun b e => by rw [e]; omega), ?_, ?_⟩
  · refine Ownv.turn (Ownv.setCell o6 (fun hb => Ownv.notBlk o6 b1 (by decide) hb) _) t8 fun b hb e => ?_
    subst e
    exact Ownv.notBlk o6 b2 (by decide) hb
  · have b7 : Blk w7 (w.heap.size + 1) 29 X := Blk.turn b2 (turn_setCell _ _ _) (by show ¬ w.heap.size + 1 = w.heap.size; omega)
    obtain ⟨x0, x1, x2, x3, x4, x5, rfl⟩ : ∃ x0 x1 x2 x3 x4 x5, X = [x0, x1, x2, x3, x4, x5] := by
      match X, hX with
      | [x0, x1, x2, x3, x4, x5], _ => exact ⟨x0, x1, x2, x3, x4, x5, rfl⟩
    have := (((((b7.set 0 (.int .i64 d.kd)).set 1 (.int .i64 d.id)).set 2 (.int .i64 d.enc)).set 3 (.int .i64 d.sig)).set 4 (.int .i64 d.hash)).set 5 (.slice ua ul uc)
    exact this
theorem go_mkt {w : World} {ops : Array Oper} {rest : List Oper} {a : Act} {Q : Exit → Act → World → Prop} {d : Option Tmp} {ty : TypeId} {ps : String} {af : Array Edge} {l c : Operand}
    (n : Nat) (hl : a.eval l = .int .i64 n) (hc : a.eval c = .int .i64 n) (h1 : n ≤ 1000000)
    (hK : ∀ w', OwnT w.heap.size w' (.slice (some ⟨w.heap.size, 0, none⟩) n n) (List.replicate n tn0) (List.replicate n (.slice none 0 0)) → Kept w w' → wpList Tryz.prog ops Q rest (a.put d (.slice (some ⟨w.heap.size, 0, none⟩) n n)) w') :
    wpList Tryz.prog ops Q (⟨d, .makeSlice 22 l c, ty, ps, af, none⟩ :: rest) a w := by
  obtain ⟨i0, hi, hz0, hz1, hz2⟩ := info_parts Tryz.infoTN
  refine wpList_make_full w rfl l c 22 rfl w.heap.size 29 i0 (.agg zero6) 6 Tryz.underlying22 hi hz0 hz1 .i64 .i64 n n n hl hc rfl rfl (by rw [hz2]; omega) (by unfold maxLen; omega) (Nat.le_refl _) ?_
  intro w' ho hg
  refine hK w' ⟨?_, by simp, fun i hi => ?_, fun i j hi hj _ b hb => ?_⟩ ((Below.refl w.heap.size w).grown hg (Nat.le_refl _) fun k hk => by cases hk)
  · rw [List.length_replicate, ← zero6_flat]
    exact ho
  · rw [List.length_replicate] at hi
    rw [nd_rep, lv_rep hi]
    exact OwnI.nil _ _
  · rw [List.length_replicate] at hi
    rw [lv_rep hi] at hb
    cases hb
end Go.Proofs.YtnmaiokhndbicaaGreatDoor
end

section
/- Walks of the program's ratchet: unmergedFit, nodesFit. -/
set_option linter.unusedSimpArgs false
set_option linter.unusedVariables false
namespace Go.Proofs.YtnmaiokhndbicaaGreatDoor
open Go.RowKit
open Rt

set_option maxHeartbeats 8000000 in
set_option maxRecDepth 100000 in
theorem punf_any {w : World} {tv : Value} {t : List TN} {n x : Nat} (ht : RdTs w tv t) (hok : ∀ d ∈ t, TnOk d) (hn : n ∈ Mth.fulls) (hlen : t.length = 2 * n - 1) (hx : x < t.length) (hT : TabsM w) :
    Calls Tryz.prog 95 #[tv, .int .i64 x] w fun e w' => e = .returned (.bool (unfB t (Mth.hi x) (Mth.lo x : Nat) (nd t x).un)) ∧ Kept w w' := by
  have hnb := fulls_bd hn
  have hx5 : x < 511 := by omega
  have hhi := hi_le hn (by omega : x < 2 * n - 1)
  have HLv : Hid (Calls Tryz.prog 115 #[.int .i64 x] w fun e w' => e = .returned (.tuple #[.int .i64 (Mth.lo x : Nat), .int .i64 (Mth.hi x : Nat), .int .i64 0]) ∧ Kept w w') := Lib.hid (by
    have := Leaves_any x w ⟨by omega, by omega⟩ hT
    rw [in_any hx5] at this
    exact this)
  have HUn := Shut.mk (show ∀ last i r, unfB t (Mth.hi x) last (i :: r) = (!(decide (i < last) || decide ((Mth.hi x : Int) ≤ i) || !lk t i.toNat) && unfB t (Mth.hi x) (i + 1) r) from fun _ _ _ => rfl)
  have HNil := Shut.mk (show ∀ last, unfB t (Mth.hi x) last [] = true from fun _ => rfl)
  have hmem : nd t x ∈ t := by rw [nd_get hx]; exact List.getElem_mem hx
  have HUok := Shut.mk (hok _ hmem).un
  obtain ⟨tb0, to0, tc0, la, lc, htv, hat0, hru⟩ := ht.at (k := x) hx
  subst htv
  have HX5 := Lib.hid (fun W k => (hat0 W k).2.2.2.2.2)
  obtain ⟨_, _, _, l1, l2, l3⟩ := hru.len
  have u63 : (((nd t x).un.length : Nat) : Int) ≤ 9223372036854775807 := by
    obtain ⟨a', c', h1, h2, h3, _⟩ := hru.len
    unfold maxLen at h3; omega
  clear hat0
  generalize hus : (nd t x).un = us at hru HUok u63 HX5 ⊢
  have hres : unfB t (Mth.hi x) (Mth.lo x : Nat) us = unfB t (Mth.hi x) (Mth.lo x : Nat) us := rfl
  generalize hr0 : unfB t (Mth.hi x) (Mth.lo x : Nat) us = res at hres ⊢
  have HRes := Shut.mk hr0
  generalize hlo : Mth.lo x = lo at HLv HRes
  generalize hhe : Mth.hi x = hi' at HLv hhi HUn HNil HRes
  have HLen := Shut.mk hlen
  have t63 : (t.length : Int) ≤ 511 := by omega
  have lob : lo ≤ 600 := by rw [← hlo]; unfold Mth.lo; omega
  have x0 : (0 : Int) ≤ (x : Int) := by omega
  have x1 : (x : Int) < (t.length : Int) := by omega
  clear hres hok hlen hmem hus hlo hhe hr0
  go_enter Tryz.func95, Tryz.ntmps95
  go_wp2_with fail
  refine HLv.out.mono ?_; rintro e w1 ⟨rfl, k1⟩
  have s5 := HX5.out _ k1
  have hruA := hru.kept k1
  go_wp2
  go_loopw [5, 22] (fun l c wr => ∃ (i : Nat) (last : Int), i ≤ us.length ∧ c = .int .i64 i ∧ l = .int .i64 last ∧ 0 ≤ last ∧ last ≤ 600 ∧ unfB t hi' last (us.drop i) = res ∧ Kept w1 wr) (fun _ c _ => us.length - (intOf c).toNat)
  case atStart => exact ⟨0, _, Nat.zero_le _, rfl, rfl, by omega, by omega, HRes.out, Kept.refl _⟩
  case round =>
    obtain ⟨i, last, hi, rfl, rfl, hl0, hl1, hun, hk⟩ := hrel
    have HUnR := Shut.mk hun
    clear hun
    by_cases hlt : i < us.length
    · obtain ⟨ub, uo, uc, huv, _, _, hub, hcl⟩ := hruA.addr (by omega)
      simp only [Value.slice.injEq] at huv
      obtain ⟨rfl, -, rfl⟩ := huv
      have q0 := hk.cell (p := ⟨ub, uo + i, none⟩) hub |>.trans (hcl i hlt)
      have hu := HUok.out _ (getD_memI hlt)
      have hdr : us.drop i = us.getD i 0 :: us.drop (i + 1) := by
        rw [List.drop_eq_getElem_cons hlt, List.getD_eq_getElem?_getD, List.getElem?_eq_getElem hlt]; rfl
      have hr := HUnR.out
      rw [hdr, HUn.out] at hr
      clear hcl hdr
      generalize us.getD i 0 = u at q0 hu hr
      obtain ⟨hu0, hu1⟩ := hu
      have HR := Shut.mk hr
      clear hr
      have i0 : (0 : Int) ≤ (i : Int) := by omega
      have i1 : (i : Int) < (us.length : Int) := by omega
      by_cases c1 : u < last
      · have d1 : decide (u < last) = true := decide_eq_true c1
        have HF := Shut.mk (show res = false by rw [← HR.out, d1]; rfl)
        clear HR
        go_wp2
        go_ret
        exact ⟨by rw [HF.out]; rfl, k1.trans hk⟩
      · have d1 : decide (u < last) = false := decide_eq_false c1
        by_cases c2 : (hi' : Int) ≤ u
        · have d2 : decide ((hi' : Int) ≤ u) = true := decide_eq_true c2
          have HF := Shut.mk (show res = false by rw [← HR.out, d1, d2]; rfl)
          clear HR
          go_wp2
          go_ret
          exact ⟨by rw [HF.out]; rfl, k1.trans hk⟩
        · have d2 : decide ((hi' : Int) ≤ u) = false := decide_eq_false c2
          obtain ⟨j, rfl⟩ : ∃ j : Nat, u = j := ⟨u.toNat, by omega⟩
          obtain ⟨tb, to, tcc, ja, jc, hv, hat, _⟩ := ht.at (k := 2 * j) (by have := HLen.out; omega)
          simp only [Value.slice.injEq, Option.some.injEq, Addr.mk.injEq, and_true, true_and] at hv
          obtain ⟨⟨rfl, rfl⟩, rfl⟩ := hv
          have s0 := (hat wr (k1.trans hk)).1
          have HLk := Shut.mk (lk_nd t j)
          have j0 : (0 : Int) ≤ (j : Int) := by omega
          have j1 : 2 * (j : Int) < (t.length : Int) := by have := HLen.out; omega
          have j2 : (j : Int) ≤ 255 := by omega
          generalize (nd t (2 * j)).kd = kj at s0 HLk
          clear hat
          cases hkj : (kj != 1) with
          | true =>
            have HF := Shut.mk (show res = false by
              rw [← HR.out, d1, d2, Int.toNat_natCast, HLk.out]
              have : (kj == 1) = false := by simpa using hkj
              rw [this]; rfl)
            clear HR
            go_wp2
            go_ret
            exact ⟨by rw [HF.out]; rfl, k1.trans hk⟩
          | false =>
            have HG := Shut.mk (show unfB t hi' ((j : Int) + 1) (us.drop (i + 1)) = res by
              rw [← HR.out, d1, d2, Int.toNat_natCast, HLk.out]
              have : (kj == 1) = true := by simpa using hkj
              rw [this]
              simp)
            clear HR
            go_wp2
            go_roundw
            case rel => exact ⟨i + 1, (j : Int) + 1, hlt, by go_num, by go_num, by omega, by omega, HG.out, hk⟩
            case measure => simp [intOf]; omega
    · have e : us.drop i = [] := List.drop_eq_nil_of_le (by omega)
      have HF := Shut.mk (show res = true by rw [← HUnR.out, e]; exact HNil.out _)
      have i9 : ¬ (i : Int) < (us.length : Int) := by omega
      clear e
      go_wp2
      go_ret
      exact ⟨by rw [HF.out]; rfl, k1.trans hk⟩
set_option maxHeartbeats 8000000 in
set_option maxRecDepth 100000 in
theorem pfits_any {w : World} {tv : Value} {t : List TN} {n : Nat} (ht : RdTs w tv t) (hok : ∀ d ∈ t, TnOk d) (hn : n ∈ Mth.fulls) (hlen : t.length = 2 * n - 1) (hT : TabsM w) :
    Calls Tryz.prog 68 #[tv] w fun e w' => e = .returned (.bool (fitsB t)) ∧ Kept w w' := by
  have hnb := fulls_bd hn
  have HFB := Shut.mk (show fitsB t = (List.range t.length).all fun x => fitB t x from rfl)
  have HFalse := Shut.mk (show ∀ k, k < t.length → fitB t k = false → fitsB t = false from fun k hk h => by
    rw [HFB.out]
    cases e : ((List.range t.length).all fun x => fitB t x) with
    | false => rfl
    | true =>
      have := List.all_eq_true.1 e k (List.mem_range.2 hk)
      rw [h] at this; cases this)
  have t63 : (t.length : Int) ≤ 511 := by omega
  obtain ⟨ta, tc, rfl, t1, t2, t3⟩ := ht.len
  have HN := Shut.mk hn
  have HLen := Shut.mk hlen
  have HOk := Shut.mk hok
  clear hok hn hlen
  go_enter Tryz.func68, Tryz.ntmps68
  go_wp2
  go_loopw [7] (fun c wr => ∃ k : Nat, k ≤ t.length ∧ c = .int .i64 k ∧ (∀ y, y < k → fitB t y = true) ∧ Kept w wr) (fun c _ => t.length - (intOf c).toNat)
  case atStart => exact ⟨0, Nat.zero_le _, rfl, fun y hy => absurd hy (Nat.not_lt_zero _), Kept.refl _⟩
  case round =>
    obtain ⟨k, hk, rfl, hall, hkw⟩ := hrel
    have HAll := Shut.mk hall
    clear hall
    by_cases hlt : k < t.length
    · obtain ⟨zb, zo, zc, za, zcc, hzv, hzat, hzun⟩ := ht.at (k := k) hlt
      simp only [Value.slice.injEq] at hzv
      obtain ⟨rfl, -, rfl⟩ := hzv
      obtain ⟨g0, g1, g2, g3, g4, g5⟩ := hzat wr hkw
      have k0 : (0 : Int) ≤ (k : Int) := by omega
      have k1 : (k : Int) < (t.length : Int) := by omega
      have hkb : Kept w (wr.alloc (.cells #[.int .i64 (nd t k).kd, .int .i64 (nd t k).id, .int .i64 (nd t k).enc, .int .i64 (nd t k).sig, .int .i64 (nd t k).hash, .slice za (nd t k).un.length zcc] 29)) := hkw.alloc _
      have HRd : Hid (∀ W, Kept w W → RdTn W (.agg #[.int .i64 (nd t k).kd, .int .i64 (nd t k).id, .int .i64 (nd t k).enc, .int .i64 (nd t k).sig, .int .i64 (nd t k).hash, .slice za (nd t k).un.length zcc]) (nd t k)) := Lib.hid (fun W q => ⟨_, rfl, hzun.kept q⟩)
      have HUf := Lib.hid (fun W (q : Kept w W) => punf_any (ht.kept q) HOk.out HN.out HLen.out hlt (hT.kept q))
      have bX : Blk (wr.alloc (.cells #[.int .i64 (nd t k).kd, .int .i64 (nd t k).id, .int .i64 (nd t k).enc, .int .i64 (nd t k).sig, .int .i64 (nd t k).hash, .slice za (nd t k).un.length zcc] 29)) wr.heap.size 29 [.int .i64 (nd t k).kd, .int .i64 (nd t k).id, .int .i64 (nd t k).enc, .int .i64 (nd t k).sig, .int .i64 (nd t k).hash, .slice za (nd t k).un.length zcc] := Blk.new _ _ _
      have HFt := Shut.mk (show fitB t k = bif (nd t k).kd == 0 then sameNB (nd t k) tn0 else bif Nat.beq (k % 2) 0 then leafB (nd t k) else parB (nd t k) && unfB t (Mth.hi k) (Mth.lo k : Nat) (nd t k).un from rfl)
      have HSm := Lib.hid (fun W (q : Kept w W) => psameN_any (w := W) (v := .agg #[.int .i64 0, .int .i64 0, .int .i64 0, .int .i64 0, .int .i64 0, .slice none 0 0]) (HRd.out W q) (b := tn0) ⟨.slice none 0 0, rfl, RdI.nil _⟩)
      have HLf := Lib.hid (fun W (q : Kept w W) => pleaf_any (w := W) (HRd.out W q))
      have HPr := Lib.hid (fun W (q : Kept w W) => ppar_any (w := W) (HRd.out W q))
      generalize unfB t (Mth.hi k) (Mth.lo k : Nat) (nd t k).un = uf at HUf HFt
      generalize sameNB (nd t k) tn0 = sm at HSm HFt
      generalize leafB (nd t k) = lf at HLf HFt
      generalize parB (nd t k) = pr at HPr HFt
      have HFa := Shut.mk (HFalse.out k hlt)
      have HNx : ∀ b, b = fitB t k → b = true → Shut (∀ y, y < k + 1 → fitB t y = true) := fun b e h => ⟨fun y hy => by
        by_cases c : y < k
        · exact HAll.out y c
        · obtain rfl : y = k := by omega
          rw [← e]; exact h⟩
      clear hzat hzun HRd
      cases hk0 : ((nd t k).kd == 0) with
      | true =>
        rw [hk0] at HFt
        have hft : fitB t k = sm := HFt.out
        cases sm with
        | true =>
          have HNx2 := HNx true hft.symm rfl
          clear HNx hft HFt
          go_wp2_with fail
          (with_reducible refine (HSm.out _ hkb).mono ?_); rintro e w2 ⟨rfl, q⟩
          go_wp2
          go_roundw
          case rel => exact ⟨k + 1, hlt, by go_num, HNx2.out, hkb.trans q⟩
          case measure => simp [intOf]; omega
        | false =>
          have HF := Shut.mk (HFa.out hft)
          clear HNx hft HFt
          go_wp2_with fail
          (with_reducible refine (HSm.out _ hkb).mono ?_); rintro e w2 ⟨rfl, q⟩
          go_wp2
          go_ret
          exact ⟨by rw [HF.out]; rfl, hkb.trans q⟩
      | false =>
        rw [hk0] at HFt
        by_cases hpar : k % 2 = 0
        · have xm : ((k : Int) % 2 == 0) = true := by rw [beq_iff_eq]; omega
          have hft : fitB t k = lf := by have := HFt.out; rw [hpar] at this; exact this
          clear hpar
          cases lf with
          | true =>
            have HNx2 := HNx true hft.symm rfl
            clear HNx hft HFt
            go_wp2_with fail
            (with_reducible refine (HLf.out _ hkb).mono ?_); rintro e w2 ⟨rfl, q⟩
            go_wp2
            go_roundw
            case rel => exact ⟨k + 1, hlt, by go_num, HNx2.out, hkb.trans q⟩
            case measure => simp [intOf]; omega
          | false =>
            have HF := Shut.mk (HFa.out hft)
            clear HNx hft HFt
            go_wp2_with fail
            (with_reducible refine (HLf.out _ hkb).mono ?_); rintro e w2 ⟨rfl, q⟩
            go_wp2
            go_ret
            exact ⟨by rw [HF.out]; rfl, hkb.trans q⟩
        · have xm : ((k : Int) % 2 == 0) = false := by rw [beq_eq_false_iff_ne]; omega
          have hft : fitB t k = (pr && uf) := by have := HFt.out; rw [show k % 2 = 1 by omega] at this; exact this
          clear hpar
          cases pr with
          | false =>
            have HF := Shut.mk (HFa.out hft)
            clear HNx hft HFt
            go_wp2_with fail
            (with_reducible refine (HPr.out _ hkb).mono ?_); rintro e w2 ⟨rfl, q⟩
            go_wp2
            go_ret
            exact ⟨by rw [HF.out]; rfl, hkb.trans q⟩
          | true =>
            cases uf with
            | true =>
              have HNx2 := HNx true hft.symm rfl
              clear HNx hft HFt
              go_wp2_with fail
              (with_reducible refine (HPr.out _ hkb).mono ?_); rintro e w2 ⟨rfl, q⟩
              go_wp2_with fail
              (with_reducible refine (HUf.out _ (hkb.trans q)).mono ?_); rintro e w3 ⟨rfl, q3⟩
              go_wp2
              go_roundw
              case rel => exact ⟨k + 1, hlt, by go_num, HNx2.out, (hkb.trans q).trans q3⟩
              case measure => simp [intOf]; omega
            | false =>
              have HF := Shut.mk (HFa.out hft)
              clear HNx hft HFt
              go_wp2_with fail
              (with_reducible refine (HPr.out _ hkb).mono ?_); rintro e w2 ⟨rfl, q⟩
              go_wp2_with fail
              (with_reducible refine (HUf.out _ (hkb.trans q)).mono ?_); rintro e w3 ⟨rfl, q3⟩
              go_wp2
              go_ret
              exact ⟨by rw [HF.out]; rfl, (hkb.trans q).trans q3⟩
    · have e : k = t.length := by omega
      have HF := Shut.mk (show fitsB t = true by
        rw [HFB.out, List.all_eq_true]
        exact fun i hi => HAll.out i (by rw [e]; exact List.mem_range.1 hi))
      have k9 : ¬ (k : Int) < (t.length : Int) := by omega
      clear e
      go_wp2
      go_ret
      exact ⟨by rw [HF.out]; rfl, hkw⟩
end Go.Proofs.YtnmaiokhndbicaaGreatDoor
end

section
/- Walks: math's Path answers numbers of its own; the library's BinarySearch; the program's above, unmergedAgree, Check, Members, Same. -/
set_option linter.unusedSimpArgs false
set_option linter.unusedVariables false
namespace Go.Proofs.YtnmaiokhndbicaaGreatDoor
open Go.RowKit
open Rt

def ClimbOwn (w : World) (l : List Int) (e : Ending) (w' : World) : Prop := ∃ v, e = .returned v ∧ OwnI w.heap.size w' v l ∧ Kept w w'
set_option maxHeartbeats 1000000 in
theorem climb_own (t : Nat → Nat) (g : Nat) (eg : ∀ args w, (callFunc g args).run Tryz.prog w = .ok (.enter g args) w)
    (hG : ∀ (y : Nat) (W : World), y < 511 → TabsM W → Calls Tryz.prog g #[.int .i64 (y : Int)] W fun e w' => e = .returned (.int .i64 (t y : Nat)) ∧ Kept W w')
    (x n : Nat) (hn : n ∈ Mth.fulls) (hx : x < 2 * n - 1) (w : World) (ht : TabsM w) :
    Calls Tryz.prog 132 #[.int .i64 x, .int .i64 n, .func (.func g) #[] #[]] w (ClimbOwn w (cl t x (Mth.lvl (n - 1) - Mth.lvl x))) := by
  have hp := Mth.path_of hn hx
  have hbd := fulls_bd hn
  have hl8 := lvl_top hn
  have HR := Lib.hid (fun W => root_any (n : Int) W (by omega) (by omega))
  have HG := Lib.hid hG
  clear hG
  have hlast := hp.last
  have hL8 : Mth.lvl (n - 1) - Mth.lvl x ≤ 8 := by omega
  have hat := hp.at'
  generalize Mth.lvl (n - 1) - Mth.lvl x = L at hlast hat hL8 ⊢
  have HLast := Shut.mk hlast
  have HAt := Shut.mk hat
  have HL := Shut.mk hL8
  clear hlast hat hp hL8
  have hn1 : (1 : Int) ≤ (n : Int) := by omega
  have hn2 : (n : Int) ≤ 256 := by omega
  go_enter Tryz.func132, Tryz.ntmps132
  go_wp2
  go_loopw [0, 7] (fun y l wr => ∃ i : Nat, i ≤ L ∧ y = .int .i64 (Mth.itr i x : Nat) ∧ (∃ v, v = l ∧ OwnI w.heap.size wr v (cl t x i) ∧ slen v = i) ∧ Kept w wr) (fun _ l _ => L - slen l)
  case atStart => exact ⟨0, Nat.zero_le _, rfl, ⟨_, rfl, OwnI.nil _ _, rfl⟩, Kept.refl _⟩
  case round =>
    obtain ⟨i, hi, rfl, ⟨v, rfl, ho, hs⟩, hk⟩ := hrel
    have HS := Shut.mk hs
    clear hs
    by_cases hlt : i < L
    · obtain ⟨_, _, a3, a4, _⟩ := HAt.out i hlt
      have hm : Mth.itr i x < 511 := by omega
      have HSucc := Shut.mk (Mth.itr_succ i x)
      have HCl := Shut.mk (cl_succ t x i)
      have HTy := Lib.hid (fun W k => HG.out (Mth.itr i x) W hm (ht.kept (Kept.trans hk k)))
      have HPy := Lib.hid (fun W (k : Kept w W) => parent_any (Mth.itr i x) hm W (ht.kept k))
      have hne : ((Mth.itr i x : Int) != (n : Int) - 1) = true := by simp; omega
      generalize Mth.itr i x = y at HSucc HCl HTy HPy hne
      generalize t y = ty at HCl HTy
      clear a3 a4 hm
      go_wp2_with (go_at_call 101; refine (HR.out _).mono ?_; rintro e w' ⟨rfl, rfl⟩)
      refine (HTy.out _ (Kept.refl _)).mono ?_
      rintro e w2 ⟨rfl, hk2⟩
      have hsz := (hk.trans hk2).size
      have hk2a := (hk.trans hk2).alloc (.cells #[.int .i64 (ty : Int)] 3)
      have o2 := Ownv.kept (Ownv.kept ho hk2) ((Kept.refl w2).alloc (.cells #[.int .i64 (ty : Int)] 3))
      have hlen : (cl t x i).length + 1 ≤ 10000000000 := by rw [cl_len]; have := HL.out; omega
      go_wp2_with (at_builtin; refine go_appi w.heap.size v (cl t x i) rfl o2 _ [(ty : Int)] rfl (OwnI.rd (OwnI.lit1 w2 _)) hlen (by simp; omega) ?_; intro v6 w6 o6 t6 l6; have k6 : Kept w w6 := Turn.keptOf hk2a t6 (fun b hb => (Ownv.lt o2 hb).2))
      refine (HPy.out _ k6).mono ?_
      rintro e w7 ⟨rfl, hk7⟩
      go_wp2
      go_roundw
      case rel => exact ⟨i + 1, hlt, by rw [HSucc.out], ⟨v6, rfl, by rw [HCl.out]; exact Ownv.kept o6 hk7, by
        obtain ⟨a6, c6, rfl, _⟩ := (OwnI.rd o6).len
        show (cl t x i ++ [(ty : Int)]).length = i + 1
        rw [List.length_append, cl_len]; rfl⟩, k6.trans hk7⟩
      case measure =>
        obtain ⟨a6, c6, rfl, _⟩ := (OwnI.rd o6).len
        have := HS.out
        show L - (cl t x i ++ [(ty : Int)]).length < L - slen v
        rw [List.length_append, cl_len, this]
        simp
        omega
    · have e : i = L := by omega
      have hlst := HLast.out
      rw [← e] at hlst
      have hne : ((Mth.itr i x : Int) != (n : Int) - 1) = false := by simp; omega
      have HE := Shut.mk e
      clear e hlst hlt
      generalize Mth.itr i x = y at hne
      go_wp2_with (go_at_call 101; refine (HR.out _).mono ?_; rintro e w' ⟨rfl, rfl⟩)
      go_ret
      exact ⟨_, rfl, by rw [← HE.out]; exact ho, hk⟩
theorem Path1_own (b c : Nat) (x n : Nat) (hn : n ∈ Mth.fulls) (hx : x < 2 * n - 1) (w : World) (hb : w.cell? ⟨b, 0, none⟩ = some (.int .i64 x)) (hc : w.cell? ⟨c, 0, none⟩ = some (.int .i64 n)) (ht : TabsM w) :
    Calls Tryz.prog 131 #[.pointer (some ⟨b, 0, none⟩), .pointer (some ⟨c, 0, none⟩)] w (ClimbOwn w (ints (Mth.path x n))) := by
  have HC := Lib.hid (climb_own Mth.par 74 (enters_of Tryz.func74 (by kernel_rfl) rfl) (fun y W h t => parent_any y h W t) x n hn hx w ht)
  rw [cl_path hn hx] at HC
  go_enter Tryz.func131, Tryz.ntmps131
  go_wp2_with fail
  refine HC.out.mono ?_
  rintro e w' ⟨v, rfl, hr, hk⟩
  go_wp2
  go_ret
  exact ⟨_, rfl, hr, hk⟩
theorem Path_own (x n : Int) (w : World) (hx : I64 x) (hn : I64 n) (ht : TabsM w) : Calls Tryz.prog 116 #[.int .i64 x, .int .i64 n] w (OwnPost w (inB x n) (ints (Mth.path x.toNat n.toNat))) := by
  have HA := Lib.hid (fun w => within_any x n w hx hn)
  have hk0 : Kept w ((w.alloc (.cells #[.int .i64 x] 3)).alloc (.cells #[.int .i64 n] 3)) := ((Kept.refl w).alloc _).alloc _
  have ht1 := ht.kept hk0
  cases hi : inB x n with
  | false =>
    rw [hi] at HA
    clear hi
    go_enter Tryz.func116, Tryz.ntmps116
    go_wp2_with (first | (go_at_call 100; refine (HA.out _).mono ?_; rintro e w' ⟨rfl, rfl⟩) | (go_at_call 130; refine (told_noL _ _).mono ?_; rintro e w' ⟨rfl, rfl⟩))
    go_ret2
    exact ⟨_, rfl, OwnI.nil _ _, hk0⟩
  | true =>
    obtain ⟨m, k, hm, hkk, hkf, h4, h5⟩ := in_nat hi
    subst hm hkk
    have hb : ((w.alloc (.cells #[.int .i64 (m : Int)] 3)).alloc (.cells #[.int .i64 (k : Int)] 3)).cell? ⟨w.heap.size, 0, none⟩ = some (.int .i64 m) := by
      rw [Below.cell (p := ⟨w.heap.size, 0, none⟩) ((Kept.refl _).alloc _) (by simp)]; exact cell_box _ _ _
    have hc : ((w.alloc (.cells #[.int .i64 (m : Int)] 3)).alloc (.cells #[.int .i64 (k : Int)] 3)).cell? ⟨w.heap.size + 1, 0, none⟩ = some (.int .i64 k) := by
      have := cell_box (w.alloc (.cells #[.int .i64 (m : Int)] 3)) (.int .i64 (k : Int)) 3
      rwa [alloc_size] at this
    have HT := Lib.hid (told_yesL (P := fun v w' => OwnI w.heap.size w' v (ints (Mth.path m k)) ∧ Kept _ w') (enters_of Tryz.func131 (by kernel_rfl) rfl) ((Path1_own w.heap.size (w.heap.size + 1) m k hkf h4 _ hb hc ht1).mono fun e w' ⟨v, he, ho, hk⟩ => ⟨v, he, Ownv.mono ho hk0.size, hk⟩))
    rw [hi] at HA
    clear hi hb hc
    go_enter Tryz.func116, Tryz.ntmps116
    go_wp2_with (first | (go_at_call 100; refine (HA.out _).mono ?_; rintro e w' ⟨rfl, rfl⟩) | (go_at_call 130; refine HT.out.mono ?_; rintro e w' ⟨v, rfl, hr, hk⟩))
    go_ret2
    exact ⟨_, rfl, hr, hk0.trans hk⟩

theorem pbs_any {W : World} {v : Value} {zs : List Int} (h : RdI W v zs) (hs : zs.Pairwise (· < ·)) (hl : zs.length ≤ 100000) (x : Int) :
    Calls Tryz.prog 98 #[v, .int .i64 x] W fun e w' => e = .returned (.tuple #[.int .i64 (zs.countP (· < x) : Nat), .bool (decide (x ∈ zs))]) ∧ ∃ q, w' = W.drewN q := by
  by_cases h0 : zs = []
  · subst h0
    obtain ⟨a, c, rfl, _, _, _⟩ := h.len
    refine (Tryz.slices_BinarySearch_int_empty a c x W).mono fun e w' ⟨he, hw⟩ => ⟨?_, 0, ?_⟩
    · rw [he]; simp
    · rw [hw]; exact (World.drewN_zero W).symm
  · obtain ⟨b, off, c, rfl, h1, h2, h3, hc⟩ := h.addr (List.length_pos_iff.2 h0)
    refine (Tryz.slices_BinarySearch_int b off zs.length c zs x W (Nat.le_refl _) (by omega) hc (by rw [List.take_length]; exact hs.imp fun h => Int.le_of_lt h)).mono fun e w' ⟨he, hw⟩ => ⟨?_, hw⟩
    rw [he, List.take_length]
    simp [List.contains_eq_mem]
set_option maxHeartbeats 4000000 in
theorem pabove_any {w : World} {tv : Value} {t : List TN} {n i g : Nat} {caps : Array Value} {F : Nat → Prop} {I : Nat → World → Prop} (ht : RdTs w tv t) (hn : n ∈ Mth.fulls) (hlen : t.length = 2 * n - 1) (hi : i < n) (hT : TabsM w)
    (eg : ∀ args w, (callFunc g args).run Tryz.prog w = .ok (.enter g args) w) (hF : ∀ b, F b → b < w.heap.size) (h0 : ∀ W, Kept w W → I 0 W)
    (hst : ∀ j, j < (Mth.path (2 * i) n).length → ∀ W, I j W → Calls Tryz.prog g (#[.int .i64 ((Mth.path (2 * i) n).getD j 0 : Nat)] ++ caps) W fun e W' => e = .returned (.tuple #[]) ∧ I (j + 1) W' ∧ Turn F W W') :
    Calls Tryz.prog 96 #[tv, .int .i64 i, .func (.func g) #[] caps] w fun e w' => e = .returned (.tuple #[]) ∧ I (Mth.path (2 * i) n).length w' ∧ Turn F w w' := by
  have hnb := fulls_bd hn
  have hi2 : 2 * i < 2 * n - 1 := by omega
  have HLv := Lib.hid (pleaves_of ht hn hlen)
  have HP : Hid (Calls Tryz.prog 116 #[.int .i64 (2 * (i : Int)), .int .i64 n] w (OwnPost w true (ints (Mth.path (2 * i) n)))) := Lib.hid (by
    have := Path_own ((2 * i : Nat) : Int) n w ⟨by omega, by omega⟩ ⟨by omega, by omega⟩ hT
    rw [nat_in hn hi2] at this
    exact this)
  have hpl8 : (Mth.path (2 * i) n).length ≤ 8 := by
    have hp := Mth.path_of hn hi2
    have hpl : (Mth.path (2 * i) n).length = _ := hp.len
    have := lvl_top hn
    omega
  generalize Mth.path (2 * i) n = p at HP hst hpl8 ⊢
  have HSt := Lib.hid hst
  have H0 := Lib.hid h0
  have HF := Lib.hid hF
  have i0 : (0 : Int) ≤ (i : Int) := by omega
  have i1 : (i : Int) ≤ 256 := by omega
  clear hst h0 hF hlen hn ht
  go_enter Tryz.func96, Tryz.ntmps96
  go_wp2_with fail
  refine HLv.out.mono ?_; rintro e w1 ⟨rfl, rfl⟩
  go_wp2_with fail
  refine HP.out.mono ?_; rintro e w2 ⟨pv, rfl, op, k2⟩
  simp only [er_true]
  replace op : OwnI w.heap.size w2 pv (ints p) := op
  obtain ⟨pa, pc, rfl, _, _, _⟩ := (OwnI.rd op).len
  rw [ints_len] at op ⊢
  have p63 : (p.length : Int) ≤ 8 := by omega
  go_wp2
  go_loopw [20] (fun c wr => ∃ j : Nat, j ≤ p.length ∧ c = .int .i64 j ∧ I j wr ∧ Turn F w2 wr) (fun c _ => p.length - (intOf c).toNat)
  case atStart => exact ⟨0, Nat.zero_le _, rfl, H0.out _ k2, Turn.refl _ _⟩
  case round =>
    obtain ⟨j, hj, rfl, hI, htr⟩ := hrel
    by_cases hlt : j < p.length
    · have opr : OwnI w.heap.size wr (.slice pa p.length pc) (ints p) := Ownv.turn op htr fun b hb hf => by
        have h1 := (Ownv.lt op hb).2
        have h2 := HF.out b hf
        omega
      obtain ⟨rb, ro, rcp, hrv, _, _, hrb, hcl⟩ := (OwnI.rd opr).addr (by rw [ints_len]; omega)
      simp only [Value.slice.injEq] at hrv
      obtain ⟨rfl, -, rfl⟩ := hrv
      have q0 := hcl j (by rw [ints_len]; exact hlt)
      rw [ints_get hlt] at q0
      have HC := Lib.hid (HSt.out j hlt _ hI)
      clear hcl
      generalize p.getD j 0 = x at q0 HC
      have j0 : (0 : Int) ≤ (j : Int) := by omega
      have j1 : (j : Int) < (p.length : Int) := by omega
      go_wp2_with fail
      (with_reducible refine HC.out.mono ?_); rintro e w3 ⟨rfl, hI3, ht3⟩
      go_wp2
      go_roundw
      case rel => exact ⟨j + 1, hlt, by go_num, hI3, Turn.trans htr ht3 (fun b h => .inl h)⟩
      case measure => simp [intOf]; omega
    · have e : j = p.length := by omega
      have HE := Shut.mk (show I p.length wr by rw [← e]; exact hI)
      have k9 : ¬ (j : Int) < (p.length : Int) := by omega
      clear e
      go_wp2
      go_end0
      exact ⟨rfl, HE.out, Turn.trans (k2.turn F) htr (fun b h => .inl h)⟩
end Go.Proofs.YtnmaiokhndbicaaGreatDoor
end
