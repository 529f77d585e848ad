/- Texts of one proof, put together: AlkP, SamA, SamS, SamN, SamB, SamC, SamD, SamE. -/
import Derived.Test.YtangbnmgkcmhbaaDoorMg09
import Derived.Test.YtangbnmgkcmhbaaDoorMg08
import Derived.Test.YtangbnmgkcmhbaaDoorMg07
import Derived.Test.YtangbnmgkcmhbaaDoorMg02
import Derived.LoopNIn
import Derived.LoopN
import Derived.Tactics
import Derived.TacticsIn
import Derived.Test.YtangbnmgkcmhbaaDoorMg01
import Derived.Test.YtangbnmgkcmhbaaDoorMg05
import Derived.BigQuiet
import Derived.Sort.QuietIn
import Derived.Lib.SliceRun
import Derived.Deep.AppendLies
section
/- A list twice: its patterns twice. -/
set_option linter.unusedSimpArgs false
set_option linter.unusedVariables false
namespace Go.Proofs.YtangbnmgkcmhbaaDoor
open Go

theorem patL_ext (ds : List Nd) (kn : Int → Bool) (a l : List Int) : ExtN a (patL (pat ds kn) a l).2 := by
  induction l generalizing a with
  | nil => exact ExtN.refl _
  | cons x l ih => exact (pat_ext ds kn a x).trans (ih _)
theorem patL_again {ds : List Nd} (hg : Good ds) (kn : Int → Bool) {l : List Int} (hT : ∀ x ∈ l, IsT ds x) : ∀ {a c : List Int}, ExtN (patL (pat ds kn) a l).2 c → patL (pat ds kn) c l = ((patL (pat ds kn) a l).1, c) := by
  induction l with
  | nil => intro a c _; rfl
  | cons x l ih =>
    intro a c he
    have h1 := pat_again hg kn (hT x List.mem_cons_self) (a := a) (c := c) ((patL_ext ds kn _ l).trans he)
    have h2 := ih (fun y hy => hT y (List.mem_cons_of_mem _ hy)) (a := (pat ds kn a x).2) (c := c) he
    simp only [patL, h1, h2]
theorem looks_twice {ds : List Nd} (hg : Good ds) {l : List Int} (hT : ∀ x ∈ l, IsT ds x) : ∃ X : List (List UInt8), looks ds (l ++ l) = X ++ X ∧ X.length = l.length := by
  refine ⟨(patL (pat ds (knB (knL ds (l ++ l)))) [] l).1, ?_, patL_len _ _ _⟩
  unfold looks
  rw [patL_append, patL_again hg _ hT (a := []) (ExtN.refl _)]
theorem lightN_append (ds : List Nd) (l m : List Int) : lightN ds (l ++ m) = lightN ds l + lightN ds m := by
  unfold lightN
  simp
theorem light_flat2 {ds : List Nd} (hg : Good ds) (hl : ds.length ≤ 100000) (hs : ∀ t, IsT ds t → (nd ds t).s.length ≤ 60) {l : List Int} (hT : ∀ x ∈ l, IsT ds x) (hw : lightN ds l < 6000) :
    (looks ds l).flatten.length ≤ 1000000 := by
  have e : l.map (fun x => if 0 ≤ x ∧ x < (ds.length : Int) then wt ds x else 0) = l.map (wt ds) := List.map_congr_left fun x hx => if_pos (hT x hx)
  unfold lightN at hw
  rw [e] at hw
  have := patL_flat (g := wt ds) (one := pat ds (knB (knL ds l))) (l := l) (fun a ha x hx => pat_len hg hl hs _ _ x (Nat.lt_succ_self _) (hT x hx) (by
    have : wt ds x ≤ (l.map (wt ds)).sum := mem_sum_le (List.mem_map.2 ⟨x, hx, rfl⟩)
    omega) a ha) (fun a ha x hx => pat_nums hg _ _ x (Nat.lt_succ_self _) (hT x hx) a ha) (Nums.nil ds)
  unfold looks
  omega
end Go.Proofs.YtangbnmgkcmhbaaDoor
end

section
/- slices.Backward of numbers. -/
set_option linter.unusedSimpArgs false
set_option linter.unusedVariables false
namespace Go.Proofs.YtangbnmgkcmhbaaDoor
open Go.RowKit Go.Shelf

attribute [local go_sem] Oper.semAt_some

/-- What a round keeps: a row, and the box of the slice. -/
def KeepQ (b Bs : Nat) (W W' : World) : Prop := W'.heap[b]? = W.heap[b]? ∧ W'.heap[Bs]? = W.heap[Bs]?
theorem KeepQ.trans {b Bs : Nat} {A B C : World} (h : KeepQ b Bs A B) (k : KeepQ b Bs B C) : KeepQ b Bs A C := ⟨k.1.trans h.1, k.2.trans h.2⟩
theorem KeepQ.refl (b Bs : Nat) (W : World) : KeepQ b Bs W W := ⟨rfl, rfl⟩
theorem KeepQ.put {b Bs : Nat} {w : World} (h1 : b < w.heap.size) (h2 : Bs < w.heap.size) (W : World) (l : Nat) (o o' : Obj) (hl : w.heap.size ≤ l) (h : W.heap[l]? = some o) (h3 : o.isCells = false) (h4 : o.isWalk = false) : KeepQ b Bs W (W.putObj l o') := by
  have hlt := (Array.getElem?_eq_some_iff.1 h).1
  exact ⟨(grownBy_putObj' W l o').block b (by omega) (by simp; omega), (grownBy_putObj' W l o').block Bs (by omega) (by simp; omega)⟩

set_option maxRecDepth 100000 in
set_option maxHeartbeats 2000000 in
/-- slices.Backward's closure, over numbers: for every loop body that keeps the row. -/
theorem bwI1_in (F : Fence) (n : Nat) (h8 : F.fn 91) (hro : F.round = none) (hn : 1 ≤ n) (l Bs b cap : Nat) (xs : List Int) (hreach : xs.length ≤ 1000000000) (J Jx : List Nat → World → Prop)
    (hY : ∀ (pre : List Nat) (x : Nat) (W : World), x < xs.length → J pre W → pre.length < xs.length → YieldAt F (n - 1) Tryd.prog l #[.int .i64 (x : Int), .int .i64 (xs.getD x 0)] W fun e W' =>
      (e = .returned (.bool true) ∧ J (pre ++ [x]) W' ∧ KeepQ b Bs W W') ∨ (e = .returned (.bool false) ∧ Jx (pre ++ [x]) W'))
    (W : World) (hBs : W.cell? ⟨Bs, 0, none⟩ = some (.slice (some ⟨b, 0, none⟩) xs.length cap)) (hc : ∀ j, j < xs.length → W.cell? ⟨b, j, none⟩ = some (.int .i64 (xs.getD j 0))) (h0 : J [] W) :
    CallsIn F n Tryd.prog 91 #[.func (.yield l) #[] #[], .pointer (some ⟨Bs, 0, none⟩)] W fun e W' => (∃ v, e = .returned v) ∧
      ((∃ ys, ys = backN xs.length xs.length ∧ J ys W') ∨ (∃ pre, (∃ k, k ≤ xs.length ∧ pre = backN xs.length k) ∧ Jx pre W')) := by
  refine callsIn_of_wp Tryd.func91 rfl h8 ?_ hro
  simp only [Tryd.ntmps91, List.size_toArray, List.length_cons, List.length_nil, Nat.reduceAdd, Nat.reduceSub, Array.replicate_succ, Array.replicate_zero, List.push_toArray, List.append_toArray, List.nil_append, List.cons_append]
  have HC := Shut.mk hc
  clear hc
  gi_wp2
  gi_loopw [3] (fun i wr => ∃ m : Nat, m ≤ xs.length ∧ i = .int .i64 ((m : Int) - 1) ∧ J (backN xs.length (xs.length - m)) wr ∧ KeepQ b Bs W wr)
    (fun i _ => (intOf i + 1).toNat)
  case atStart => exact ⟨xs.length, Nat.le_refl _, rfl, by rw [Nat.sub_self]; exact h0, KeepQ.refl _ _ _⟩
  case round =>
    obtain ⟨m, hm, rfl, hJs, hnx⟩ := hrel
    have hbx : wr.cell? ⟨Bs, 0, none⟩ = some (.slice (some ⟨b, 0, none⟩) xs.length cap) := (World.cell?_of_block hnx.2).trans hBs
    cases m with
    | succ m =>
      have x0 : wr.cell? ⟨b, m, none⟩ = some (.int .i64 (xs.getD m 0)) := (World.cell?_of_block (a := ⟨b, m, none⟩) hnx.1).trans (HC.out m (by omega))
      have e1 : xs.length - 1 - (xs.length - (m + 1)) = m := by omega
      have hbs := backN_succ xs.length (xs.length - (m + 1))
      rw [e1, show xs.length - (m + 1) + 1 = xs.length - m by omega] at hbs
      have HBS := Lib.hid hbs
      clear hbs e1
      have hlt : m < xs.length := by omega
      obtain ⟨fn, tmps, assign, body, hy, hR⟩ := hY _ m wr hlt hJs (by rw [backN_length]; omega)
      generalize xs.getD m 0 = d at x0 hy
      try dsimp only at hy
      have em : ((m + 1 : Nat) : Int) - 1 = (m : Int) := by omega
      rw [em]
      clear em hm
      gi_wp2
      refine hR.mono ?_
      rintro e W3 (⟨rfl, hJ3, hk3⟩ | ⟨rfl, hJx3⟩)
      · gi_wp2
        go_roundw
        case rel => exact ⟨m, by omega, rfl, by rw [HBS.out]; exact hJ3, hnx.trans hk3⟩
        case measure => simp [intOf]
      · gi_wp2
        refine bodyPost_ret (results_none rfl _ _ _) rfl ?_
        exact ⟨⟨_, rfl⟩, .inr ⟨_, ⟨xs.length - m, by omega, HBS.out.symm⟩, hJx3⟩⟩
    | zero =>
      gi_wp2
      go_end0
      exact ⟨⟨_, rfl⟩, .inl ⟨_, rfl, hJs⟩⟩

set_option maxHeartbeats 1000000 in
theorem bwI_in (F : Fence) (n : Nat) (h6 : F.fn 80) (hro : F.round = none) (a : Option Addr) (len cap : Nat) (w : World) :
    CallsIn F n Tryd.prog 80 #[.slice a len cap] w fun e w' => e = .returned (.func (.func 91) #[] #[.pointer (some ⟨w.heap.size, 0, none⟩)]) ∧ w' = w.alloc (.cells #[.slice a len cap] 23) := by
  refine callsIn_of_wp Tryd.func80 rfl h6 ?_ hro
  simp only [Tryd.ntmps80, List.size_toArray, List.length_cons, List.length_nil, Nat.reduceAdd, Nat.reduceSub, Array.replicate_succ, Array.replicate_zero, List.push_toArray, List.append_toArray, List.nil_append, List.cons_append]
  gi_wp2
  go_ret
  exact ⟨rfl, rfl⟩

theorem bwI_stops (F : Fence) (n : Nat) (h8 : F.fn 91) (hro : F.round = none) (hn : 1 ≤ n) (Bs b cap : Nat) (xs : List Int) (hreach : xs.length ≤ 1000000000) (w : World) (hBs : Bs < w.heap.size) (hb : b < w.heap.size)
    (hc : w.cell? ⟨Bs, 0, none⟩ = some (.slice (some ⟨b, 0, none⟩) xs.length cap)) (hI : ∀ j, j < xs.length → w.cell? ⟨b, j, none⟩ = some (.int .i64 (xs.getD j 0))) :
    SeqStopsK F n Tryd.prog 91 #[.pointer (some ⟨Bs, 0, none⟩)] (fun x : Fin xs.length => #[Value.int .i64 (x.val : Int), .int .i64 (xs.getD x.val 0)]) (KeepQ b Bs) (fun ys => valsN ys = backN xs.length xs.length)
      (fun pre => ∃ k, k ≤ xs.length ∧ valsN pre = backN xs.length k) xs.length w := fun l J Jx W hW _ _ hY h0 => by
  have hc' := (hW.cell (p := ⟨Bs, 0, none⟩) hBs).trans hc
  have hcs := fun j hj => (hW.cell (p := ⟨b, j, none⟩) hb).trans (hI j hj)
  refine (bwI1_in F n h8 hro hn l Bs b cap xs hreach (fun pre W => ∃ ys : List (Fin xs.length), valsN ys = pre ∧ J ys W) (fun pre W => ∃ ys : List (Fin xs.length), valsN ys = pre ∧ Jx ys W) ?_ W hc' hcs ⟨[], rfl, h0⟩).mono ?_
  · rintro pre x W1 hx ⟨ys, rfl, hj⟩ hlen
    obtain ⟨fn, tmps, assign, body, hy, hR⟩ := hY ys ⟨x, hx⟩ W1 hj (by unfold valsN at hlen; rwa [List.length_map] at hlen)
    refine ⟨fn, tmps, assign, body, hy, hR.mono ?_⟩
    rintro e W' (⟨a1, a2, a3⟩ | ⟨a1, a2⟩)
    · exact .inl ⟨a1, ⟨_, by unfold valsN; rw [List.map_append]; rfl, a2⟩, a3⟩
    · exact .inr ⟨a1, ⟨_, by unfold valsN; rw [List.map_append]; rfl, a2⟩⟩
  · rintro e W' ⟨he, ⟨ys, rfl, zs, h1, h2⟩ | ⟨pre, ⟨k, hk, rfl⟩, zs, h1, h2⟩⟩
    · exact ⟨he, .inl ⟨zs, h1, h2⟩⟩
    · exact ⟨he, .inr ⟨zs, ⟨k, hk, h1⟩, h2⟩⟩
/-- All numbers, from behind. -/
theorem back_rev (xs : List Int) : (backN xs.length xs.length).map (fun j => xs.getD j 0) = xs.reverse := by
  unfold backN
  rw [List.map_map]
  refine List.ext_getElem (by simp) fun i h1 h2 => ?_
  simp only [List.length_map, List.length_range] at h1
  simp only [List.getElem_map, List.getElem_range, Function.comp, List.getElem_reverse]
  rw [List.getD_eq_getElem?_getD, List.getElem?_eq_getElem (by omega)]
  rfl
end Go.Proofs.YtangbnmgkcmhbaaDoor
end

section
/- Stacks of pieces: plain facts; a loop of rounds that grow less. -/
set_option linter.unusedSimpArgs false
set_option linter.unusedVariables false
namespace Go.Proofs.YtangbnmgkcmhbaaDoor
open Go.RowKit

theorem rounds_ind {F : Fence} {n : Nat} {P : Program} {c : Code} {Q : Exit → Act → World → Prop} (R : Nat → Act → World → Prop) (h0 : ∀ a w, ¬ R 0 a w) (step : ∀ m a w, R (m + 1) a w → c.wpIn F n P (Exit.then (fun a' w' => R m a' w') Q) a w) (m : Nat) (a : Act) (w : World) (h : R m a w) : (Code.loop c).wpIn F n P Q a w := by
  refine wpIn_loop_rounds m ?_
  induction m generalizing a w with
  | zero => exact absurd h (h0 a w)
  | succ m ih =>
    rw [roundsIn_succ]
    refine Code.wpIn_mono ?_ (step m a w h)
    intro e a' w' hq
    cases e with
    | normal => exact ih a' w' hq
    | _ => exact hq

theorem tx_pos {ps : List Pc} (h : PsOk ps) : ∀ (N n : Nat), n < N → n < ps.length → tx ps (n : Int) ≠ [] := by
  intro N
  induction N with
  | zero => intro n h; omega
  | succ N ih =>
    intro n hN hn
    rw [tx_at h hn]
    unfold txOf
    have hok := h n hn
    have hp := h.parts hn
    rcases hok.shape with ⟨a, b⟩ | ⟨a, b⟩
    · rw [if_pos a]; exact b
    · rw [if_neg b]
      cases hl : (ps.getD n pc0).l with
      | nil => exact absurd hl b
      | cons x l =>
        rw [hl] at hp
        have hx := hp x List.mem_cons_self
        obtain ⟨k, rfl⟩ := Int.eq_ofNat_of_zero_le hx.1
        have hk : k < n := by have := hx.2; omega
        rw [cat_cons]
        have := ih k (by omega) (by omega)
        intro e
        exact this (List.append_eq_nil_iff.1 e).1
/-- The text of a stack: what comes next lies last. -/
def stT (ps : List Pc) (zs : List Int) : List UInt8 := cat (txs ps) zs.reverse
theorem stT_snoc (ps : List Pc) (zs : List Int) (x : Int) : stT ps (zs ++ [x]) = tx ps x ++ stT ps zs := by
  unfold stT
  rw [List.reverse_append, List.reverse_singleton, List.singleton_append, cat_cons]
  rfl
theorem stT_len {ps : List Pc} (h : PsOk ps) {zs : List Int} (hz : ∀ x ∈ zs, IsP ps.length x) : zs.length ≤ (stT ps zs).length := by
  have key : ∀ l : List Int, (∀ x ∈ l, IsP ps.length x) → l.length ≤ (cat (txs ps) l).length := by
    intro l
    induction l with
    | nil => intro _; simp
    | cons x l ih =>
      intro hl
      have h1 := ih (fun y hy => hl y (List.mem_cons_of_mem _ hy))
      have hx := hl x List.mem_cons_self
      obtain ⟨k, rfl⟩ := Int.eq_ofNat_of_zero_le hx.1
      have h2 := tx_pos h (k + 1) k (Nat.lt_succ_self _) (by have := hx.2; omega)
      have h3 : 0 < (tx ps (k : Int)).length := List.length_pos_iff.2 h2
      rw [cat_cons, List.length_append, List.length_cons]
      have h4 : ((txs ps).getD (k : Int).toNat []).length = (tx ps (k : Int)).length := rfl
      omega
  have := key zs.reverse (fun x hx => hz x (List.mem_reverse.1 hx))
  rwa [List.length_reverse] at this
theorem stT_open {ps : List Pc} (h : PsOk ps) {zi : List Int} {n : Nat} (hn : n < ps.length) (hl : (ps.getD n pc0).l ≠ []) : stT ps (zi ++ (ps.getD n pc0).l.reverse) = stT ps (zi ++ [(n : Int)]) := by
  rw [stT_snoc, tx_at h hn]
  unfold stT txOf
  rw [if_neg hl, List.reverse_append, List.reverse_reverse, cat_append]
theorem rounds_ind0 {P : Program} {c : Code} {Q : Exit → Act → World → Prop} (R : Nat → Act → World → Prop) (h0 : ∀ a w, ¬ R 0 a w) (step : ∀ m a w, R (m + 1) a w → c.wp P (Exit.then (fun a' w' => R m a' w') Q) a w) (m : Nat) (a : Act) (w : World) (h : R m a w) : (Code.loop c).wp P Q a w := by
  refine wp_loop_rounds m ?_
  induction m generalizing a w with
  | zero => exact absurd h (h0 a w)
  | succ m ih =>
    rw [rounds_succ]
    refine Code.wp_mono ?_ (step m a w h)
    intro e a' w' hq
    cases e with
    | normal => exact ih a' w' hq
    | _ => exact hq
theorem stT_ext {ps ps' : List Pc} (h : PExt ps ps') {zs : List Int} (hz : ∀ x ∈ zs, IsP ps.length x) : stT ps' zs = stT ps zs := by
  unfold stT
  exact cat_ext h (fun x hx => hz x (List.mem_reverse.1 hx))
/-- A word that lies on top. -/
theorem stT_word {ps : List Pc} (h : PsOk ps) {zi : List Int} {n : Nat} (hn : n < ps.length) (hl : (ps.getD n pc0).l = []) : stT ps (zi ++ [(n : Int)]) = (ps.getD n pc0).w ++ stT ps zi := by
  rw [stT_snoc, tx_at h hn]
  unfold txOf
  rw [if_pos hl]
theorem word_ne {ps : List Pc} (h : PsOk ps) {n : Nat} (hn : n < ps.length) (hl : (ps.getD n pc0).l = []) : (ps.getD n pc0).w ≠ [] := by
  rcases (h n hn).shape with ⟨_, b⟩ | ⟨_, b⟩
  · exact b
  · exact absurd hl b
/-- Two texts, the first min of whose words are held against each other. -/
theorem held_ne {s t a b : List UInt8} {n : Nat} (hs : n ≤ s.length) (ht : n ≤ t.length) (h : s.take n ≠ t.take n) : s ++ a ≠ t ++ b := fun e => h (by
  have := congrArg (List.take n) e
  rwa [List.take_append_of_le_length hs, List.take_append_of_le_length ht] at this)
theorem held_eq {s t a b : List UInt8} {n : Nat} (h : s.take n = t.take n) : (s ++ a = t ++ b) ↔ (s.drop n ++ a = t.drop n ++ b) := by
  have e1 : s ++ a = s.take n ++ (s.drop n ++ a) := by rw [← List.append_assoc, List.take_append_drop]
  have e2 : t ++ b = t.take n ++ (t.drop n ++ b) := by rw [← List.append_assoc, List.take_append_drop]
  rw [e1, e2, h]
  exact List.append_right_inj _
theorem stT_nil_iff {ps : List Pc} (h : PsOk ps) {zs : List Int} (hz : ∀ x ∈ zs, IsP ps.length x) : stT ps zs = [] ↔ zs = [] := by
  constructor
  · intro e
    have := stT_len h hz
    rw [e] at this
    exact List.eq_nil_of_length_eq_zero (by simpa using this)
  · rintro rfl
    rfl
end Go.Proofs.YtangbnmgkcmhbaaDoor
end

section
/- Pieces: next, pass. -/
set_option linter.unusedSimpArgs false
set_option linter.unusedVariables false
namespace Go.Proofs.YtangbnmgkcmhbaaDoor
open Go.RowKit Go.Maps

/-- What one piece's cells are, its parts nil if there are none. -/
theorem PcG.at3 {F : Nat → Prop} {w : World} {pb : Nat} {ps : List Pc} (h : PcG F w (.pointer (some ⟨pb, 0, none⟩)) ps) {i : Nat} (hi : i < ps.length) :
    ∃ (ab cap : Nat) (lv : Value), F pb ∧ F ab ∧ (∀ b, Blks lv b → F b) ∧ w.cell? ⟨pb, 0, none⟩ = some (.slice (some ⟨ab, 0, none⟩) ps.length cap) ∧
      w.cell? ⟨ab, i * 3, none⟩ = some (.string (strB (ps.getD i pc0).w)) ∧ w.cell? ⟨ab, i * 3 + 1, none⟩ = some lv ∧ OwnL w lv (ps.getD i pc0).l := by
  obtain ⟨pb', mb, n, nv, lvs, D, e, h2, h3, h4, h5, h6, h7, h8, h9, h10, h11, h12⟩ := h.rep
  simp only [Value.pointer.injEq, Option.some.injEq, Addr.mk.injEq] at e
  obtain ⟨rfl, _⟩ := e
  obtain ⟨g, cap, rfl, g1, g2, g3, g4, g5, g6⟩ := Ownv.row h3 (by omega)
  have hat : ∀ j u, j < 3 → (pcCells (ps.getD i pc0) (lvs.getD i undef))[j]? = some u → w.cell? ⟨g, i * 3 + j, none⟩ = some u := by
    intro j u hj hu
    have := g5 (i * 3 + j) (by omega)
    rw [List.getD_eq_getElem?_getD, pflat_at ps lvs i j hi hj, hu] at this
    exact this
  exact ⟨g, cap, lvs.getD i undef, h9, h11 g rfl, h12 i hi, h2.cell 0, hat 0 _ (by omega) rfl, hat 1 _ (by omega) rfl, h5 i hi⟩

theorem PcG.ptr {F : Nat → Prop} {w : World} {pp : Value} {ps : List Pc} (h : PcG F w pp ps) : ∃ pb, pp = .pointer (some ⟨pb, 0, none⟩) := by
  obtain ⟨pb, mb, nn, nv, lvs, D, e, _⟩ := h.rep
  exact ⟨pb, e⟩
set_option maxHeartbeats 4000000 in
set_option maxRecDepth 100000 in
theorem next_any {P : Nat → Prop} {w : World} {pp v : Value} {ps : List Pc} (h : PcG P w pp ps) {zi : List Int} {n : Nat} (ho : OwnI 0 w v (zi ++ [(n : Int)])) (hn : n < ps.length) (hfew : ps.length ≤ 1000000000) (hz : zi.length ≤ 1000000000) :
    Calls Tryd.prog 61 #[pp, v] w fun e w' => e = .returned (.string (strB (ps.getD n pc0).w)) ∧ Kept w w' := by
  obtain ⟨pb, rfl⟩ := h.ptr
  obtain ⟨g, cap, hv, h1, h2, _, h4, h5, h6⟩ := OwnI.row ho (by simp)
  rw [List.length_append, List.length_singleton] at hv h1 h5
  have c1 := h5 zi.length (by omega)
  rw [show (zi ++ [(n : Int)]).getD zi.length 0 = (n : Int) by simp] at c1
  obtain ⟨ab, pcap, lv, hFp, hFa, hFl, r0, r1, r2, hol⟩ := h.at3 hn
  have hnI : (n : Int) < (ps.length : Int) := by omega
  subst hv
  clear h ho h5 h6 r2 hol hFl
  generalize strB (ps.getD n pc0).w = S at r1 ⊢
  go_enter Tryd.func61, Tryd.ntmps61
  go_wp2_with fail
  go_quiet (fail)
  go_wp2
  go_ret
  exact ⟨rfl, (Kept.refl w).drewN _⟩

/-- What pass leaves. -/
def PassPost (P : Nat → Prop) (w : World) (pp : Value) (ps : List Pc) (v : Value) (zi : List Int) (r : List UInt8) (e : Ending) (w' : World) : Prop :=
  ∃ (P' : Nat → Prop) (ps' : List Pc) (v' : Value) (zs' : List Int), e = .returned v' ∧ PcG P' w' pp ps' ∧ PExt ps ps' ∧ ps'.length ≤ ps.length + 1 ∧ OwnI 0 w' v' zs' ∧ (∀ x ∈ zs', IsP ps'.length x) ∧ stT ps' zs' = r ++ stT ps zi ∧
    (∀ b, Blks v' b → Blks v b ∨ w.heap.size ≤ b) ∧ (∀ b, P' b → P b ∨ w.heap.size ≤ b) ∧ (∀ b, Blks v' b → ¬ P' b) ∧ Turn (fun b => P b ∨ Blks v b) w w'
set_option maxHeartbeats 4000000 in
set_option maxRecDepth 100000 in
theorem pass_any {P : Nat → Prop} {w : World} {pp v : Value} {ps : List Pc} (h : PcG P w pp ps) {zi : List Int} {n : Nat} (ho : OwnI 0 w v (zi ++ [(n : Int)])) (hap : ∀ b, Blks v b → ¬ P b) (hp : ∀ x ∈ zi, IsP ps.length x) (hfew : ps.length ≤ 1000000000) (hz : zi.length ≤ 1000000000) (r : List UInt8) (hr : r.length ≤ 1000) :
    Calls Tryd.prog 62 #[pp, v, .string (strB r)] w (PassPost P w pp ps v zi r) := by
  have HH := Shut.mk h
  have HAP := Shut.mk hap
  have HP := Shut.mk hp
  obtain ⟨g, cap, hv, h1, h2, _, h4, h5, h6⟩ := OwnI.row ho (by simp)
  rw [List.length_append, List.length_singleton] at hv h1 h5
  subst hv
  have hnP : ¬ P g := hap g rfl
  have hcut : OwnI 0 w (.slice (some ⟨g, 0, none⟩) zi.length cap) zi := by
    have := OwnI.take ho zi.length (by simp)
    rwa [List.take_left] at this
  have HC := Shut.mk hcut
  have hcapI : (zi.length : Int) ≤ (cap : Int) := by omega
  cases r with
  | nil =>
    clear h ho h5 h6 hap hp hcut
    have e0 : strB [] = (⟨#[]⟩ : ByteArray) := rfl
    rw [e0]
    go_enter Tryd.func62, Tryd.ntmps62
    go_wp2
    go_ret
    exact ⟨P, ps, _, zi, rfl, HH.out, PExt.refl ps, Nat.le_succ _, HC.out, HP.out, rfl, fun b hb => .inl hb, fun b hb => .inl hb, HAP.out, Turn.refl _ _⟩
  | cons c r =>
    have hw := word_any h (c :: r) (by simp) hr hfew
    have hne : (strB (c :: r)).toList.isEmpty = false := by
      rw [ByteArray.toList_eq]
      rfl
    generalize hS : strB (c :: r) = S at hw hne ⊢
    clear h ho h5 h6 hap hp hcut hS
    go_enter Tryd.func62, Tryd.ntmps62
    go_wp2_with (first
      | (go_at_call 75; (with_reducible refine hw.mono ?_); rintro e w1 ⟨F', ps', m, rfl, r1, r2, r3, r4, r5, r6, r7⟩; have o1 : OwnI 0 w1 (.slice (some ⟨g, 0, none⟩) zi.length cap) zi := HC.out.turn r6 (fun b hb hq => hnP (by rw [show g = b from Option.some.inj hb]; exact hq)); have k1 : Kept w1 (w1.alloc (.cells #[.int .i64 (m : Int)] 3)) := (Kept.refl w1).alloc _; have oA : OwnI 0 _ _ _ := Ownv.kept o1 k1; have oL := (OwnI.lit1 w1 (m : Int)).rd)
      | (at_builtin; refine go_appi 0 _ zi rfl oA _ [(m : Int)] rfl oL (by simp; omega) (Nat.zero_le _) ?_; intro v2 w2 o2 t2 l2)
      | fail)
    go_ret
    have t2' : Turn (Blks (.slice (some ⟨g, 0, none⟩) zi.length cap)) w1 w2 := (k1.turn _).trans t2 (fun x hx => .inl hx)
    have hb2 : ∀ b, Blks v2 b → b = g ∨ w1.heap.size ≤ b := fun b hb => (l2 b hb).elim (fun c => .inl (Option.some.inj c).symm) (fun c => .inr (by rw [alloc_size] at c; omega))
    have hF2 : ∀ b, F' b → ¬ Blks (.slice (some ⟨g, 0, none⟩) zi.length cap) b := fun b hb hc => by
      obtain rfl : g = b := Option.some.inj hc
      exact (r7 _ hb).elim hnP (fun x => by omega)
    refine ⟨F', ps', v2, zi ++ [(m : Int)], rfl, r1.turn t2' hF2, r2, r3, o2, fun x hx => ?_, ?_, fun b hb => ?_, r7, fun b hb hc => ?_, ?_⟩
    · exact (List.mem_append.1 hx).elim (fun c => (HP.out x c).mono r2.len) (fun c => by rw [List.mem_singleton.1 c]; exact ⟨by omega, by omega⟩)
    · rw [stT_snoc, r5, stT_ext r2 HP.out]
    · exact (hb2 b hb).elim (fun e => .inl (by rw [e]; rfl)) (fun e => .inr (Nat.le_trans r6.size e))
    · rcases hb2 b hb with rfl | e
      · exact hF2 _ hc rfl
      · have := r1.lt b hc; omega
    · exact (r6.mono fun b hb => .inl hb).trans t2' (fun b hb => .inl (.inr hb))
end Go.Proofs.YtangbnmgkcmhbaaDoor
end

section
/- Pieces: open. -/
set_option linter.unusedSimpArgs false
set_option linter.unusedVariables false
namespace Go.Proofs.YtangbnmgkcmhbaaDoor
open Go.RowKit Go.Shelf Go.Maps

attribute [local go_sem] Oper.semAt_some

/-- What open leaves. -/
def OpenPost (w : World) (ps : List Pc) (v : Value) (zs : List Int) (e : Ending) (w' : World) : Prop :=
  ∃ (v' : Value) (zi : List Int) (n : Nat), e = .returned v' ∧ OwnI 0 w' v' (zi ++ [(n : Int)]) ∧ n < ps.length ∧ (ps.getD n pc0).l = [] ∧ (∀ x ∈ zi, IsP ps.length x) ∧ stT ps (zi ++ [(n : Int)]) = stT ps zs ∧ (∀ b, Blks v' b → Blks v b ∨ w.heap.size ≤ b) ∧ Turn (Blks v) w w'
/-- Marks of ranges that are over. -/
def Marks (B U : Nat) : List Deferred → World → Prop
  | [], _ => True
  | d :: ds, w => (∃ r, d.target = .collected r ∧ B ≤ r ∧ r < U ∧ w.heap[r]? = some (.deferred (some [])) ∧ ∀ c ∈ ds, c.target ≠ .collected r) ∧ Marks B U ds w
theorem Marks.mono {B U U' : Nat} (hU : U ≤ U') : ∀ {D : List Deferred} {w w' : World}, Marks B U D w → (∀ r, B ≤ r → r < U → w.heap[r]? = some (.deferred (some [])) → w'.heap[r]? = some (.deferred (some []))) → Marks B U' D w'
  | [], _, _, _, _ => trivial
  | d :: ds, _, _, ⟨⟨r, h1, h2, h3, h4, h5⟩, hm⟩, hk => ⟨⟨r, h1, h2, Nat.lt_of_lt_of_le h3 hU, hk r h2 h3 h4, h5⟩, hm.mono hU hk⟩
theorem Marks.drop {B U r : Nat} : ∀ {D : List Deferred} {w : World}, Marks B U D w → (∀ c ∈ D, c.target ≠ .collected r) → Marks B U D (w.putObj r (.deferred none))
  | [], _, _, _ => trivial
  | d :: ds, w, ⟨⟨r', h1, h2, h3, h4, h5⟩, hm⟩, hn => by
    have hne : r' ≠ r := fun e => hn d List.mem_cons_self (by rw [h1, e])
    refine ⟨⟨r', h1, h2, h3, ?_, h5⟩, hm.drop (fun c hc => hn c (List.mem_cons_of_mem _ hc))⟩
    exact ((grownBy_putObj' w r (.deferred none)).block r' (Array.getElem?_eq_some_iff.1 h4).1 (fun e => hne (Option.some.inj e))).trans h4
theorem Marks.fresh {B U r : Nat} : ∀ {D : List Deferred} {w : World}, Marks B U D w → U ≤ r → ∀ c ∈ D, c.target ≠ .collected r
  | [], _, _, _, c, hc => by cases hc
  | d :: ds, w, ⟨⟨r', h1, h2, h3, h4, h5⟩, hm⟩, hr, c, hc => by
    rcases List.mem_cons.1 hc with rfl | hc
    · rw [h1]
      intro e
      have : r' = r := by injection e
      omega
    · exact hm.fresh hr c hc
theorem leaves_marks {F : Fence} {n : Nat} {P : Program} {fn : Func} {tmps : Array Value} {R : Ending → World → Prop} {B U : Nat} (I : World → Prop)
    (hI : ∀ W r, B ≤ r → W.heap[r]? = some (.deferred (some [])) → I W → I (W.putObj r (.deferred none))) (hb : ∀ W, I W → LeavesInM F n P fn tmps R [] .returning W) :
    ∀ (D : List Deferred) (W : World), Marks B U D W → I W → LeavesInM F n P fn tmps R D .returning W
  | [], W, _, hi => hb W hi
  | d :: ds, W, ⟨⟨r, h1, h2, h3, h4, h5⟩, hm⟩, hi => ⟨by simp, .inl ⟨r, _, h1, run_takeDeferred h4, leaves_marks I hI hb ds _ (hm.drop h5) (hI W r h2 h4 hi)⟩⟩

/-- append of one number, inside a fence. -/
theorem gi_appi {F : Fence} {n : Nat} {w : World} {ops : Array Oper} {rest : List Oper} {o : Oper} {a : Act} {Q : Exit → Act → World → Prop} (hg : o.guard = none) (s x : Operand)
    (hop : o.op = .call { callee := .builtin .append, args := #[s, x], argTypes := #[23, 23] }) (v : Value) (zs : List Int) (hs : a.eval s = v) (hown : OwnI 0 w v zs) (ad : Addr) (z : Int) (hx : a.eval x = .slice (some ad) 1 1) (hc : w.cell? ad = some (.int .i64 z)) (hl : zs.length + 1 ≤ 10000000000)
    (hK : ∀ v' w', OwnI 0 w' v' (zs ++ [z]) → w.grownBy w' v.ownBlock → (∀ b, Blks v' b → Blks v b ∨ w.heap.size ≤ b) → wpListIn F n Tryd.prog ops Q rest (a.put o.dst v') w') : wpListIn F n Tryd.prog ops Q (o :: rest) a w := by
  obtain ⟨i0, hi, hz0, hz1, hz2⟩ := info_parts Tryd.infoInt
  refine wpListIn_plain hg fun K hK' => ?_
  obtain ⟨g, cap, w', hrun, r1, r2, r3, r4⟩ := run_append_lies (P := Tryd.prog) w 23 o.type 0 3 i0 (.int .i64 0) 1 8 Tryd.underlying23 hi hz0 hz1 hz2 rfl (by decide) v zs.length (zs.map (Value.int .i64)) hown ad 1 1 [.int .i64 z] rfl
    (fun j u hj => by
      cases j with
      | zero =>
        have e : ad.add 0 = ad := by
          obtain ⟨b, o, sp⟩ := ad
          unfold Addr.add
          split <;> simp_all
        rw [e, hc]
        simpa using hj
      | succ j => simp at hj) (fun u hu => by rw [List.mem_singleton.1 hu]; rfl) (by decide) (by unfold maxLen; omega) (by omega) (Nat.zero_le _) _ rfl
  have ho' : OwnI 0 w' (.slice (some ⟨g, 0, none⟩) (zs.length + 1) cap) (zs ++ [z]) := by
    unfold OwnI Ownv
    rw [List.length_append, List.map_append]
    exact r1
  unfold Oper.wpIn
  refine ⟨?_, ?_⟩
  · simp [Oper.about, hop, resolve, Target.leads, Sem.run_pure]
  · rw [Oper.semAt_plain F _ _ (by rw [hop]; intro c hc'; cases hc')]
    simp [execOp, hop, resolve, invoke, builtin, hs, hx, hrun, Result.andThen]
    exact hK' _ _ (hK _ w' ho' r2 (fun b hb => by
      obtain rfl : g = b := by simpa [Blks, Value.ownBlock] using hb
      exact r3.elim .inl (fun e => .inr (Nat.le_of_eq e.symm))))

/-- What open has, on its way. -/
structure OpM (w : World) (ps : List Pc) (v : Value) (zs : List Int) (W : World) (sv : Value) (zi : List Int) (k : Nat) (D : List Deferred) : Prop where
  box : Blk W w.heap.size 23 [sv]
  own : OwnI 0 W sv (zi ++ [(k : Int)])
  kp : k < ps.length
  isP : ∀ x ∈ zi, IsP ps.length x
  says : stT ps (zi ++ [(k : Int)]) = stT ps zs
  loc : ∀ b, Blks sv b → Blks v b ∨ w.heap.size ≤ b
  turn : Turn (Blks v) w W
  marks : Marks w.heap.size W.heap.size D W

theorem OpM.kept {w : World} {ps : List Pc} {v : Value} {zs : List Int} {W : World} {sv : Value} {zi : List Int} {k : Nat} {D : List Deferred} (h : OpM w ps v zs W sv zi k D) {W' : World} (kd : Kept W W') : OpM w ps v zs W' sv zi k D :=
  { box := h.box.kept kd, own := Ownv.kept h.own kd, kp := h.kp, isP := h.isP, says := h.says, loc := h.loc, turn := h.turn.kept kd, marks := h.marks.mono kd.size (fun r _ _ hr => (kd.block r (Array.getElem?_eq_some_iff.1 hr).1).trans hr) }

set_option maxHeartbeats 8000000 in
set_option maxRecDepth 100000 in
theorem open_in (n : Nat) (hn : 3 ≤ n)
    {P : Nat → Prop} {w : World} {pp v : Value} {ps : List Pc} (h : PcG P w pp ps) {zs z0 : List Int} {k0 : Nat} (hz0 : zs = z0 ++ [(k0 : Int)]) (ho : OwnI 0 w v zs) (hap : ∀ b, Blks v b → ¬ P b) (hp : ∀ x ∈ zs, IsP ps.length x) (hlen : (stT ps zs).length ≤ 1000000000) :
    CallsIn Fence.wide n Tryd.prog 60 #[pp, v] w (OpenPost w ps v zs) := by
  have h1 : 1 ≤ n := by omega
  have h4 : Fence.wide.fn 60 := trivial
  have h6 : Fence.wide.fn 80 := trivial
  have h8 : Fence.wide.fn 91 := trivial
  have hro : Fence.wide.round = none := rfl
  have HH := Shut.mk h
  have HAP := Shut.mk hap
  have HLEN := Shut.mk hlen
  have st0 : OpM w ps v zs (w.alloc (.cells #[v] 23)) v z0 k0 [] :=
    { box := Blk.new w [v] 23
      own := by rw [← hz0]; exact Ownv.kept ho ((Kept.refl w).alloc _)
      kp := by have := (hp (k0 : Int) (by rw [hz0]; simp)).2; omega
      isP := fun x hx => hp x (by rw [hz0]; exact List.mem_append_left _ hx)
      says := by rw [hz0]
      loc := fun b hb => .inl hb
      turn := ((Kept.refl w).alloc _).turn _
      marks := trivial }
  obtain ⟨va, vc, rfl, _, _, _⟩ := (OwnI.rd ho).len
  have hpf : ∃ pb, pp = .pointer (some ⟨pb, 0, none⟩) := by
    obtain ⟨pb, mb, nn, nv, lvs, D, e, _⟩ := h.rep
    exact ⟨pb, e⟩
  obtain ⟨pb, rfl⟩ := hpf
  have HS0 := Shut.mk st0
  clear h ho hap hp hz0 hlen st0
  refine callsIn_of_wp_marks Tryd.func60 rfl h4 ?_ hro
  simp only [Tryd.ntmps60, List.size_toArray, List.length_cons, List.length_nil, Nat.reduceAdd, Nat.reduceSub, Array.replicate_succ, Array.replicate_zero, List.push_toArray, List.append_toArray, List.nil_append, List.cons_append]
  gi_wp2
  refine rounds_ind (fun m a W => ∃ (u5 u6 u7 u8 u9 u10 u11 u12 u13 u14 u15 u16 u17 u18 u19 u20 u21 u22 u23 u24 u25 u26 u27 u28 u29 u30 u31 u32 u33 u34 u35 u36 : Value) (D : List Deferred) (sv : Value) (zi : List Int) (k : Nat), a = { tmps := #[.pointer (some ⟨pb, 0, none⟩), .slice va zs.length vc, undef, .pointer (some ⟨w.heap.size, 0, none⟩), .slice none 0 0, u5, u6, u7, u8, u9, u10, u11, u12, u13, u14, u15, u16, u17, u18, u19, u20, u21, u22, u23, u24, u25, u26, u27, u28, u29, u30, u31, u32, u33, u34, u35, u36], defers := D } ∧ k < m ∧ OpM w ps (.slice va zs.length vc) zs W sv zi k D) ?_ ?_ (k0 + 1) _ _ ?_
  · rintro a W ⟨u5, u6, u7, u8, u9, u10, u11, u12, u13, u14, u15, u16, u17, u18, u19, u20, u21, u22, u23, u24, u25, u26, u27, u28, u29, u30, u31, u32, u33, u34, u35, u36, D, sv, zi, k, _, hk, _⟩
    omega
  · rintro m a W ⟨u5, u6, u7, u8, u9, u10, u11, u12, u13, u14, u15, u16, u17, u18, u19, u20, u21, u22, u23, u24, u25, u26, u27, u28, u29, u30, u31, u32, u33, u34, u35, u36, D, sv, zi, k, rfl, hkm, st⟩
    have HST := Shut.mk st
    have hPW := HH.out.turn st.turn (fun b hb hc => HAP.out b hc hb)
    have HPW := Shut.mk hPW
    have cbx := st.box.cell 0
    simp only [List.getElem?_cons_zero] at cbx
    have fbx := st.box.frozen 0
    have hkp := st.kp
    obtain ⟨g, cap, hsv, hcap, hcm, _, hgW, hgc, hgf⟩ := OwnI.row st.own (by simp)
    have hL : (zi ++ [(k : Int)]).length = zi.length + 1 := by simp
    rw [hL] at hsv hcap hgc
    have ctop := hgc zi.length (by omega)
    have e0 : (zi ++ [(k : Int)]).getD zi.length 0 = (k : Int) := by simp
    rw [e0] at ctop
    subst hsv
    have hlz : zi.length + 1 ≤ 1000000000 := by
      have := stT_len HPW.out.ok (zs := zi ++ [(k : Int)]) (fun x hx => (List.mem_append.1 hx).elim (HST.out.isP x) (fun c => by rw [List.mem_singleton.1 c]; exact ⟨by omega, by omega⟩))
      rw [HST.out.says, hL] at this
      have := HLEN.out
      omega
    have hkI : (k : Int) < (ps.length : Int) := by omega
    obtain ⟨ab, pcap, lv, hFp, hFa, hFl, r0, r1, r2, hol⟩ := hPW.at3 hkp
    clear e0 hL hgc st r1 hPW
    have HOL := Shut.mk hol
    have HFL := Shut.mk hFl
    by_cases hl : (ps.getD k pc0).l = []
    · have hlv := hol.2 hl
      subst hlv
      have HL := Shut.mk hl
      have hn := fun w => Lib.run_eql_slice_nil (P := Tryd.prog) w 23 3 none 0 0 0 0 Tryd.underlying23
      clear hl hol hFl
      gi_wp2_with fail
      gi_quiet (fail)
      gi_wp2
      change LeavesInM _ _ _ _ _ _ D .returning (W.drewN nq)
      have kd : Kept W (W.drewN nq) := (Kept.refl W).drewN nq
      have hOW : OwnI 0 (W.drewN nq) (.slice (some ⟨g, 0, none⟩) (zi.length + 1) cap) (zi ++ [(k : Int)]) := Ownv.kept HST.out.own kd
      refine leaves_marks (B := w.heap.size) (U := W.heap.size) (fun W' => OwnI 0 W' (.slice (some ⟨g, 0, none⟩) (zi.length + 1) cap) (zi ++ [(k : Int)]) ∧ Turn (Blks (.slice va zs.length vc)) w W') ?_ ?_ D (W.drewN nq) (HST.out.marks.mono (Nat.le_refl _) (fun r _ _ hr => (kd.block r (Array.getElem?_eq_some_iff.1 hr).1).trans hr)) ⟨hOW, HST.out.turn.kept kd⟩
      · rintro W' r hB hr ⟨p1, p2⟩
        have hg2 := grownBy_putObj' W' r (.deferred none)
        refine ⟨Ownv.same p1 fun b e => hg2.block b (Ownv.lt p1 e).1 (fun e' => ?_), p2.trans ((Grown.turn hg2).mono fun b e => e) (fun b e => .inr (by have := Option.some.inj e; omega))⟩
        obtain rfl := Option.some.inj e'
        obtain ⟨c, hc⟩ := Ownv.obj p1 e
        rw [hc] at hr
        cases hr
      · rintro W' ⟨p1, p2⟩
        refine ⟨.slice (some ⟨g, 0, none⟩) (zi.length + 1) cap, ?_, ⟨_, zi, k, rfl, p1, HST.out.kp, HL.out, HST.out.isP, HST.out.says, HST.out.loc, p2⟩⟩
        simp [results, Tryd.f60, go_sem]
    · have HL := Shut.mk hl
      obtain ⟨lg, lc, hlv, hlc1, hlc2, _, hlgW, hlgc, _⟩ := OwnI.row hol.1 (List.length_pos_iff.2 hl)
      subst hlv
      have hFlg : P lg := HFL.out lg rfl
      have hlgw : lg < w.heap.size := HH.out.lt lg hFlg
      have hcapI : (zi.length : Int) ≤ (cap : Int) := by omega
      have hpl : (ps.getD k pc0).l.length ≤ 1000 := (HPW.out.ok k hkp).few.2
      have HLGC := Shut.mk hlgc
      clear hol hl hlgc
      generalize hLL : (ps.getD k pc0).l.length = LL at r2 hlc1 hpl
      have HLL := Shut.mk hLL
      clear hLL
      have hn := fun w => Lib.run_eql_slice_nil (P := Tryd.prog) w 23 3 (some ⟨lg, 0, none⟩) LL lc 0 0 Tryd.underlying23
      gi_wp2_with fail
      gi_quiet (fail)
      gi_wp2_with (gi_at_call 80; refine (bwI_in Fence.wide (n - 1) h6 hro _ _ _ _).mono ?_; rintro e w' ⟨rfl, rfl⟩)
      have hpts := HPW.out.ok.parts hkp
      have kd : Kept W (W.drewN nq) := (Kept.refl W).drewN nq
      have hS := HST.out.kept kd
      have hsz : (W.drewN nq).heap.size = W.heap.size := rfl
      have hlgcD : ∀ i, i < LL → (W.drewN nq).cell? ⟨lg, i, none⟩ = some (.int .i64 ((ps.getD k pc0).l.getD i 0)) := fun i hi => (kd.cell (p := ⟨lg, i, none⟩) hlgW).trans (HLGC.out i (by rw [HLL.out]; exact hi))
      generalize W.drewN nq = WD at hS hsz hlgcD ⊢
      rw [← hsz]
      clear kd cbx fbx r0 r2 ctop hgf hn
      obtain ⟨l, hll⟩ : ∃ l, l = (ps.getD k pc0).l := ⟨_, rfl⟩
      have hL0 := HLL.out
      have hLn := HL.out
      rw [← hll] at hpts hlgcD hL0 hLn
      have hbs := hS.box.lt
      have htl := hS.turn.size
      have hng : ¬ w.heap.size = g := fun e => Ownv.notBlk hS.own hS.box (by decide) (by rw [e]; rfl)
      have oT : OwnI 0 WD (.slice (some ⟨g, 0, none⟩) zi.length cap) zi := by
        have := OwnI.take hS.own zi.length (by simp)
        rwa [List.take_left] at this
      have t1 := turn_setCell WD ⟨w.heap.size, 0, none⟩ (.slice (some ⟨g, 0, none⟩) zi.length cap)
      have bx1 : Blk (WD.setCell ⟨w.heap.size, 0, none⟩ (.slice (some ⟨g, 0, none⟩) zi.length cap)) w.heap.size 23 [.slice (some ⟨g, 0, none⟩) zi.length cap] := hS.box.set 0 _
      have o1 : OwnI 0 (WD.setCell ⟨w.heap.size, 0, none⟩ (.slice (some ⟨g, 0, none⟩) zi.length cap)) (.slice (some ⟨g, 0, none⟩) zi.length cap) zi := Ownv.setCell oT (fun e => hng (Option.some.inj e).symm) _
      have s1 := size_setCell WD ⟨w.heap.size, 0, none⟩ (.slice (some ⟨g, 0, none⟩) zi.length cap)
      have c1 : ∀ i, i < LL → (WD.setCell ⟨w.heap.size, 0, none⟩ (.slice (some ⟨g, 0, none⟩) zi.length cap)).cell? ⟨lg, i, none⟩ = some (.int .i64 (l.getD i 0)) := fun i hi => (World.cell?_of_block (t1.block lg (by omega) (fun e => by have : lg = w.heap.size := e; omega))).trans (hlgcD i hi)
      have m1 : Marks w.heap.size WD.heap.size D (WD.setCell ⟨w.heap.size, 0, none⟩ (.slice (some ⟨g, 0, none⟩) zi.length cap)) := hS.marks.mono (Nat.le_refl _) (fun r _ _ hr => by
        refine (t1.block r (Array.getElem?_eq_some_iff.1 hr).1 (fun e => ?_)).trans hr
        have hb := hS.box
        unfold Blk at hb
        rw [show r = w.heap.size from e, hb] at hr
        cases hr)
      have tt1 : Turn (Blks (.slice va zs.length vc)) w (WD.setCell ⟨w.heap.size, 0, none⟩ (.slice (some ⟨g, 0, none⟩) zi.length cap)) := hS.turn.trans t1 (fun b hb => .inr (by rw [show b = w.heap.size from hb]; exact Nat.le_refl _))
      generalize WD.setCell ⟨w.heap.size, 0, none⟩ (.slice (some ⟨g, 0, none⟩) zi.length cap) = W1 at bx1 o1 s1 c1 m1 tt1 ⊢
      rw [← s1] at m1 ⊢
      have k2 : Kept W1 (W1.alloc (.cells #[.slice (some ⟨lg, 0, none⟩) LL lc] 23)) := (Kept.refl W1).alloc _
      have bs2 := Blk.new W1 [.slice (some ⟨lg, 0, none⟩) LL lc] 23
      have bx2 := bx1.kept k2
      have o2 : OwnI 0 _ _ _ := Ownv.kept o1 k2
      have c2 : ∀ i, i < LL → (W1.alloc (.cells #[.slice (some ⟨lg, 0, none⟩) LL lc] 23)).cell? ⟨lg, i, none⟩ = some (.int .i64 (l.getD i 0)) := fun i hi => (k2.cell (p := ⟨lg, i, none⟩) (show lg < W1.heap.size by omega)).trans (c1 i hi)
      have m2 := m1.mono (Nat.le_refl _) (fun r _ _ hr => (k2.block r (Array.getElem?_eq_some_iff.1 hr).1).trans hr)
      have tt2 := tt1.kept k2
      have hsz2 : (W1.alloc (.cells #[.slice (some ⟨lg, 0, none⟩) LL lc] 23)).heap.size = W1.heap.size + 1 := alloc_size _ _
      generalize (W1.alloc (.cells #[.slice (some ⟨lg, 0, none⟩) LL lc] 23)) = W2 at bs2 bx2 o2 c2 m2 tt2 hsz2 ⊢
      clear k2 bx1 o1 c1 m1 tt1 t1 oT
      subst hL0
      have cbs := bs2.cell 0
      simp only [List.getElem?_cons_zero] at cbs
      have hw2 : w.heap.size < W1.heap.size := by omega
      have hlg2 : lg < W2.heap.size := by omega
      have hBs2 : W1.heap.size < W2.heap.size := by omega
      have HLOC := Shut.mk hS.loc
      have HSAYS := Shut.mk hS.says
      have HISP := Shut.mk hS.isP
      have HSZ := Shut.mk hsz2
      have HLN := Shut.mk hll
      clear hS hlgcD hsz s1 hsz2 hll
      have hnlg : ∀ b, (∃ v, Blks v b ∧ ∀ b, Blks v b → Blks (.slice va zs.length vc) b ∨ w.heap.size ≤ b) → b ≠ lg := fun b ⟨v, h1, h2⟩ e => (h2 b h1).elim (fun c => HAP.out b c (by rw [e]; exact hFlg)) (fun c => by omega)
      refine wpIn_rangeFunc_ownH hro h1 (gf := 91) (lb := #[.pointer (some ⟨W1.heap.size, 0, none⟩)]) rfl h8 (enters_of Tryd.func91 (by kernel_rfl) rfl)
        (bwI_stops Fence.wide (n - 1) h8 hro (by omega) W1.heap.size lg lc l (by omega) W2 hBs2 hlg2 cbs c2) KeepQ.trans (KeepQ.put hlg2 hBs2) (Below.refl _ _) (fun _ => rfl)
        (fun pre X => ∃ sv', Blk X w.heap.size 23 [sv'] ∧ Blk X W1.heap.size 23 [.slice (some ⟨lg, 0, none⟩) l.length lc] ∧ OwnI 0 X sv' (zi ++ (valsN pre).map (fun j => l.getD j 0)) ∧ (∀ b, Blks sv' b → Blks (.slice va zs.length vc) b ∨ w.heap.size ≤ b) ∧ Turn (Blks (.slice va zs.length vc)) w X ∧ Marks w.heap.size W1.heap.size D X)
        (fun c pre X => False) ?hI (fun c s A B row hs hg hr => hs) ⟨_, bx2, bs2, by simpa [valsN] using o2, HLOC.out, tt2, m2⟩
        (fun x a' X => a' = { tmps := #[.pointer (some ⟨pb, 0, none⟩), .slice va zs.length vc, undef, .pointer (some ⟨w.heap.size, 0, none⟩), .slice none 0 0, .int .i64 zi.length, .slice (some ⟨lg, 0, none⟩) l.length lc, u7, .int .i64 (l.getD x.val 0), .slice (some ⟨g, 0, none⟩) (zi.length + 1) cap, .int .i64 (zi.length + 1), .int .i64 zi.length, .pointer (some ⟨pb, 0, none⟩), .pointer (some ⟨pb, 0, none⟩), .pointer (some ⟨pb, 0, none⟩), .slice (some ⟨ab, 0, none⟩) ps.length pcap, .slice (some ⟨g, 0, none⟩) (zi.length + 1) cap, .int .i64 zi.length, .pointer (some ⟨g, zi.length, none⟩), .int .i64 k, .pointer (some ⟨ab, k * 3, none⟩), .pointer (some ⟨ab, k * 3 + 1, none⟩), .slice (some ⟨lg, 0, none⟩) l.length lc, .slice (some ⟨lg, 0, none⟩) l.length lc, .bool false, u25, .slice (some ⟨g, 0, none⟩) (zi.length + 1) cap, .int .i64 zi.length, .slice (some ⟨g, 0, none⟩) zi.length cap, .slice (some ⟨lg, 0, none⟩) l.length lc, .func (.func 91) #[] #[.pointer (some ⟨W1.heap.size, 0, none⟩)], .int .i64 (x.val : Int), .int .i64 (l.getD x.val 0), u33, u34, u35, u36], defers := [] }) (fun x a' s A B row h hg hr => h) ?assign ?body ?done (fun D c pre W _ _ hF _ => hF.elim)
      case hI =>
        rintro s A B row ⟨sv', e1, e2, e3, e4, e5, e6⟩ hg hr
        have hsame : ∀ b, b < A.heap.size → (∀ o, A.heap[b]? = some o → o.isCells = true) → B.heap[b]? = A.heap[b]? := fun b h1 h2 => hg.block b h1 (fun e => by
          obtain ⟨_, o, ho, hc⟩ := hr b e.symm
          rw [h2 o ho] at hc
          cases hc)
        have hcell : ∀ b, b < W2.heap.size → b < A.heap.size → B.heap[b]? = A.heap[b]? := fun b h1 h2 => hg.block b h2 (fun e => by have := (hr b e.symm).1; omega)
        refine ⟨sv', e1.same fun b e => ?_, e2.same fun b e => ?_, Ownv.same e3 fun b e => ?_, e4, e5.trans (Grown.turn hg) (fun b e => .inr ?_), e6.mono (Nat.le_refl _) (fun r h1 h2 h3 => ?_)⟩
        · rw [e]; exact hcell _ (by omega) e1.lt
        · rw [e]; exact hcell _ hBs2 e2.lt
        · obtain ⟨c, hc⟩ := Ownv.obj e3 e
          exact hsame b (Ownv.lt e3 e).1 (fun o ho => by rw [hc] at ho; cases ho; rfl)
        · have := (hr b e.symm).1; omega
        · exact (hcell r (by omega) (Array.getElem?_eq_some_iff.1 h3).1).trans h3
      case assign =>
        rintro l' pre x X K hI hK
        have hK' := Shut.mk hK
        have HI := Shut.mk hI
        clear hK hI
        generalize l.getD x.val 0 = d at hK' ⊢
        gi_wp2
        exact hK'.out _ _ (KeepsFrom.refl _ _) (KeepQ.refl _ _ _) HI.out rfl
      case body =>
        rintro l' pre x a' X hl' hloop ⟨sv', e1, e2, e3, e4, e5, e6⟩ rfl hlen
        have HE6 := Shut.mk e6
        have HE5 := Shut.mk e5
        have HE4 := Shut.mk e4
        have HE3 := Shut.mk e3
        have hpz : (valsN pre).length ≤ 1000 := by unfold valsN; rw [List.length_map]; omega
        have hx1 := x.isLt
        have hvs : (valsN (pre ++ [x])).map (fun j => l.getD j 0) = (valsN pre).map (fun j => l.getD j 0) ++ [l.getD x.val 0] := by unfold valsN; simp
        have HVS := Shut.mk hvs
        clear hvs e3 e4 e5 e6
        have c0 := e1.cell 0
        have f0 := e1.frozen 0
        simp only [List.getElem?_cons_zero] at c0
        have HE1 := Shut.mk e1
        have HE2 := Shut.mk e2
        clear e1 e2
        generalize l.getD x.val 0 = d at HVS ⊢
        have hyl : ((valsN pre).map (fun j => l.getD j 0)).length ≤ 1000 := by rw [List.length_map]; exact hpz
        generalize (valsN pre).map (fun j => l.getD j 0) = ys at HVS HE3 hyl
        obtain ⟨sa, sc, hsv, _, _, _⟩ := (OwnI.rd HE3.out).len
        have hzy : (zi ++ ys).length ≤ 2000000000 := by rw [List.length_append]; omega
        generalize hN : (zi ++ ys).length = N at hsv hzy
        subst hsv
        have HN := Shut.mk hN
        clear hN hpz
        have ka : Kept X (X.alloc (.cells #[.int .i64 d] 3)) := (Kept.refl X).alloc _
        have oA : OwnI 0 (X.alloc (.cells #[.int .i64 d] 3)) (.slice sa N sc) (zi ++ ys) := Ownv.kept HE3.out ka
        have ca := (Blk.new X [.int .i64 d] 3).cell 0
        simp only [List.getElem?_cons_zero] at ca
        gi_wp2_with (gi_at_builtin; refine gi_appi rfl _ _ rfl _ (zi ++ ys) rfl oA ⟨X.heap.size, 0, none⟩ d rfl ca (by rw [HN.out]; omega) ?_; intro v2 X2 o3 g3 l3; obtain ⟨gv, cv, hv3, _, _, _, _, _, _⟩ := OwnI.row o3 (by simp; omega); rw [List.length_append, List.length_singleton, HN.out] at hv3; subst hv3; have t3 : Turn (Blks (.slice sa N sc)) X X2 := (ka.turn _).trans ((Grown.turn g3).mono fun b hb => hb.symm) (fun b hb => .inl hb); have b3 : Blk X2 w.heap.size 23 [.slice sa N sc] := HE1.out.turn t3 (Ownv.notBlk HE3.out HE1.out (by decide)); have c3 := b3.cell 0; have f3 := b3.frozen 0; simp only [List.getElem?_cons_zero] at c3)
        have hnb : ∀ b, Blks (.slice sa N sc) b → b ≠ lg ∧ b ≠ W1.heap.size := fun b hb => ⟨hnlg b ⟨_, hb, HE4.out⟩, fun e => Ownv.notBlk HE3.out HE2.out (by decide) (e ▸ hb)⟩
        have t4 := turn_setCell X2 ⟨w.heap.size, 0, none⟩ (.slice (some ⟨gv, 0, none⟩) (N + 1) cv)
        have hXw := HE1.out.lt
        have hXW := HE2.out.lt
        have hXs := HE5.out.size
        refine ⟨(KeepsOthers.trans (KeepsOthers.trans (KeepsOthers.alloc X _) (KeepsOthers.of_grownBy g3 (fun j o ej hj => ?_))) (KeepsOthers.setCell X2 _ _)).from _, ⟨?_, ?_⟩, _, b3.set 0 _, (HE2.out.turn t3 (fun c => (hnb _ c).2 rfl)).turn t4 (fun e => by have : W1.heap.size = w.heap.size := e; omega), ?_, fun b hb => ?_, ?_, ?_⟩
        · obtain ⟨c, hc⟩ := Ownv.obj oA (show Blks (.slice sa N sc) j from ej)
          rw [hj] at hc
          cases hc
          rfl
        · exact (t4.block lg (by have := t3.size; omega) (fun e => by have : lg = w.heap.size := e; omega)).trans (t3.block lg (by omega) (fun c => (hnb _ c).1 rfl))
        · exact (t4.block _ (by have := t3.size; omega) (fun e => by have : W1.heap.size = w.heap.size := e; omega)).trans (t3.block _ hXW (fun c => (hnb _ c).2 rfl))
        · rw [HVS.out, ← List.append_assoc]
          exact Ownv.setCell o3 (Ownv.notBlk o3 b3 (by decide)) _
        · rcases l3 b hb with c | c
          · exact HE4.out b c
          · rw [alloc_size] at c
            exact .inr (by omega)
        · exact (HE5.out.trans t3 (fun b hb => HE4.out b hb)).trans t4 (fun b hb => .inr (by rw [show b = w.heap.size from hb]; exact Nat.le_refl _))
        · refine (HE6.out.mono (Nat.le_refl _) (fun r h1 h2 h3 => ((t4.block r (by have := t3.size; have := (Array.getElem?_eq_some_iff.1 h3).1; omega) (fun e => ?_)).trans (t3.block r (Array.getElem?_eq_some_iff.1 h3).1 (fun c => ?_))).trans h3))
          · have hb := HE1.out
            unfold Blk at hb
            rw [show r = w.heap.size from e, hb] at h3
            cases h3
          · obtain ⟨c', hc'⟩ := Ownv.obj HE3.out c
            rw [hc'] at h3
            cases h3
      case done =>
        rintro Db ys X hD hS ⟨sv', e1, e2, e3, e4, e5, e6⟩ hK
        rw [hS, back_rev] at e3
        have hXW := e2.lt
        have hDb := (Array.getElem?_eq_some_iff.1 hK).1
        have hks := HLN.out
        obtain ⟨k', rest, hkr, hlr, hk'⟩ : ∃ (k' : Nat) (rest : List Int), l = (k' : Int) :: rest ∧ zi ++ l.reverse = (zi ++ rest.reverse) ++ [(k' : Int)] ∧ k' < k := by
          cases l with
          | nil => exact absurd rfl hLn
          | cons x0 rest =>
            have hx0 := hpts x0 List.mem_cons_self
            obtain ⟨k', hk'⟩ := Int.eq_ofNat_of_zero_le hx0.1
            refine ⟨k', rest, by rw [hk'], by rw [hk']; simp, ?_⟩
            have := hx0.2
            omega
        have HFIN : Shut (OpM w ps (.slice va zs.length vc) zs X sv' (zi ++ rest.reverse) k' ({ target := .collected Db, args := #[] } :: D)) := ⟨{
          box := e1
          own := by rw [← hlr]; exact e3
          kp := by omega
          isP := fun y hy => (List.mem_append.1 hy).elim (HISP.out y) (fun c => (hpts y (by rw [hkr]; exact List.mem_cons_of_mem _ (List.mem_reverse.1 c))).mono (by omega))
          says := by rw [← hlr, hks, stT_open HPW.out.ok hkp HL.out]; exact HSAYS.out
          loc := e4
          turn := e5
          marks := ⟨⟨Db, rfl, by omega, hDb, hK, e6.fresh (by omega)⟩, e6.mono (by omega) (fun r _ _ h => h)⟩ }⟩
        clear hS hK e1 e2 e3 e4 e5 e6 hkr hlr hks hLn
        gi_wp2
        exact ⟨_, _, _, _, _, _, _, _, _, _, _, _, _, _, _, _, _, _, _, _, _, _, _, _, _, _, _, _, _, _, _, _, _, _, _, _, rfl, by omega, HFIN.out⟩
  · exact ⟨_, _, _, _, _, _, _, _, _, _, _, _, _, _, _, _, _, _, _, _, _, _, _, _, _, _, _, _, _, _, _, _, [], _, z0, k0, rfl, Nat.lt_succ_self _, HS0.out⟩
theorem open_any {P : Nat → Prop} {w : World} {pp v : Value} {ps : List Pc} (h : PcG P w pp ps) {zs z0 : List Int} {k0 : Nat} (hz0 : zs = z0 ++ [(k0 : Int)]) (ho : OwnI 0 w v zs) (hap : ∀ b, Blks v b → ¬ P b) (hp : ∀ x ∈ zs, IsP ps.length x) (hlen : (stT ps zs).length ≤ 1000000000) :
    Calls Tryd.prog 60 #[pp, v] w (OpenPost w ps v zs) := by
  refine (callsIn_wide (n := 3)).1 ?_
  exact open_in 3 (by omega) h hz0 ho hap hp hlen
end Go.Proofs.YtangbnmgkcmhbaaDoor
end

section
/- Pieces: same. -/
set_option linter.unusedSimpArgs false
set_option linter.unusedVariables false
namespace Go.Proofs.YtangbnmgkcmhbaaDoor
open Go.RowKit Go.Maps

theorem nil_or_snoc (l : List Int) : l = [] ∨ ∃ a x, l = a ++ [x] := by
  rcases List.eq_nil_or_concat l with h | ⟨a, x, h⟩
  · exact .inl h
  · exact .inr ⟨a, x, by rw [h]; simp⟩
/-- What same leaves. -/
def SamePost (P : Nat → Prop) (w : World) (pp : Value) (ps : List Pc) (x y : Int) (e : Ending) (w' : World) : Prop :=
  ∃ (P' : Nat → Prop) (ps' : List Pc), e = .returned (.bool (decide (tx ps x = tx ps y))) ∧ PcG P' w' pp ps' ∧ PExt ps ps' ∧ ps'.length ≤ ps.length + 2 * (tx ps x).length ∧ Turn P w w' ∧ ∀ b, P' b → P b ∨ w.heap.size ≤ b

/-- What same has, on its way. -/
structure SmM (P : Nat → Prop) (w : World) (pp : Value) (ps : List Pc) (x y : Int) (W : World) (P' : Nat → Prop) (ps' : List Pc) (lv mv : Value) (ls ms : List Int) : Prop where
  pcs : PcG P' W pp ps'
  ext : PExt ps ps'
  cnt : ps'.length + 2 * (stT ps' ls).length ≤ ps.length + 2 * (tx ps x).length
  lo : OwnI 0 W lv ls
  mo : OwnI 0 W mv ms
  lp : ∀ z ∈ ls, IsP ps'.length z
  mp : ∀ z ∈ ms, IsP ps'.length z
  lm : ∀ b, Blks lv b → ¬ Blks mv b
  la : ∀ b, Blks lv b → ¬ P' b
  ma : ∀ b, Blks mv b → ¬ P' b
  ln : ∀ b, Blks lv b → w.heap.size ≤ b
  mn : ∀ b, Blks mv b → w.heap.size ≤ b
  says : (stT ps' ls = stT ps' ms) ↔ (tx ps x = tx ps y)
  llen : (stT ps' ls).length ≤ (tx ps x).length
  mlen : (stT ps' ms).length ≤ (tx ps y).length
  turn : Turn P w W
  new : ∀ b, P' b → P b ∨ w.heap.size ≤ b

theorem PassPost.kept {P : Nat → Prop} {W W' : World} {pp : Value} {ps : List Pc} {v : Value} {zi : List Int} {r : List UInt8} (k : Kept W W') {e : Ending} {w' : World} (h : PassPost P W' pp ps v zi r e w') : PassPost P W pp ps v zi r e w' := by
  obtain ⟨P', ps', v', zs', q1, q2, q3, q4, q5, q6, q7, q8, q9, q10, q11⟩ := h
  have := k.size
  exact ⟨P', ps', v', zs', q1, q2, q3, q4, q5, q6, q7, fun b hb => (q8 b hb).elim .inl (fun e => .inr (by omega)), fun b hb => (q9 b hb).elim .inl (fun e => .inr (by omega)), q10, (k.turn _).trans q11 (fun b hb => .inl hb)⟩
section
variable {P : Nat → Prop} {w : World} {pp : Value} {ps : List Pc} {x y : Int} {W : World} {P' : Nat → Prop} {ps' : List Pc} {lv mv : Value} {ls ms : List Int}
theorem SmM.kept (h : SmM P w pp ps x y W P' ps' lv mv ls ms) {W' : World} (k : Kept W W') : SmM P w pp ps x y W' P' ps' lv mv ls ms :=
  { h with pcs := h.pcs.kept k, lo := Ownv.kept h.lo k, mo := Ownv.kept h.mo k, turn := h.turn.kept k }
end
section
variable {P : Nat → Prop} {w : World} {pp : Value} {ps : List Pc} {x y : Int} {W : World} {P' : Nat → Prop} {ps' : List Pc}
theorem SmM.top {gl gm nl nm cl cm : Nat} {li mi : List Int} {i : Int} (h : SmM P w pp ps x y W P' ps' (.slice (some ⟨gl, 0, none⟩) nl cl) (.slice (some ⟨gm, 0, none⟩) nm cm) (li ++ [i]) (mi ++ [i])) {W' : World} (k : Kept W W') :
    SmM P w pp ps x y W' P' ps' (.slice (some ⟨gl, 0, none⟩) li.length cl) (.slice (some ⟨gm, 0, none⟩) mi.length cm) li mi := by
  have oL : OwnI 0 W (.slice (some ⟨gl, 0, none⟩) li.length cl) li := by
    have := OwnI.take h.lo li.length (by simp)
    rwa [List.take_left] at this
  have oM : OwnI 0 W (.slice (some ⟨gm, 0, none⟩) mi.length cm) mi := by
    have := OwnI.take h.mo mi.length (by simp)
    rwa [List.take_left] at this
  have e1 := stT_snoc ps' li i
  have e2 := stT_snoc ps' mi i
  have c := h.cnt
  have l1 := h.llen
  have l2 := h.mlen
  have s := h.says
  rw [e1] at c l1
  rw [e2] at l2
  rw [e1, e2] at s
  rw [List.length_append] at c l1 l2
  exact { pcs := h.pcs.kept k, ext := h.ext, cnt := by omega, lo := Ownv.kept oL k, mo := Ownv.kept oM k, lp := fun z hz => h.lp z (List.mem_append_left _ hz), mp := fun z hz => h.mp z (List.mem_append_left _ hz), lm := h.lm, la := h.la, ma := h.ma, ln := h.ln, mn := h.mn, says := Iff.trans (List.append_right_inj _).symm s, llen := by omega, mlen := by omega, turn := h.turn.kept k, new := h.new }
theorem SmM.opened {lv mv : Value} {ls ms : List Int} (h : SmM P w pp ps x y W P' ps' lv mv ls ms) {W1 W2 : World} {v1 v2 : Value} {l1 m1 : List Int} (o1 : OwnI 0 W1 v1 l1) (s1 : stT ps' l1 = stT ps' ls) (p1 : ∀ z ∈ l1, IsP ps'.length z) (b1 : ∀ b, Blks v1 b → Blks lv b ∨ W.heap.size ≤ b) (t1 : Turn (Blks lv) W W1)
    (o2 : OwnI 0 W2 v2 m1) (s2 : stT ps' m1 = stT ps' ms) (p2 : ∀ z ∈ m1, IsP ps'.length z) (b2 : ∀ b, Blks v2 b → Blks mv b ∨ W1.heap.size ≤ b) (t2 : Turn (Blks mv) W1 W2) : SmM P w pp ps x y W2 P' ps' v1 v2 l1 m1 := by
  have hml : ∀ b, Blks mv b → b < W.heap.size := fun b hb => (Ownv.lt h.mo hb).1
  have h1l : ∀ b, Blks v1 b → ¬ Blks mv b := fun b hb hc => (b1 b hb).elim (fun e => h.lm b e hc) (fun e => by have := hml b hc; omega)
  have hws := h.turn.size
  exact { pcs := (h.pcs.turn t1 (fun b ha hb => h.la b hb ha)).turn t2 (fun b ha hb => h.ma b hb ha)
          ext := h.ext
          cnt := by rw [s1]; exact h.cnt
          lo := Ownv.turn o1 t2 h1l
          mo := o2
          lp := p1
          mp := p2
          lm := fun b ha hb => (b2 b hb).elim (h1l b ha) (fun e => by have := (Ownv.lt o1 ha).1; omega)
          la := fun b ha hb => (b1 b ha).elim (fun e => h.la b e hb) (fun e => by have := h.pcs.lt b hb; omega)
          ma := fun b ha hb => (b2 b ha).elim (fun e => h.ma b e hb) (fun e => by have := h.pcs.lt b hb; have := t1.size; omega)
          ln := fun b ha => (b1 b ha).elim (h.ln b) (fun e => by omega)
          mn := fun b ha => (b2 b ha).elim (h.mn b) (fun e => by have := t1.size; omega)
          says := by rw [s1, s2]; exact h.says
          llen := by rw [s1]; exact h.llen
          mlen := by rw [s2]; exact h.mlen
          turn := (h.turn.trans t1 (fun b hb => .inr (h.ln b hb))).trans t2 (fun b hb => .inr (h.mn b hb))
          new := h.new }
theorem SmM.second {v1 v2 : Value} {zi zj : List Int} {n1 n2 : Int} (h : SmM P w pp ps x y W P' ps' v1 v2 (zi ++ [n1]) (zj ++ [n2])) {W6 : World} {P6 : Nat → Prop} {ps6 : List Pc} (e6 : PExt ps' ps6) (nw6 : ∀ b, P6 b → P' b ∨ W.heap.size ≤ b) (t6 : Turn (fun b => P' b ∨ Blks v1 b) W W6) :
    OwnI 0 W6 v2 (zj ++ [n2]) ∧ (∀ b, Blks v2 b → ¬ P6 b) ∧ ∀ z ∈ zj, IsP ps6.length z :=
  ⟨Ownv.turn h.mo t6 (fun b hb hc => hc.elim (h.ma b hb) (fun e => h.lm b e hb)), fun b hb hc => (nw6 b hc).elim (h.ma b hb) (fun e => by have := (Ownv.lt h.mo hb).1; omega), fun z hz => (h.mp z (List.mem_append_left _ hz)).mono e6.len⟩
theorem SmM.passed {v1 v2 v1' v2' : Value} {zi zj l1 m1 : List Int} {n1 n2 : Int} (h : SmM P w pp ps x y W P' ps' v1 v2 (zi ++ [n1]) (zj ++ [n2])) {a1 a2 : List UInt8} {N : Nat} (hw1 : stT ps' (zi ++ [n1]) = a1 ++ stT ps' zi) (hw2 : stT ps' (zj ++ [n2]) = a2 ++ stT ps' zj)
    (hN0 : 0 < N) (hN1 : N ≤ a1.length) (hN2 : N ≤ a2.length) (heq : a1.take N = a2.take N) {W6 W6' W7 : World} {P6 P7 : Nat → Prop} {ps6 ps7 : List Pc}
    (c6 : ps6.length ≤ ps'.length + 1) (e6 : PExt ps' ps6) (o6 : OwnI 0 W6 v1' l1) (i6 : ∀ z ∈ l1, IsP ps6.length z) (s6 : stT ps6 l1 = a1.drop N ++ stT ps' zi) (b6 : ∀ b, Blks v1' b → Blks v1 b ∨ W.heap.size ≤ b) (nw6 : ∀ b, P6 b → P' b ∨ W.heap.size ≤ b) (ap6 : ∀ b, Blks v1' b → ¬ P6 b) (t6 : Turn (fun b => P' b ∨ Blks v1 b) W W6) (k6 : Kept W6 W6')
    (p7 : PcG P7 W7 pp ps7) (c7 : ps7.length ≤ ps6.length + 1) (e7 : PExt ps6 ps7) (o7 : OwnI 0 W7 v2' m1) (i7 : ∀ z ∈ m1, IsP ps7.length z) (s7 : stT ps7 m1 = a2.drop N ++ stT ps6 zj) (b7 : ∀ b, Blks v2' b → Blks v2 b ∨ W6'.heap.size ≤ b) (nw7 : ∀ b, P7 b → P6 b ∨ W6'.heap.size ≤ b) (ap7 : ∀ b, Blks v2' b → ¬ P7 b) (t7 : Turn (fun b => P6 b ∨ Blks v2 b) W6' W7) :
    SmM P w pp ps x y W7 P7 ps7 v1' v2' l1 m1 ∧ (stT ps7 l1).length < (stT ps' (zi ++ [n1])).length := by
  have hv2 : ∀ b, Blks v2 b → b < W.heap.size := fun b hb => (Ownv.lt h.mo hb).1
  have hws := h.turn.size
  have h66 := k6.size
  have hW6 := t6.size
  have h12 : ∀ b, Blks v1' b → ¬ Blks v2 b := fun b hb hc => (b6 b hb).elim (fun e => h.lm b e hc) (fun e => by have := hv2 b hc; omega)
  have es : stT ps7 l1 = a1.drop N ++ stT ps' zi := by rw [stT_ext e7 i6, s6]
  have em : stT ps7 m1 = a2.drop N ++ stT ps' zj := by rw [s7, stT_ext e6 (fun z hz => h.mp z (List.mem_append_left _ hz))]
  have c := h.cnt
  have l1' := h.llen
  have l2' := h.mlen
  have s := h.says
  rw [hw1] at c l1'
  rw [hw2] at l2'
  rw [hw1, hw2] at s
  rw [List.length_append] at c l1' l2'
  have o6' : OwnI 0 W6' v1' l1 := Ownv.kept o6 k6
  have hl6 : ∀ b, Blks v1' b → b < W6.heap.size := fun b hb => (Ownv.lt o6 hb).1
  refine ⟨{ pcs := p7, ext := (h.ext.trans e6).trans e7, cnt := ?_, lo := Ownv.turn o6' t7 (fun b hb hc => hc.elim (ap6 b hb) (h12 b hb)), mo := o7, lp := fun z hz => (i6 z hz).mono e7.len, mp := i7
            lm := fun b hb hc => (b7 b hc).elim (h12 b hb) (fun e => by have := hl6 b hb; omega)
            la := fun b hb hc => (nw7 b hc).elim (ap6 b hb) (fun e => by have := hl6 b hb; omega)
            ma := ap7
            ln := fun b hb => (b6 b hb).elim (h.ln b) (fun e => by omega)
            mn := fun b hb => (b7 b hb).elim (h.mn b) (fun e => by omega)
            says := by rw [es, em]; exact Iff.trans (held_eq heq).symm s
            llen := ?_, mlen := ?_
            turn := ((h.turn.trans t6 (fun b hb => hb.elim (h.new b) (fun e => .inr (h.ln b e)))).kept k6).trans t7 (fun b hb => hb.elim (fun e => (nw6 b e).elim (h.new b) (fun e => .inr (by omega))) (fun e => .inr (h.mn b e)))
            new := fun b hb => (nw7 b hb).elim (fun e => (nw6 b e).elim (h.new b) (fun e => .inr (by omega))) (fun e => .inr (by omega)) }, ?_⟩
  · rw [es, List.length_append, List.length_drop]; omega
  · rw [es, List.length_append, List.length_drop]; omega
  · rw [em, List.length_append, List.length_drop]; omega
  · rw [es, hw1, List.length_append, List.length_append, List.length_drop]; omega
end
theorem extract_drop (a : List UInt8) (n : Nat) : (strB a).extract n (strB a).size = strB (a.drop n) := by
  rw [strB_size]
  apply ByteArray.ext
  apply Array.ext'
  simp [strB, ByteArray.extract, ByteArray.copySlice]
  exact List.take_of_length_le (by simp)
theorem extract_take (a : List UInt8) (n : Nat) : ((strB a).extract 0 n).toList = a.take n := by
  rw [ByteArray.toList_eq]
  simp [strB, ByteArray.extract, ByteArray.copySlice]
theorem tmps_fun88 (a : Act) (h : a.tmps.size = 88) (hd : a.defers = []) : ∃ f : Nat → Value, a = { tmps := #[f 0, f 1, f 2, f 3, f 4, f 5, f 6, f 7, f 8, f 9, f 10, f 11, f 12, f 13, f 14, f 15, f 16, f 17, f 18, f 19, f 20, f 21, f 22, f 23, f 24, f 25, f 26, f 27, f 28, f 29, f 30, f 31, f 32, f 33, f 34, f 35, f 36, f 37, f 38, f 39, f 40, f 41, f 42, f 43, f 44, f 45, f 46, f 47, f 48, f 49, f 50, f 51, f 52, f 53, f 54, f 55, f 56, f 57, f 58, f 59, f 60, f 61, f 62, f 63, f 64, f 65, f 66, f 67, f 68, f 69, f 70, f 71, f 72, f 73, f 74, f 75, f 76, f 77, f 78, f 79, f 80, f 81, f 82, f 83, f 84, f 85, f 86, f 87], defers := [] } ∧ ∀ i, f i = a.tmps.getD i undef := by
  refine ⟨fun i => a.tmps.getD i undef, ?_, fun _ => rfl⟩
  obtain ⟨t, d⟩ := a
  simp only at h hd
  subst hd
  have e : t = ((List.range 88).map fun i => t.getD i undef).toArray := by
    refine Array.ext (by simp [h]) (fun i h1 h2 => ?_)
    simp [Array.getD, h1]
  exact congrArg (fun t => Act.mk t []) e
/-- The frame of a round. -/
structure SmF (pb : Nat) (x y : Nat) (a : Act) (lv mv : Value) : Prop where
  size : a.tmps.size = 88
  s0 : a.tmps.getD 0 undef = .pointer (some ⟨pb, 0, none⟩)
  s1 : a.tmps.getD 1 undef = .int .i64 x
  s2 : a.tmps.getD 2 undef = .int .i64 y
  s3 : a.tmps.getD 3 undef = undef
  s4 : a.tmps.getD 4 undef = undef
  s5 : a.tmps.getD 5 undef = undef
  s6 : a.tmps.getD 6 undef = .bool false
  s7 : a.tmps.getD 7 undef = lv
  s8 : a.tmps.getD 8 undef = mv
  dd : a.defers = []
theorem SmF.out {pb x y : Nat} {a : Act} {lv mv : Value} (h : SmF pb x y a lv mv) : ∃ f : Nat → Value, a = { tmps := #[.pointer (some ⟨pb, 0, none⟩), .int .i64 x, .int .i64 y, undef, undef, undef, .bool false, lv, mv, f 9, f 10, f 11, f 12, f 13, f 14, f 15, f 16, f 17, f 18, f 19, f 20, f 21, f 22, f 23, f 24, f 25, f 26, f 27, f 28, f 29, f 30, f 31, f 32, f 33, f 34, f 35, f 36, f 37, f 38, f 39, f 40, f 41, f 42, f 43, f 44, f 45, f 46, f 47, f 48, f 49, f 50, f 51, f 52, f 53, f 54, f 55, f 56, f 57, f 58, f 59, f 60, f 61, f 62, f 63, f 64, f 65, f 66, f 67, f 68, f 69, f 70, f 71, f 72, f 73, f 74, f 75, f 76, f 77, f 78, f 79, f 80, f 81, f 82, f 83, f 84, f 85, f 86, f 87], defers := [] } := by
  obtain ⟨f, he, hf⟩ := tmps_fun88 a h.size h.dd
  refine ⟨f, ?_⟩
  rw [hf 0, h.s0, hf 1, h.s1, hf 2, h.s2, hf 3, h.s3, hf 4, h.s4, hf 5, h.s5, hf 6, h.s6, hf 7, h.s7, hf 8, h.s8] at he
  exact he
def SmR (P : Nat → Prop) (w : World) (pb : Nat) (ps : List Pc) (x y : Nat) (m : Nat) (a : Act) (W : World) : Prop :=
  ∃ (P' : Nat → Prop) (ps' : List Pc) (lv mv : Value) (ls ms : List Int), SmF pb x y a lv mv ∧ (stT ps' ls).length < m ∧ SmM P w (.pointer (some ⟨pb, 0, none⟩)) ps x y W P' ps' lv mv ls ms

set_option maxHeartbeats 8000000 in
set_option maxRecDepth 100000 in
theorem same_any {P : Nat → Prop} {w : World} {pp : Value} {ps : List Pc} (h : PcG P w pp ps) {x y : Nat} (hx : x < ps.length) (hy : y < ps.length) (hlx : (tx ps x).length ≤ 100000000) (hly : (tx ps y).length ≤ 100000000) (hfew : ps.length ≤ 500000000) :
    Calls Tryd.prog 41 #[pp, .int .i64 x, .int .i64 y] w (SamePost P w pp ps x y) := by
  obtain ⟨pb, rfl⟩ := h.ptr
  have HH := Shut.mk h
  have HHX := Shut.mk hlx
  have HHY := Shut.mk hly
  clear h
  have w1 : Kept w (w.alloc (.cells #[.int .i64 (x : Int)] 3)) := (Kept.refl w).alloc _
  have l1 := lit1 w (x : Int)
  have l2 := lit1 (w.alloc (.cells #[.int .i64 (x : Int)] 3)) (y : Int)
  rw [alloc_size] at l2
  have w2 : Kept (w.alloc (.cells #[.int .i64 (x : Int)] 3)) ((w.alloc (.cells #[.int .i64 (x : Int)] 3)).alloc (.cells #[.int .i64 (y : Int)] 3)) := (Kept.refl _).alloc _
  have hpos : PsOk ps := HH.out.ok
  have hst : ∀ z : Nat, stT ps [(z : Int)] = tx ps z := fun z => by
    have := stT_snoc ps [] (z : Int)
    rw [List.nil_append] at this
    rw [this]
    unfold stT cat
    simp
  have HS0 : Shut (SmM P w (.pointer (some ⟨pb, 0, none⟩)) ps x y ((w.alloc (.cells #[.int .i64 (x : Int)] 3)).alloc (.cells #[.int .i64 (y : Int)] 3)) P ps (.slice (some ⟨w.heap.size, 0, none⟩) 1 1) (.slice (some ⟨w.heap.size + 1, 0, none⟩) 1 1) [(x : Int)] [(y : Int)]) := ⟨{
    pcs := HH.out.kept (w1.trans w2)
    ext := PExt.refl ps
    cnt := by rw [hst]; exact Nat.le_refl _
    lo := Ownv.kept l1 w2
    mo := l2
    lp := fun z hz => by rw [List.mem_singleton.1 hz]; exact ⟨by omega, by omega⟩
    mp := fun z hz => by rw [List.mem_singleton.1 hz]; exact ⟨by omega, by omega⟩
    lm := fun b h1 h2 => by have e1 : w.heap.size = b := Option.some.inj h1; have e2 : w.heap.size + 1 = b := Option.some.inj h2; omega
    la := fun b h1 h2 => by have e1 : w.heap.size = b := Option.some.inj h1; have := HH.out.lt b h2; omega
    ma := fun b h1 h2 => by have e1 : w.heap.size + 1 = b := Option.some.inj h1; have := HH.out.lt b h2; omega
    ln := fun b h1 => by have e1 : w.heap.size = b := Option.some.inj h1; omega
    mn := fun b h1 => by have e1 : w.heap.size + 1 = b := Option.some.inj h1; omega
    says := by rw [hst, hst]
    llen := by rw [hst]; exact Nat.le_refl _
    mlen := by rw [hst]; exact Nat.le_refl _
    turn := (w1.trans w2).turn P
    new := fun b hb => .inl hb }⟩
  clear w1 l1 l2 w2 hpos
  go_enter Tryd.func41, Tryd.ntmps41
  go_wp2_with fail
  refine rounds_ind0 (SmR P w pb ps x y) ?_ ?_ ((tx ps x).length + 1) _ _ ?_
  · rintro a W ⟨P', ps', lv, mv, ls, ms, _, hm, _⟩
    omega
  · rintro m a W ⟨P', ps', lv, mv, ls, ms, hf, hm, st⟩
    obtain ⟨f, rfl⟩ := hf.out
    clear hf
    have HST := Shut.mk st
    have HM := Shut.mk hm
    clear hm
    rcases nil_or_snoc ls with rfl | ⟨li, i, rfl⟩
    · obtain ⟨la, lc, rfl, _, _, _⟩ := st.lo.rd.len
      rcases nil_or_snoc ms with rfl | ⟨mi, j, rfl⟩
      · obtain ⟨ma, mc, hmv, _, _, _⟩ := st.mo.rd.len
        rw [List.length_nil] at hmv
        subst hmv
        clear st
        go_wp2
        go_ret
        refine ⟨P', ps', by rw [decide_eq_true (HST.out.says.1 rfl)]; rfl, HST.out.pcs, HST.out.ext, by have := HST.out.cnt; omega, HST.out.turn, HST.out.new⟩
      · obtain ⟨ma, mc, hmv, h1, h2, _⟩ := st.mo.rd.len
        rw [List.length_append, List.length_singleton] at hmv h1
        subst hmv
        clear st
        have hb : (mi.length : Int) + 1 ≤ 9223372036854775807 := by unfold maxLen at h2; omega
        go_wp2
        go_ret
        have hne : ¬ (tx ps (x : Int) = tx ps (y : Int)) := fun e => by
          have := HST.out.says.2 e
          rw [show stT ps' [] = [] from rfl] at this
          exact absurd ((stT_nil_iff HST.out.pcs.ok HST.out.mp).1 this.symm) (by simp)
        refine ⟨P', ps', by rw [decide_eq_false hne]; exact congrArg (fun b => Ending.returned (.bool b)) (show ((0 : Int) == (mi.length : Int) + 1) = false by rw [beq_eq_false_iff_ne]; omega), HST.out.pcs, HST.out.ext, by have := HST.out.cnt; omega, HST.out.turn, HST.out.new⟩
    · rcases nil_or_snoc ms with rfl | ⟨mi, j, rfl⟩
      · obtain ⟨ma, mc, hmv, _, _, _⟩ := st.mo.rd.len
        rw [List.length_nil] at hmv
        subst hmv
        obtain ⟨la, lc, hlv, h1, h2, _⟩ := st.lo.rd.len
        rw [List.length_append, List.length_singleton] at hlv h1
        subst hlv
        clear st
        have hb : (li.length : Int) + 1 ≤ 9223372036854775807 := by unfold maxLen at h2; omega
        go_wp2
        go_ret
        have hne : ¬ (tx ps (x : Int) = tx ps (y : Int)) := fun e => by
          have := HST.out.says.2 e
          rw [show stT ps' [] = [] from rfl] at this
          exact absurd ((stT_nil_iff HST.out.pcs.ok HST.out.lp).1 this) (by simp)
        refine ⟨P', ps', by rw [decide_eq_false hne]; exact congrArg (fun b => Ending.returned (.bool b)) (show ((li.length : Int) + 1 == (0 : Int)) = false by rw [beq_eq_false_iff_ne]; omega), HST.out.pcs, HST.out.ext, by have := HST.out.cnt; omega, HST.out.turn, HST.out.new⟩
      · have hpL := st.lp i (by simp)
        have hpM := st.mp j (by simp)
        obtain ⟨i, rfl⟩ := Int.eq_ofNat_of_zero_le hpL.1
        obtain ⟨j, rfl⟩ := Int.eq_ofNat_of_zero_le hpM.1
        have hok := st.pcs.ok
        have hll := stT_len hok st.lp
        have hml := stT_len hok st.mp
        rw [List.length_append, List.length_singleton] at hll hml
        have hL1 : li.length ≤ 100000000 := by have := st.llen; have := HHX.out; omega
        have hM1 : mi.length ≤ 100000000 := by have := st.mlen; have := HHY.out; omega
        obtain ⟨gl, cl, hlv, l1, l2, _, _, l5, l6⟩ := OwnI.row st.lo (by simp)
        obtain ⟨gm, cm, hmv, m1, m2, _, _, m5, m6⟩ := OwnI.row st.mo (by simp)
        rw [List.length_append, List.length_singleton] at hlv hmv l1 m1 l5 m5
        subst hlv hmv
        have tl := l5 li.length (by omega)
        have tm := m5 mi.length (by omega)
        rw [show (li ++ [(i : Int)]).getD li.length 0 = (i : Int) by simp] at tl
        rw [show (mi ++ [(j : Int)]).getD mi.length 0 = (j : Int) by simp] at tm
        have lcI : (li.length : Int) ≤ (cl : Int) := by omega
        have mcI : (mi.length : Int) ≤ (cm : Int) := by omega
        clear l5 m5 l6 m6 st
        by_cases hij : i = j
        · subst hij
          go_wp2_with fail
          go_quiet (fail)
          go_wp2_with fail
          go_quiet (fail)
          go_wp2_with fail
          refine ⟨P', ps', _, _, li, mi, ⟨rfl, rfl, rfl, rfl, rfl, rfl, rfl, rfl, rfl, rfl, rfl⟩, ?_, HST.out.top (((Kept.refl W).drewN _).trans ((Kept.refl _).drewN _))⟩
          have h1 := HM.out
          have h2 := tx_pos hok (i + 1) i (Nat.lt_succ_self _) (by have := hpL.2; omega)
          have h3 := List.length_pos_iff.2 h2
          rw [stT_snoc, List.length_append] at h1
          omega
        · have hijb : ((i : Int) == (j : Int)) = false := by rw [beq_eq_false_iff_ne]; omega
          have HIJ := Shut.mk hij
          have HLP := Shut.mk hpL
          have HMP := Shut.mk hpM
          clear hij hok hpL hpM hll hml
          go_wp2_with fail
          go_quiet (fail)
          go_wp2_with fail
          have hS := HST.out.kept ((Kept.refl W).drewN nq)
          generalize W.drewN nq = Wa at hS ⊢
          have hlx := HHX.out
          have hly := HHY.out
          have hll := hS.llen
          have hml := hS.mlen
          have HWA := Shut.mk hS
          clear tl tm
          (with_reducible refine (open_any hS.pcs (zs := li ++ [(i : Int)]) rfl hS.lo hS.la hS.lp (by omega)).mono ?_)
          rintro e W1 ⟨v1, zi, n1, rfl, o1, hn1, hl1, ip1, s1, b1, t1⟩
          have c2 := open_any (hS.pcs.turn t1 (fun b ha hb => hS.la b hb ha)) (zs := mi ++ [(j : Int)]) rfl (Ownv.turn hS.mo t1 (fun b ha hb => hS.lm b hb ha)) hS.ma hS.mp (by omega)
          have HA := Shut.mk (And.intro o1 (And.intro s1 (And.intro ip1 (And.intro b1 t1))))
          have HN1 := Shut.mk (And.intro hn1 hl1)
          clear hS hll hml hlx hly o1 hn1 hl1 ip1 s1 b1 t1
          go_wp2_with fail
          (with_reducible refine c2.mono ?_)
          clear c2
          rintro e W2 ⟨v2, zj, n2, rfl, o2, hn2, hl2, ip2, s2, b2, t2⟩
          have isn : ∀ {zs : List Int} {n : Nat}, (∀ z ∈ zs, IsP ps'.length z) → n < ps'.length → ∀ z ∈ zs ++ [(n : Int)], IsP ps'.length z := fun {zs n} h1 h2 z hz => (List.mem_append.1 hz).elim (h1 z) (fun c => by rw [List.mem_singleton.1 c]; exact ⟨by omega, by omega⟩)
          have hS := HWA.out.opened HA.out.1 HA.out.2.1 (isn HA.out.2.2.1 HN1.out.1) HA.out.2.2.2.1 HA.out.2.2.2.2 o2 s2 (isn ip2 hn2) b2 t2
          have hszi : zi.length ≤ 100000000 ∧ zj.length ≤ 100000000 := by
            have h1 := stT_len hS.pcs.ok hS.lp
            have h2 := stT_len hS.pcs.ok hS.mp
            have h3 := hS.llen
            have h4 := hS.mlen
            have h5 := HHX.out
            have h6 := HHY.out
            rw [List.length_append, List.length_singleton] at h1 h2
            omega
          have hfw : ps'.length ≤ 900000000 := by
            have := hS.cnt
            have := HHX.out
            omega
          have HN2 := Shut.mk (And.intro hn2 hl2)
          have HIP2 := Shut.mk ip2
          have hnx := next_any hS.pcs hS.lo HN1.out.1 (by omega) (by omega)
          obtain ⟨a1, ha1⟩ : ∃ a, a = (ps'.getD n1 pc0).w := ⟨_, rfl⟩
          obtain ⟨S, hSs⟩ : ∃ S, S = strB a1 := ⟨_, rfl⟩
          rw [← ha1, ← hSs] at hnx
          have HA1 := Shut.mk ha1
          have HS1 := Shut.mk hSs
          clear ha1 hSs
          have HS := Shut.mk hS
          clear hS o2 hn2 hl2 ip2 s2 b2 t2 isn
          go_wp2_with fail
          (with_reducible refine hnx.mono ?_)
          clear hnx
          rintro e W3 ⟨rfl, k3⟩
          have hS := HS.out.kept k3
          have hnx := next_any hS.pcs hS.mo HN2.out.1 (by omega) (by omega)
          obtain ⟨a2, ha2⟩ : ∃ a, a = (ps'.getD n2 pc0).w := ⟨_, rfl⟩
          obtain ⟨T, hTs⟩ : ∃ S, S = strB a2 := ⟨_, rfl⟩
          rw [← ha2, ← hTs] at hnx
          have HA2 := Shut.mk ha2
          have HT1 := Shut.mk hTs
          clear ha2 hTs
          have HS3 := Shut.mk hS
          clear hS k3 HS
          go_wp2_with fail
          (with_reducible refine hnx.mono ?_)
          clear hnx
          rintro e W4 ⟨rfl, k4⟩
          have HS4 := Shut.mk (HS3.out.kept k4)
          clear HS3 k4
          have hf1 := (HS4.out.pcs.ok n1 HN1.out.1).few.1
          have hf2 := (HS4.out.pcs.ok n2 HN2.out.1).few.1
          have hne1 := word_ne HS4.out.pcs.ok HN1.out.1 HN1.out.2
          have hne2 := word_ne HS4.out.pcs.ok HN2.out.1 HN2.out.2
          have hw1 := stT_word HS4.out.pcs.ok (zi := zi) HN1.out.1 HN1.out.2
          have hw2 := stT_word HS4.out.pcs.ok (zi := zj) HN2.out.1 HN2.out.2
          have hz1 := strB_size a1
          have hz2 := strB_size a2
          rw [← HA1.out] at hf1 hne1 hw1
          rw [← HA2.out] at hf2 hne2 hw2
          rw [← HS1.out] at hz1
          rw [← HT1.out] at hz2
          have HW1 := Shut.mk hw1
          have HW2 := Shut.mk hw2
          have HNE := Shut.mk (And.intro hne1 hne2)
          rw [← hz1] at hf1
          rw [← hz2] at hf2
          have HZ := Shut.mk (And.intro hz1 hz2)
          clear hw1 hw2 hne1 hne2 hz1 hz2
          obtain ⟨N, hN⟩ : ∃ N : Nat, N = min S.size T.size := ⟨_, rfl⟩
          have hNI : min (S.size : Int) (T.size : Int) = (N : Int) := by omega
          have hN1 : (N : Int) ≤ (S.size : Int) := by omega
          have hN2 : (N : Int) ≤ (T.size : Int) := by omega
          have HN := Shut.mk hN
          clear hN
          have hcmp : ((S.extract 0 N).toList == (T.extract 0 N).toList) = decide (a1.take N = a2.take N) := by
            rw [HS1.out, HT1.out, extract_take, extract_take, Bool.eq_iff_iff]; simp
          by_cases hc : a1.take N = a2.take N
          · rw [decide_eq_true hc] at hcmp
            have HC := Shut.mk hc
            clear hc
            go_wp2_with fail
            clear hNI
            go_quiet (fail)
            go_wp2_with fail
            have HS5 := Shut.mk (HS4.out.kept ((Kept.refl W4).drewN nq))
            generalize W4.drewN nq = W5 at HS5 ⊢
            have hp1 : ∀ W', Kept W5 W' → Calls Tryd.prog 62 #[.pointer (some ⟨pb, 0, none⟩), v1, .string (S.extract N S.size)] W' (PassPost P' W5 (.pointer (some ⟨pb, 0, none⟩)) ps' v1 zi (a1.drop N)) := fun W' k => by
              rw [HS1.out, extract_drop]
              exact (pass_any (HS5.out.pcs.kept k) (Ownv.kept HS5.out.lo k) HS5.out.la (fun z hz => HS5.out.lp z (List.mem_append_left _ hz)) (by omega) (by omega) (a1.drop N) (by rw [List.length_drop]; have := HZ.out; omega)).mono fun e w' q => q.kept k
            have k5 := Kept.refl W5
            have HZJ : Shut (zj.length ≤ 1000000000) := ⟨by omega⟩
            have HPL : Shut (ps'.length ≤ 900000000) := ⟨hfw⟩
            clear hcmp hszi
            go_region_held3 (fun _ => True) (exact trivial) ((go_at_call 62; first | ((with_reducible refine (hp1 _ (by first | exact k5 | exact k5.drew | exact k5.drewN _)).mono ?_); rintro e w6 ⟨P6, ps6, v1', l1, rfl, q2, q3, q4, q5, q6, q7, q8, q9, q10, q11⟩; have H6 := Shut.mk (And.intro q2 (And.intro q3 (And.intro q4 (And.intro q5 (And.intro q6 (And.intro q7 (And.intro q8 (And.intro q9 (And.intro q10 q11))))))))); clear q2 q3 q4 q5 q6 q7 q8 q9 q10 q11; have hsec := HS5.out.second H6.out.2.1 H6.out.2.2.2.2.2.2.2.1 H6.out.2.2.2.2.2.2.2.2.2; have hp2 : ∀ W', Kept w6 W' → Calls Tryd.prog 62 #[.pointer (some ⟨pb, 0, none⟩), v2, .string (T.extract N T.size)] W' (PassPost P6 w6 (.pointer (some ⟨pb, 0, none⟩)) ps6 v2 zj (a2.drop N)) := (fun W' k => by rw [HT1.out, extract_drop]; exact (pass_any (H6.out.1.kept k) (Ownv.kept hsec.1 k) hsec.2.1 hsec.2.2 (by have := H6.out.2.2.1; have := HPL.out; omega) HZJ.out (a2.drop N) (by rw [List.length_drop]; have := HZ.out; omega)).mono fun e w' q => q.kept k); have k6 := Kept.refl w6; clear hsec) | ((with_reducible refine (hp2 _ (by first | exact k6 | exact k6.drew | exact k6.drewN _)).mono ?_); rintro e w7 ⟨P7, ps7, v2', m1, rfl, q2, q3, q4, q5, q6, q7, q8, q9, q10, q11⟩; have H7 := Shut.mk (And.intro q2 (And.intro q3 (And.intro q4 (And.intro q5 (And.intro q6 (And.intro q7 (And.intro q8 (And.intro q9 (And.intro q10 q11))))))))); clear q2 q3 q4 q5 q6 q7 q8 q9 q10 q11)))
            go_wp2_with fail
            obtain ⟨r1, r2, r3, r4, r5, r6, r7, r8, r9, r10⟩ := H6.out
            obtain ⟨u1, u2, u3, u4, u5, u6, u7, u8, u9, u10⟩ := H7.out
            have hz := HZ.out
            have hne := HNE.out
            have ha1 : 0 < a1.length := List.length_pos_iff.2 hne.1
            have ha2 : 0 < a2.length := List.length_pos_iff.2 hne.2
            obtain ⟨hfin, hless⟩ := HS5.out.passed HW1.out HW2.out (N := N) (by have := HN.out; omega) (by omega) (by omega) HC.out r3 r2 r4 r5 r6 r7 r8 r9 r10 (Kept.refl _) u1 u3 u2 u4 u5 u6 u7 u8 u9 u10
            have hmm := HM.out
            have hsame := HA.out.2.1
            refine ⟨P7, ps7, v1', v2', l1, m1, ⟨rfl, rfl, rfl, rfl, rfl, rfl, rfl, rfl, rfl, rfl, rfl⟩, ?_, hfin⟩
            rw [hsame] at hless
            omega
          · rw [decide_eq_false hc] at hcmp
            have HC := Shut.mk hc
            clear hc
            go_wp2_with fail
            clear hNI
            go_quiet (fail)
            go_wp2_with fail
            go_ret
            have hne : ¬ (tx ps (x : Int) = tx ps (y : Int)) := fun e => by
              have := HS4.out.says.2 e
              rw [HW1.out, HW2.out] at this
              exact held_ne (by have := HZ.out; omega) (by have := HZ.out; omega) HC.out this
            exact ⟨P', ps', by rw [decide_eq_false hne]; rfl, HS4.out.pcs.kept ((Kept.refl _).drewN _), HS4.out.ext, by have := HS4.out.cnt; omega, HS4.out.turn.kept ((Kept.refl _).drewN _), HS4.out.new⟩
  · exact ⟨P, ps, _, _, _, _, ⟨rfl, rfl, rfl, rfl, rfl, rfl, rfl, rfl, rfl, rfl, rfl⟩, by rw [hst]; exact Nat.lt_succ_self _, HS0.out⟩
end Go.Proofs.YtangbnmgkcmhbaaDoor
end

section
/- slices.EqualFunc of same; Alike. -/
set_option linter.unusedSimpArgs false
set_option linter.unusedVariables false
namespace Go.Proofs.YtangbnmgkcmhbaaDoor
open Go.RowKit Go.Maps

def EqfPost (P : Nat → Prop) (w : World) (b : Bool) (e : Ending) (w' : World) : Prop := e = .returned (.bool b) ∧ Turn P w w'
/-- What EqualFunc has, on its way. -/
structure EqM (P : Nat → Prop) (w : World) (pp : Value) (ps : List Pc) (xs ys : List Int) (k : Nat) (wr : World) (P' : Nat → Prop) (ps' : List Pc) : Prop where
  pcs : PcG P' wr pp ps'
  ext : PExt ps ps'
  cnt : ps'.length ≤ ps.length + 2000000 * k
  turn : Turn P w wr
  new : ∀ b, P' b → P b ∨ w.heap.size ≤ b
  same : (xs.take k).map (tx ps) = (ys.take k).map (tx ps)
set_option maxHeartbeats 4000000 in
set_option maxRecDepth 100000 in
theorem eqf_any {P : Nat → Prop} {w : World} {pp u v : Value} {ps : List Pc} (h : PcG P w pp ps) {xs ys : List Int} (hu : OwnI 0 w u xs) (hv : OwnI 0 w v ys) (hup : ∀ b, Blks u b → ¬ P b) (hvp : ∀ b, Blks v b → ¬ P b) (hx : ∀ x ∈ xs, IsP ps.length x) (hy : ∀ x ∈ ys, IsP ps.length x)
    (hxl : xs.length ≤ 100) (htx : ∀ x ∈ xs, (tx ps x).length ≤ 1000000) (hty : ∀ x ∈ ys, (tx ps x).length ≤ 1000000) (hps : ps.length ≤ 100000000) :
    Calls Tryd.prog 40 #[u, v, .func (.func 41) #[pp] #[]] w (EqfPost P w (decide (xs.map (tx ps) = ys.map (tx ps)))) := by
  obtain ⟨ua, uc, rfl, u1, u2, _⟩ := (OwnI.rd hu).len
  obtain ⟨va, vc, rfl, v1, v2, _⟩ := (OwnI.rd hv).len
  have u63 : (xs.length : Int) ≤ 9223372036854775807 := by omega
  have v63 : (ys.length : Int) ≤ 9223372036854775807 := by unfold maxLen at v2; omega
  have HU := Shut.mk hu
  have HV := Shut.mk hv
  have HH := Shut.mk h
  have HX := Shut.mk hx
  have HY := Shut.mk hy
  have HTX := Shut.mk htx
  have HTY := Shut.mk hty
  have HUP := Shut.mk hup
  have HVP := Shut.mk hvp
  obtain ⟨r, hr⟩ : ∃ r, r = decide (xs.map (tx ps) = ys.map (tx ps)) := ⟨_, rfl⟩
  rw [← hr]
  have HR := Shut.mk hr
  clear hr
  by_cases hl : xs.length = ys.length
  · have hlb : ((xs.length : Int) != (ys.length : Int)) = false := by simp [hl]
    have HL := Shut.mk hl
    clear h hu hv hx hy htx hty hup hvp
    go_enter Tryd.func40, Tryd.ntmps40
    clear hl
    go_wp2
    go_loopw [17] (fun i wr => ∃ (k : Nat) (P' : Nat → Prop) (ps' : List Pc), k ≤ xs.length ∧ i = .int .i64 k ∧ Shut (EqM P w pp ps xs ys k wr P' ps')) (fun i _ => xs.length - (intOf i).toNat)
    case atStart => exact ⟨0, P, ps, Nat.zero_le _, rfl, ⟨HH.out, PExt.refl ps, Nat.le_refl _, Turn.refl _ _, fun b hb => .inl hb, rfl⟩⟩
    case round =>
      obtain ⟨k, P', ps', hk0, rfl, st⟩ := hrel
      by_cases hlt : k < xs.length
      · have hkx := HX.out _ (getD_mem hlt)
        have hky := HY.out _ (getD_mem (show k < ys.length by rw [← HL.out]; exact hlt))
        have htx := HTX.out _ (getD_mem hlt)
        have hty := HTY.out _ (getD_mem (show k < ys.length by rw [← HL.out]; exact hlt))
        obtain ⟨gu, cu, hgu, _, _, _, _, hcu, _⟩ := OwnI.row (Ownv.turn HU.out st.out.turn HUP.out) (by omega)
        obtain ⟨gv, cv, hgv, _, _, _, _, hcv, _⟩ := OwnI.row (Ownv.turn HV.out st.out.turn HVP.out) (by rw [← HL.out]; omega)
        simp only [Value.slice.injEq] at hgu hgv
        obtain ⟨rfl, _, rfl⟩ := hgu
        obtain ⟨rfl, _, rfl⟩ := hgv
        have c1 := hcu k hlt
        have c2 := hcv k (by rw [← HL.out]; exact hlt)
        have e1 : xs[k] = xs.getD k 0 := by rw [List.getD_eq_getElem?_getD, List.getElem?_eq_getElem hlt]; rfl
        have e2 : ys[k]'(by rw [← HL.out]; exact hlt) = ys.getD k 0 := by rw [List.getD_eq_getElem?_getD, List.getElem?_eq_getElem (show k < ys.length by rw [← HL.out]; exact hlt)]; rfl
        have hst1 : (xs.take (k + 1)).map (tx ps) = (xs.take k).map (tx ps) ++ [tx ps (xs.getD k 0)] := by rw [List.take_succ_eq_append_getElem hlt, List.map_append, e1]; rfl
        have hst2 : (ys.take (k + 1)).map (tx ps) = (ys.take k).map (tx ps) ++ [tx ps (ys.getD k 0)] := by rw [List.take_succ_eq_append_getElem (show k < ys.length by rw [← HL.out]; exact hlt), List.map_append, e2]; rfl
        have hne : tx ps (xs.getD k 0) ≠ tx ps (ys.getD k 0) → r = false := fun c => by
          rw [HR.out]
          refine decide_eq_false fun e => c ?_
          have := congrArg (fun l => l.getD k []) e
          simp only [List.getD_eq_getElem?_getD, List.getElem?_map, List.getElem?_eq_getElem hlt, List.getElem?_eq_getElem (show k < ys.length by rw [← HL.out]; exact hlt), Option.map_some, Option.getD_some] at this
          rw [e1, e2] at this
          exact this
        clear hcu hcv e1 e2
        have HNE := Shut.mk hne
        have H1 := Shut.mk hst1
        have H2 := Shut.mk hst2
        clear hne hst1 hst2
        generalize xs.getD k 0 = x at hkx htx c1 HNE H1
        generalize ys.getD k 0 = y at hky hty c2 HNE H2
        obtain ⟨x, rfl⟩ := Int.eq_ofNat_of_zero_le hkx.1
        obtain ⟨y, rfl⟩ := Int.eq_ofNat_of_zero_le hky.1
        have t1 := tx_ext' st.out.ext hkx
        have t2 := tx_ext' st.out.ext hky
        have hsm := same_any st.out.pcs (x := x) (y := y) (by have := (hkx.mono st.out.ext.len).2; omega) (by have := (hky.mono st.out.ext.len).2; omega) (by rw [t1]; omega) (by rw [t2]; omega) (by have := st.out.cnt; omega)
        have HT1 := Shut.mk t1
        have HT2 := Shut.mk t2
        have HLX := Shut.mk htx
        have hltv : (k : Int) < (ys.length : Int) := by rw [← HL.out]; omega
        have hltI : (k : Int) < (xs.length : Int) := by omega
        clear t1 t2 hkx hky htx hty
        by_cases c : tx ps (x : Int) = tx ps (y : Int)
        · have HC := Shut.mk c
          clear c
          go_wp2_with (go_at_call 41; (with_reducible refine hsm.mono ?_); rintro e w1 ⟨P1, ps1, rfl, q1, q2, q3, q4, q5⟩; rw [HT1.out, HT2.out, decide_eq_true HC.out])
          go_roundw
          case rel =>
            refine ⟨k + 1, P1, ps1, hlt, rfl, ⟨q1, st.out.ext.trans q2, ?_, st.out.turn.trans q4 (fun b hb => st.out.new b hb), fun b hb => (q5 b hb).elim (st.out.new b) (fun e => .inr (Nat.le_trans st.out.turn.size e)), ?_⟩⟩
            · have := st.out.cnt; rw [HT1.out] at q3; have := HLX.out; omega
            · rw [H1.out, H2.out, st.out.same, HC.out]
          case measure => simp [intOf]; omega
        · have HC := Shut.mk c
          clear c
          go_wp2_with (go_at_call 41; (with_reducible refine hsm.mono ?_); rintro e w1 ⟨P1, ps1, rfl, q1, q2, q3, q4, q5⟩; rw [HT1.out, HT2.out, decide_eq_false HC.out])
          go_ret
          exact ⟨by rw [HNE.out HC.out]; rfl, st.out.turn.trans q4 (fun b hb => st.out.new b hb)⟩
      · obtain rfl : k = xs.length := by omega
        have hall : decide (xs.map (tx ps) = ys.map (tx ps)) = true := by
          have := st.out.same
          rw [List.take_length, HL.out, List.take_length] at this
          exact decide_eq_true this
        have HA := Shut.mk hall
        clear hall
        go_wp2
        go_ret
        exact ⟨by rw [HR.out, HA.out]; rfl, st.out.turn⟩
  · have hlb : ((xs.length : Int) != (ys.length : Int)) = true := by simp; omega
    have hne : decide (xs.map (tx ps) = ys.map (tx ps)) = false := decide_eq_false fun e => hl (by have := congrArg List.length e; rwa [List.length_map, List.length_map] at this)
    have HN := Shut.mk hne
    clear h hu hv hx hy htx hty hup hvp hl hne
    go_enter Tryd.func40, Tryd.ntmps40
    go_wp2
    go_ret
    exact ⟨by rw [HR.out, HN.out]; rfl, Turn.refl _ _⟩
end Go.Proofs.YtangbnmgkcmhbaaDoor
end

section
/- Alike. -/
set_option linter.unusedSimpArgs false
set_option linter.unusedVariables false
namespace Go.Proofs.YtangbnmgkcmhbaaDoor
open Go.RowKit Go.Maps

theorem len_le_flat {l : List (List UInt8)} {t : List UInt8} (h : t ∈ l) : t.length ≤ l.flatten.length := by
  induction l with
  | nil => cases h
  | cons a l ih =>
    rw [List.flatten_cons, List.length_append]
    rcases List.mem_cons.1 h with rfl | h
    · omega
    · have := ih h; omega
theorem VB.lt {w : World} {v : Value} {l : List Int} (hd : RdI w v l) : ∀ b, VB v b → b < w.heap.size := fun b hb => by
  by_cases hp : 0 < l.length
  · exact Rdv.lt hd (by omega) hb
  · obtain ⟨la, lc, e, _, _, hno⟩ := hd.len
    obtain ⟨o, sp, n', c', hc', e'⟩ := hb
    rw [e] at e'
    simp only [Value.slice.injEq] at e'
    omega
def AlikePost (w : World) (b : Bool) (e : Ending) (w' : World) : Prop := e = .returned (.tuple #[.bool b, .int .i64 0]) ∧ Kept w w'
def AlikeBad (w : World) (e : Ending) (w' : World) : Prop := e = .returned (.tuple #[.bool false, .int .i64 1]) ∧ Kept w w'
set_option maxHeartbeats 4000000 in
set_option maxRecDepth 100000 in
theorem alikeA {F : Nat → Prop} {w : World} {p v u : Value} {ds : List Nd} {l m : List Int} (ht : TabsD w) (h : Ar F w p ds) (hd : RdI w v l) (hm : RdI w u m) (hT : termsB ds l = true) (hU : termsB ds m = true) (hll : l.length ≤ 100) (hml : m.length ≤ 100) (hsl : (looks ds l).flatten.length ≤ 1000000) (hsm : (looks ds m).flatten.length ≤ 1000000) :
    Calls Tryd.prog 19 #[p, v, u] w (AlikePost w (decide (looks ds l = looks ds m))) := by
  have hnp := newPieces_any w
  have HH := Shut.mk h
  have HD := Shut.mk hd
  have HM := Shut.mk hm
  have HT := Shut.mk hT
  have HU := Shut.mk hU
  have HTB := Shut.mk ht
  have HSL := Shut.mk hsl
  have HSM := Shut.mk hsm
  have hfew := h.few
  have HVL := Shut.mk (VB.lt hd)
  have HUL := Shut.mk (VB.lt hm)
  obtain ⟨la, lc, rfl, _, _, _⟩ := hd.len
  obtain ⟨ma, mc, rfl, _, _, _⟩ := hm.len
  have hmf : ∀ (fn : Fn) (first cap : Array Value) (w : World), (Instr.makeFunc fn first cap).run Tryd.prog w = .ok (.func fn first cap) w := fun _ _ _ _ => rfl
  obtain ⟨r, hr⟩ : ∃ r, r = decide (looks ds l = looks ds m) := ⟨_, rfl⟩
  rw [← hr]
  have HR := Shut.mk hr
  clear h hd hm hT hU ht hsl hsm hr
  go_enter Tryd.func19, Tryd.ntmps19
  go_wp2_with fail
  (with_reducible refine hnp.mono ?_)
  clear hnp
  rintro e w1 ⟨P, pp, rfl, hP, hb, k1⟩
  have hps := patterns_any HTB.out k1 hP hb (ArG.kept HH.out k1) (HD.out.kept k1) (fun b h1 h2 => by have := HVL.out b h1; have := hb b h2; omega) HT.out (by omega) (by simp)
  have HB := Shut.mk hb
  have HK1 := Shut.mk k1
  clear hP hb k1
  go_wp2_with fail
  (with_reducible refine hps.mono ?_)
  clear hps
  rintro e w2 ⟨P2, ps2, u2, xs, rfl, r1, r2, r3, r4, r5, r6, r7, r8, r9⟩
  have k2 : Kept w w2 := Turn.keptOf HK1.out r7 HB.out
  have hb2 : ∀ b, P2 b → w.heap.size ≤ b := fun b hb => (r8 b hb).elim (HB.out b) (fun e => Nat.le_trans HK1.out.size e)
  have hps2 : ps2.length ≤ 10000000 := by simp at r3; omega
  have hps := patterns_any HTB.out k2 r1 hb2 (ArG.kept HH.out k2) (HM.out.kept k2) (fun b h1 h2 => by have := HUL.out b h1; have := hb2 b h2; omega) HU.out (by omega) (by omega)
  have H2 := Shut.mk (And.intro r4 (And.intro r5 (And.intro r6 r9)))
  have HK2 := Shut.mk k2
  have HB2 := Shut.mk hb2
  clear r1 r2 r3 r4 r5 r6 r7 r8 r9 k2 hb2
  go_wp2_with fail
  (with_reducible refine hps.mono ?_)
  clear hps
  rintro e w3 ⟨P3, ps3, u3, ys, rfl, r1, r2, r3, r4, r5, r6, r7, r8, r9⟩
  obtain ⟨q1, q2, q3, q4⟩ := H2.out
  have hb3 : ∀ b, P3 b → w.heap.size ≤ b := fun b hb => (r8 b hb).elim (HB2.out b) (fun e => Nat.le_trans HK2.out.size e)
  have k3 : Kept w w3 := Turn.keptOf HK2.out r7 HB2.out
  have o2 : OwnI 0 w3 u2 xs := Ownv.turn q1 r7 (fun b hb hc => (q4 b hb).2 hc)
  have hxm : xs.map (tx ps3) = looks ds l := by rw [← q3]; exact List.map_congr_left fun x hx => tx_ext' r2 (q2 x hx)
  have hxl : xs.length = l.length := by have := congrArg List.length hxm; rwa [List.length_map, looks_len] at this
  have heq := eqf_any r1 o2 r4 (fun b h1 h2 => (r8 b h2).elim (q4 b h1).2 (fun e => by have := (Ownv.lt q1 h1).1; omega)) (fun b h1 => (r9 b h1).2) (fun x hx => (q2 x hx).mono r2.len) r5 (by omega)
    (fun x hx => by have : tx ps3 x ∈ looks ds l := by rw [← hxm]; exact List.mem_map_of_mem hx
                    have := len_le_flat this
                    have := HSL.out
                    omega)
    (fun x hx => by have : tx ps3 x ∈ looks ds m := by rw [← r6]; exact List.mem_map_of_mem hx
                    have := len_le_flat this
                    have := HSM.out
                    omega) (by omega)
  rw [hxm, r6, ← HR.out] at heq
  have HF := Shut.mk (And.intro k3 hb3)
  obtain ⟨ua, uc, hua, _, _, _⟩ := (OwnI.rd o2).len
  obtain ⟨va, vc, hva, _, _, _⟩ := (OwnI.rd r4).len
  generalize xs.length = n1 at hua
  generalize ys.length = n2 at hva
  subst hua hva
  clear r1 r2 r3 r4 r5 r6 r7 r8 r9 q1 q2 q3 q4 o2 hxm hxl hb3 k3
  go_wp2_with fail
  (with_reducible refine heq.mono ?_)
  clear heq
  rintro e w4 ⟨rfl, t4⟩
  go_wp2
  go_ret2
  exact ⟨rfl, Turn.keptOf HF.out.1 t4 HF.out.2⟩
set_option maxHeartbeats 4000000 in
set_option maxRecDepth 100000 in
theorem alike_bad1 {F : Nat → Prop} {w : World} {p v u : Value} {ds : List Nd} {l m : List Int} (h : Ar F w p ds) (hd : RdI w v l) (hm : RdI w u m) (hT : termsB ds l = false) :
    Calls Tryd.prog 19 #[p, v, u] w (AlikeBad w) := by
  have hnp := newPieces_any w
  have HH := Shut.mk h
  have HD := Shut.mk hd
  have HT := Shut.mk hT
  obtain ⟨la, lc, rfl, _, _, _⟩ := hd.len
  obtain ⟨ma, mc, rfl, _, _, _⟩ := hm.len
  clear h hd hm hT
  go_enter Tryd.func19, Tryd.ntmps19
  go_wp2_with fail
  (with_reducible refine hnp.mono ?_)
  clear hnp
  rintro e w1 ⟨P, pp, rfl, hP, hb, k1⟩
  have hps := patterns_bad (pp := pp) (ArG.kept HH.out k1) (HD.out.kept k1) HT.out
  go_wp2_with fail
  refine hps.mono ?_
  clear hps
  rintro e w2 ⟨rfl, rfl⟩
  go_wp2
  go_ret2
  exact ⟨rfl, k1⟩
set_option maxHeartbeats 4000000 in
set_option maxRecDepth 100000 in
theorem alike_bad2 {F : Nat → Prop} {w : World} {p v u : Value} {ds : List Nd} {l m : List Int} (ht : TabsD w) (h : Ar F w p ds) (hd : RdI w v l) (hm : RdI w u m) (hT : termsB ds l = true) (hU : termsB ds m = false) (hll : l.length ≤ 100) :
    Calls Tryd.prog 19 #[p, v, u] w (AlikeBad w) := by
  have hnp := newPieces_any w
  have HH := Shut.mk h
  have HD := Shut.mk hd
  have HM := Shut.mk hm
  have HT := Shut.mk hT
  have HU := Shut.mk hU
  have HTB := Shut.mk ht
  have HVL := Shut.mk (VB.lt hd)
  obtain ⟨la, lc, rfl, _, _, _⟩ := hd.len
  obtain ⟨ma, mc, rfl, _, _, _⟩ := hm.len
  clear h hd hm hT hU ht
  go_enter Tryd.func19, Tryd.ntmps19
  go_wp2_with fail
  (with_reducible refine hnp.mono ?_)
  clear hnp
  rintro e w1 ⟨P, pp, rfl, hP, hb, k1⟩
  have hps := patterns_any HTB.out k1 hP hb (ArG.kept HH.out k1) (HD.out.kept k1) (fun b h1 h2 => by have := HVL.out b h1; have := hb b h2; omega) HT.out (by omega) (by simp)
  have HB := Shut.mk hb
  have HK1 := Shut.mk k1
  clear hP hb k1
  go_wp2_with fail
  (with_reducible refine hps.mono ?_)
  clear hps
  rintro e w2 ⟨P2, ps2, u2, xs, rfl, r1, r2, r3, r4, r5, r6, r7, r8, r9⟩
  have k2 : Kept w w2 := Turn.keptOf HK1.out r7 HB.out
  obtain ⟨ua, uc, hua, _, _, _⟩ := (OwnI.rd r4).len
  generalize xs.length = n1 at hua
  subst hua
  have hps := patterns_bad (pp := pp) (ArG.kept HH.out k2) (HM.out.kept k2) HU.out
  have HK2 := Shut.mk k2
  clear r1 r2 r3 r4 r5 r6 r7 r8 r9 k2
  go_wp2_with fail
  refine hps.mono ?_
  clear hps
  rintro e w3 ⟨rfl, rfl⟩
  go_wp2
  go_ret2
  exact ⟨rfl, HK2.out⟩
end Go.Proofs.YtangbnmgkcmhbaaDoor
end
