/- Texts of one proof, put together: DedW, DedH, DedM, DedQ, DedX. -/
import Derived.Test.YtangbnmgkcmhbaaDoorMg05
import Derived.Test.YtangbnmgkcmhbaaDoorMg06
import Derived.RangeFuncBox
import Derived.RangeFuncLeaves
import Derived.RangeFuncNested
import Derived.Shelf.Abstract
import Derived.OwnWalkIn
import Derived.TacticsInMore
import Derived.LoopNIn
import Derived.LoopIn
import Derived.Test.YtangbnmgkcmhbaaDoorMg04
import Derived.Deep.RegionHeld3
import Derived.BigQuiet
import Derived.Deep.QuietTactic
import Derived.Deep.DeepCutAuto
import Derived.Laws.EntriesVeiled
section
/- within: a range over slices.Backward. -/
set_option linter.unusedSimpArgs false
set_option linter.unusedVariables false
namespace Go.Proofs.YtangbnmgkcmhbaaDoor
open Go.RowKit Go.Shelf

attribute [local go_sem] Oper.semAt_some

/-- The places that have come when k rounds are over: from behind. -/
def backN (len k : Nat) : List Nat := (List.range k).map fun j => len - 1 - j
theorem backN_succ (len k : Nat) : backN len (k + 1) = backN len k ++ [len - 1 - k] := by simp [backN, List.range_succ]
theorem backN_length (len k : Nat) : (backN len k).length = k := by simp [backN]

/-- What a round keeps: what lay below n₀, and the box of the slice. -/
def KeepB (n₀ Bs : Nat) (W W' : World) : Prop := Below n₀ W W' ∧ W'.heap[Bs]? = W.heap[Bs]?
theorem KeepB.trans {n₀ Bs : Nat} {A B C : World} (h : KeepB n₀ Bs A B) (k : KeepB n₀ Bs B C) : KeepB n₀ Bs A C := ⟨h.1.trans k.1, k.2.trans h.2⟩
theorem KeepB.refl (n₀ Bs : Nat) (W : World) : KeepB n₀ Bs W W := ⟨Below.refl _ _, rfl⟩
theorem KeepB.turn {n₀ Bs : Nat} {w : World} (hn : n₀ ≤ w.heap.size) (hb : Bs < w.heap.size) (W : World) (l : Nat) (o o' : Obj) (hl : w.heap.size ≤ l) (h : W.heap[l]? = some o) (h1 : o.isCells = false) (h2 : o.isWalk = false) : KeepB n₀ Bs W (W.putObj l o') :=
  ⟨belowK_b hn W l o o' hl h h1 h2, by
    have := (grownBy_putObj' W l o').block Bs (by have := (Array.getElem?_eq_some_iff.1 h).1; omega) (by simp; omega)
    exact this⟩

/-- The node at a place, as a value. -/
def ndVal (ds : List Nd) (lvs : List Value) (j : Nat) : Value := .agg #[.int .i64 (ds.getD j nd0).op, .int .i64 (ds.getD j nd0).n, .string (strB (ds.getD j nd0).s), lvs.getD j undef]

set_option maxRecDepth 100000 in
set_option maxHeartbeats 2000000 in
/-- slices.Backward's closure: for every loop body that keeps what lay below n₀. -/
theorem bwN1_in (F : Fence) (n : Nat) (h8 : F.fn 72) (hro : F.round = none) (hn : 1 ≤ n) (l Bs n₀ b cap : Nat) (ds : List Nd) (lvs : List Value) (hreach : ds.length ≤ 1000000000) (hb : b < n₀) (J Jx : List Nat → World → Prop)
    (hY : ∀ (pre : List Nat) (x : Nat) (W : World), x < ds.length → J pre W → pre.length < ds.length → YieldAt F (n - 1) Tryd.prog l #[.int .i64 (x : Int), ndVal ds lvs x] W fun e W' =>
      (e = .returned (.bool true) ∧ J (pre ++ [x]) W' ∧ KeepB n₀ Bs W W') ∨ (e = .returned (.bool false) ∧ Jx (pre ++ [x]) W'))
    (W : World) (hBs : W.cell? ⟨Bs, 0, none⟩ = some (.slice (some ⟨b, 0, none⟩) ds.length cap)) (hc : ∀ j, j < ds.length → W.cell? ⟨b, j * 4, none⟩ = some (.int .i64 (ds.getD j nd0).op) ∧ W.cell? ⟨b, j * 4 + 1, none⟩ = some (.int .i64 (ds.getD j nd0).n) ∧ W.cell? ⟨b, j * 4 + 2, none⟩ = some (.string (strB (ds.getD j nd0).s)) ∧ W.cell? ⟨b, j * 4 + 3, none⟩ = some (lvs.getD j undef)) (h0 : J [] W) :
    CallsIn F n Tryd.prog 72 #[.func (.yield l) #[] #[], .pointer (some ⟨Bs, 0, none⟩)] W fun e W' => (∃ v, e = .returned v) ∧
      ((∃ ys, ys = backN ds.length ds.length ∧ J ys W') ∨ (∃ pre, (∃ k, k ≤ ds.length ∧ pre = backN ds.length k) ∧ Jx pre W')) := by
  refine callsIn_of_wp Tryd.func72 rfl h8 ?_ hro
  simp only [Tryd.ntmps72, List.size_toArray, List.length_cons, List.length_nil, Nat.reduceAdd, Nat.reduceSub, Array.replicate_succ, Array.replicate_zero, List.push_toArray, List.append_toArray, List.nil_append, List.cons_append]
  have HC := Shut.mk hc
  clear hc
  gi_wp2
  gi_loopw [3] (fun i wr => ∃ m : Nat, m ≤ ds.length ∧ i = .int .i64 ((m : Int) - 1) ∧ J (backN ds.length (ds.length - m)) wr ∧ KeepB n₀ Bs W wr)
    (fun i _ => (intOf i + 1).toNat)
  case atStart => exact ⟨ds.length, Nat.le_refl _, rfl, by rw [Nat.sub_self]; exact h0, KeepB.refl _ _ _⟩
  case round =>
    obtain ⟨m, hm, rfl, hJs, hnx⟩ := hrel
    have hbx : wr.cell? ⟨Bs, 0, none⟩ = some (.slice (some ⟨b, 0, none⟩) ds.length cap) := (World.cell?_of_block hnx.2).trans hBs
    cases m with
    | succ m =>
      obtain ⟨c0, c1, c2, c3⟩ := HC.out m (by omega)
      have x0 := (hnx.1.cell (p := ⟨b, m * 4, none⟩) hb).trans c0
      have x1 := (hnx.1.cell (p := ⟨b, m * 4 + 1, none⟩) hb).trans c1
      have x2 := (hnx.1.cell (p := ⟨b, m * 4 + 2, none⟩) hb).trans c2
      have x3 := (hnx.1.cell (p := ⟨b, m * 4 + 3, none⟩) hb).trans c3
      clear c0 c1 c2 c3
      have e1 : ds.length - 1 - (ds.length - (m + 1)) = m := by omega
      have hbs := backN_succ ds.length (ds.length - (m + 1))
      rw [e1, show ds.length - (m + 1) + 1 = ds.length - m by omega] at hbs
      have HBS := Lib.hid hbs
      clear hbs e1
      have hlt : m < ds.length := by omega
      obtain ⟨fn, tmps, assign, body, hy, hR⟩ := hY _ m wr hlt hJs (by rw [backN_length]; omega)
      unfold ndVal at hy
      generalize lvs.getD m undef = lv at x3 hy
      generalize ds.getD m nd0 = d at x0 x1 x2 hy
      obtain ⟨dop, dn, dss, dl⟩ := d
      simp only at x0 x1 x2 hy
      try dsimp only at hy
      have em : ((m + 1 : Nat) : Int) - 1 = (m : Int) := by omega
      rw [em]
      clear em hm
      gi_wp2
      refine hR.mono ?_
      rintro e W3 (⟨rfl, hJ3, hk3⟩ | ⟨rfl, hJx3⟩)
      · gi_wp2
        go_roundw
        case rel => exact ⟨m, by omega, rfl, by rw [HBS.out]; exact hJ3, hnx.trans hk3⟩
        case measure => simp [intOf]
      · gi_wp2
        refine bodyPost_ret (results_none rfl _ _ _) rfl ?_
        exact ⟨⟨_, rfl⟩, .inr ⟨_, ⟨ds.length - m, by omega, HBS.out.symm⟩, hJx3⟩⟩
    | zero =>
      gi_wp2
      go_end0
      exact ⟨⟨_, rfl⟩, .inl ⟨_, rfl, hJs⟩⟩

set_option maxRecDepth 100000 in
set_option maxHeartbeats 1000000 in
theorem bwN1_nil_in (F : Fence) (n : Nat) (h8 : F.fn 72) (hro : F.round = none) (l Bs : Nat) (J : List Nat → World → Prop) (W : World) (a : Option Addr) (cap : Nat) (hBs : W.cell? ⟨Bs, 0, none⟩ = some (.slice a 0 cap)) (h0 : J [] W) :
    CallsIn F n Tryd.prog 72 #[.func (.yield l) #[] #[], .pointer (some ⟨Bs, 0, none⟩)] W fun e W' => (∃ v, e = .returned v) ∧ J [] W' := by
  refine callsIn_of_wp Tryd.func72 rfl h8 ?_ hro
  simp only [Tryd.ntmps72, List.size_toArray, List.length_cons, List.length_nil, Nat.reduceAdd, Nat.reduceSub, Array.replicate_succ, Array.replicate_zero, List.push_toArray, List.append_toArray, List.nil_append, List.cons_append]
  gi_wp2
  gi_loopw [3] (fun i wr => i = .int .i64 (-1) ∧ J [] wr) (fun _ _ => 0)
  case atStart => exact ⟨rfl, h0⟩
  case round =>
    obtain ⟨rfl, hJs⟩ := hrel
    gi_wp2
    go_end0
    exact ⟨⟨_, rfl⟩, hJs⟩

set_option maxHeartbeats 1000000 in
theorem bwN_in (F : Fence) (n : Nat) (h6 : F.fn 50) (hro : F.round = none) (a : Option Addr) (len cap : Nat) (w : World) :
    CallsIn F n Tryd.prog 50 #[.slice a len cap] w fun e w' => e = .returned (.func (.func 72) #[] #[.pointer (some ⟨w.heap.size, 0, none⟩)]) ∧ w' = w.alloc (.cells #[.slice a len cap] 22) := by
  refine callsIn_of_wp Tryd.func50 rfl h6 ?_ hro
  simp only [Tryd.ntmps50, List.size_toArray, List.length_cons, List.length_nil, Nat.reduceAdd, Nat.reduceSub, Array.replicate_succ, Array.replicate_zero, List.push_toArray, List.append_toArray, List.nil_append, List.cons_append]
  gi_wp2
  go_ret
  exact ⟨rfl, rfl⟩

/-- The slice value holds these nodes in a block below n₀, or it has none. -/
def NodesAt (n₀ : Nat) (W : World) (sv : Value) (ds : List Nd) (lvs : List Value) : Prop :=
  (∃ a cap, sv = .slice a 0 cap ∧ ds = []) ∨ ∃ b cap, sv = .slice (some ⟨b, 0, none⟩) ds.length cap ∧ b < n₀ ∧ ∀ j, j < ds.length → W.cell? ⟨b, j * 4, none⟩ = some (.int .i64 (ds.getD j nd0).op) ∧ W.cell? ⟨b, j * 4 + 1, none⟩ = some (.int .i64 (ds.getD j nd0).n) ∧ W.cell? ⟨b, j * 4 + 2, none⟩ = some (.string (strB (ds.getD j nd0).s)) ∧ W.cell? ⟨b, j * 4 + 3, none⟩ = some (lvs.getD j undef)
theorem NodesAt.below {n₀ : Nat} {A B : World} (h : Below n₀ A B) {sv : Value} {ds : List Nd} {lvs : List Value} : NodesAt n₀ A sv ds lvs → NodesAt n₀ B sv ds lvs
  | .inl e => .inl e
  | .inr ⟨b, cap, e, hb, hc⟩ => .inr ⟨b, cap, e, hb, fun j hj => ⟨(h.cell (p := ⟨b, j * 4, none⟩) hb).trans (hc j hj).1, (h.cell (p := ⟨b, j * 4 + 1, none⟩) hb).trans (hc j hj).2.1, (h.cell (p := ⟨b, j * 4 + 2, none⟩) hb).trans (hc j hj).2.2.1, (h.cell (p := ⟨b, j * 4 + 3, none⟩) hb).trans (hc j hj).2.2.2⟩⟩
theorem nodesAt_of {w : World} {nv : Value} {ds : List Nd} {lvs : List Value} (h : Ownv 0 51 4 w nv ds.length (flat ds lvs)) : NodesAt w.heap.size w nv ds lvs := by
  by_cases hp : 0 < ds.length
  · obtain ⟨g, cap, rfl, _, _, _, hg, h5, _⟩ := Ownv.row h hp
    refine .inr ⟨g, cap, rfl, hg, fun j hj => ?_⟩
    have hx : ∀ q, q < 4 → w.cell? ⟨g, j * 4 + q, none⟩ = (ndCells (ds.getD j nd0) (lvs.getD j undef))[q]? := fun q hq => by
      rw [h5 (j * 4 + q) (by omega), List.getD_eq_getElem?_getD, flat_at ds lvs j q hj hq]
      have : q < (ndCells (ds.getD j nd0) (lvs.getD j undef)).length := by simp [ndCells]; omega
      rw [List.getElem?_eq_getElem this]
      rfl
    exact ⟨hx 0 (by omega), hx 1 (by omega), hx 2 (by omega), hx 3 (by omega)⟩
  · have : ds = [] := List.eq_nil_of_length_eq_zero (by omega)
    subst this
    obtain ⟨a, cap, rfl, _⟩ := Ownv.rdv h
    exact .inl ⟨a, cap, rfl, rfl⟩
/-- Places of a list, as such. -/
def valsN {n : Nat} (xs : List (Fin n)) : List Nat := xs.map (·.val)
theorem bwN_stops (F : Fence) (n : Nat) (h8 : F.fn 72) (hro : F.round = none) (hn : 1 ≤ n) (Bs n₀ : Nat) (sv : Value) (ds : List Nd) (lvs : List Value) (hreach : ds.length ≤ 1000000000) (w : World) (hBs : Bs < w.heap.size) (hn₀ : n₀ ≤ w.heap.size)
    (hc : w.cell? ⟨Bs, 0, none⟩ = some sv) (hI : NodesAt n₀ w sv ds lvs) :
    SeqStopsK F n Tryd.prog 72 #[.pointer (some ⟨Bs, 0, none⟩)] (fun x : Fin ds.length => #[Value.int .i64 (x.val : Int), ndVal ds lvs x.val]) (KeepB n₀ Bs) (fun ys => valsN ys = backN ds.length ds.length)
      (fun pre => ∃ k, k ≤ ds.length ∧ valsN pre = backN ds.length k) ds.length w := fun l J Jx W hW _ _ hY h0 => by
  have hc' := (hW.cell (p := ⟨Bs, 0, none⟩) hBs).trans hc
  rcases hI.below (hW.mono hn₀) with ⟨a, cap, rfl, rfl⟩ | ⟨b, cap, rfl, hb, hcs⟩
  · exact (bwN1_nil_in F n h8 hro l Bs (fun pre W => pre = [] ∧ J [] W) W a cap hc' ⟨rfl, h0⟩).mono fun e W' ⟨he, hj⟩ => ⟨he, .inl ⟨[], rfl, hj.2⟩⟩
  · refine (bwN1_in F n h8 hro hn l Bs n₀ b cap ds lvs hreach hb (fun pre W => ∃ ys : List (Fin ds.length), valsN ys = pre ∧ J ys W) (fun pre W => ∃ ys : List (Fin ds.length), valsN ys = pre ∧ Jx ys W) ?_ W hc' hcs ⟨[], rfl, h0⟩).mono ?_
    · rintro pre x W1 hx ⟨ys, rfl, hj⟩ hlen
      obtain ⟨fn, tmps, assign, body, hy, hR⟩ := hY ys ⟨x, hx⟩ W1 hj (by unfold valsN at hlen; rwa [List.length_map] at hlen)
      refine ⟨fn, tmps, assign, body, hy, hR.mono ?_⟩
      rintro e W' (⟨a1, a2, a3⟩ | ⟨a1, a2⟩)
      · exact .inl ⟨a1, ⟨_, by unfold valsN; rw [List.map_append]; rfl, a2⟩, a3⟩
      · exact .inr ⟨a1, ⟨_, by unfold valsN; rw [List.map_append]; rfl, a2⟩⟩
    · rintro e W' ⟨he, ⟨ys, rfl, zs, h1, h2⟩ | ⟨pre, ⟨k, hk, rfl⟩, zs, h1, h2⟩⟩
      · exact ⟨he, .inl ⟨zs, h1, h2⟩⟩
      · exact ⟨he, .inr ⟨zs, ⟨k, hk, h1⟩, h2⟩⟩
/-- What the rounds make of the marks. -/
def foldF {n : Nat} (ds : List Nd) (bs : List Bool) (ys : List (Fin n)) : List Bool := ys.foldl (fun b x => mstep ds b x.val) bs
theorem foldF_vals {n : Nat} (ds : List Nd) (bs : List Bool) (ys : List (Fin n)) : foldF ds bs ys = (valsN ys).foldl (mstep ds) bs := by
  unfold foldF valsN
  rw [List.foldl_map]
theorem fold_back (ds : List Nd) (bs : List Bool) (k : Nat) : (backN ds.length k).foldl (mstep ds) bs = mrounds ds bs k := by
  induction k with
  | zero => rfl
  | succ k ih => rw [backN_succ, List.foldl_append, ih]; rfl
theorem foldF_all {ds : List Nd} {bs : List Bool} {ys : List (Fin ds.length)} (h : valsN ys = backN ds.length ds.length) : foldF ds bs ys = mrounds ds bs ds.length := by rw [foldF_vals, h, fold_back]
theorem foldF_snoc {n : Nat} (ds : List Nd) (bs : List Bool) (ys : List (Fin n)) (x : Fin n) : foldF ds bs (ys ++ [x]) = mstep ds (foldF ds bs ys) x.val := by
  unfold foldF
  rw [List.foldl_append]; rfl
theorem foldF_len {n : Nat} (ds : List Nd) (bs : List Bool) (ys : List (Fin n)) : (foldF ds bs ys).length = bs.length := by
  unfold foldF
  induction ys generalizing bs with
  | nil => rfl
  | cons a l ih => simp only [List.foldl_cons]; rw [ih, mstep_len]

/-- make([]bool, n), inside a fence. -/
theorem gi_mkbool {F : Fence} {m : Nat} {w : World} {ops : Array Oper} {rest : List Oper} {a : Act} {Q : Exit → Act → World → Prop} {d : Option Tmp} {ty : TypeId} {ps : String} {af : Array Edge} {l c : Operand}
    (n : Nat) (hl : a.eval l = .int .i64 (n : Int)) (hc : a.eval c = .int .i64 (n : Int)) (h1 : n ≤ 140737488355328)
    (hK : ∀ w', OwnB w.heap.size w' (.slice (some ⟨w.heap.size, 0, none⟩) n n) (List.replicate n false) → Kept w w' → w'.heap.size = w'.heap.size → wpListIn F m Tryd.prog ops Q rest (a.put d (.slice (some ⟨w.heap.size, 0, none⟩) n n)) w') :
    wpListIn F m Tryd.prog ops Q (⟨d, .makeSlice 60 l c, ty, ps, af, none⟩ :: rest) a w := by
  obtain ⟨i0, hi, hz0, hz1, hz2⟩ := info_parts Tryd.infoBool
  refine wpListIn_plain rfl fun K hK' => ?_
  obtain ⟨w', hrun, r1, r2⟩ := run_make_full (P := Tryd.prog) w w.heap.size 60 4 i0 (.bool false) 1 Tryd.underlying60 hi hz0 hz1 .i64 .i64 n (by rw [hz2]; omega) (by unfold maxLen; omega) (Nat.le_refl _)
  unfold Oper.wpIn
  refine ⟨?_, ?_⟩
  · simp [Oper.about]
  · rw [Oper.semAt_plain F _ _ (by intro c hc'; cases hc')]
    simp [execOp, hl, hc, hrun, Result.andThen]
    refine hK' _ _ (hK w' ?_ ((Below.refl w.heap.size w).grown r2 (Nat.le_refl _) fun k hk => by cases hk) rfl)
    unfold OwnB Ownv
    rw [List.length_replicate, List.map_replicate]
    simpa [toList_madeCells_one, Value.cells] using r1

def WithinPost (w : World) (ds : List Nd) (l : List Int) (e : Ending) (w' : World) : Prop :=
  ∃ v, e = .returned v ∧ OwnB w.heap.size w' v (mrounds ds (marks0 ds l) ds.length) ∧ Kept w w'
set_option maxRecDepth 100000 in
set_option maxHeartbeats 8000000 in
theorem within_in (F : Fence) (n : Nat) (h4 : F.fn 29) (h6 : F.fn 50) (h8 : F.fn 72) (hro : F.round = none) (hn : 3 ≤ n)
    {V : Nat → Prop} {w : World} {vp v : Value} {ds : List Nd} {kn : List Bool} (h : IsVw V w vp ds kn) {l : List Int} (hd : RdI w v l) (hT : ∀ x ∈ l, IsT ds x) (hl : ds.length ≤ 100000) (hg : Good ds) :
    CallsIn F n Tryd.prog 29 #[vp, v] w (WithinPost w ds l) := by
  have h1 : 1 ≤ n := by omega
  obtain ⟨la, lc, rfl, l1, l2, l3⟩ := hd.len
  have l63 : ((l.length : Nat) : Int) ≤ 9223372036854775807 := by unfold maxLen at l2; omega
  obtain ⟨vb, nv, kv, lvs, rfl, b2, b3, b4, b5, b6, b7, b8, b9, b10⟩ := h.rep
  have hna := nodesAt_of b3
  obtain ⟨na, nc, hnv, n1, n2, _⟩ := Ownv.rdv b3
  subst hnv
  have r0 := b2.cell 0
  simp only [List.getElem?_cons_zero] at r0
  have HT := Shut.mk hT
  clear hT
  refine callsIn_of_wp_marks Tryd.func29 rfl h4 ?_ hro
  simp only [Tryd.ntmps29, List.size_toArray, List.length_cons, List.length_nil, Nat.reduceAdd, Nat.reduceSub, Array.replicate_succ, Array.replicate_zero, List.push_toArray, List.append_toArray, List.nil_append, List.cons_append]
  gi_wp2_with (gi_at_make; refine gi_mkbool ds.length rfl rfl (by omega) ?_; intro w1 o1 k1 _)
  have s1 : w.heap.size < w1.heap.size := (Ownv.lt o1 rfl).1
  have bA := Blk.new w1 [.slice (some ⟨w.heap.size, 0, none⟩) ds.length ds.length] 60
  have kA : Kept w1 (w1.alloc (.cells #[.slice (some ⟨w.heap.size, 0, none⟩) ds.length ds.length] 60)) := (Kept.refl w1).alloc _
  have oA : OwnB w.heap.size _ _ _ := Ownv.kept o1 kA
  have HB5 := Shut.mk (fun i hi => OwnI.rd (b5 i hi))
  clear b2 b3 b5 b6 b8 b9 b10 b7 b4
  gi_loopw [20] (fun i wr => ∃ k : Nat, k ≤ l.length ∧ i = .int .i64 k ∧ Blk wr w1.heap.size 60 [.slice (some ⟨w.heap.size, 0, none⟩) ds.length ds.length] ∧ OwnB w.heap.size wr (.slice (some ⟨w.heap.size, 0, none⟩) ds.length ds.length) (mark (List.replicate ds.length false) (l.take k)) ∧ Kept w wr) (fun i _ => l.length - (intOf i).toNat)
  case atStart => exact ⟨0, Nat.zero_le _, rfl, bA, oA, k1.trans kA⟩
  case round =>
    clear bA oA kA k1 o1
    obtain ⟨k, hk0, rfl, hb, ho, hk⟩ := hrel
    have c0 := hb.cell 0
    simp only [List.getElem?_cons_zero] at c0
    by_cases hlt : k < l.length
    · obtain ⟨rb, ro, rfl, hx⟩ := hd.at hlt
      have x1 := hx wr hk
      clear hx
      have hxT := HT.out _ (getD_mem hlt)
      obtain ⟨t, ht, htl⟩ := isT_nat hxT
      have hmt := mark_take (List.replicate ds.length false) l k hlt
      have hml := mark_len (List.replicate ds.length false) (l.take k)
      rw [List.length_replicate] at hml
      rw [ht] at x1 hmt
      rw [Int.toNat_natCast] at hmt
      generalize mark (List.replicate ds.length false) (l.take k) = bs at ho hmt hml
      have HMT := Shut.mk hmt
      have HML := Shut.mk hml
      clear hmt hxT ht
      have htl' : (t : Int) < (ds.length : Int) := by omega
      obtain ⟨g, cap, hg', _, _, _, _, g5, g6⟩ := ho.row (by omega)
      simp only [Value.slice.injEq, Option.some.injEq, Addr.mk.injEq] at hg'
      obtain ⟨⟨rfl, _⟩, _, _⟩ := hg'
      have ct := g5 t (by omega)
      have ft := g6 t
      have o2 := OwnB.put (by rw [HML.out]) ho t (by omega) true
      have hne : w1.heap.size ≠ w.heap.size := by omega
      clear g5 g6 hml
      gi_wp2
      go_roundw
      case rel => exact ⟨k + 1, hlt, rfl, hb.turn (turn_setCell _ _ _) hne, by rw [HMT.out]; exact o2, hk.setCell (Nat.le_refl _) _⟩
      case measure => simp [intOf]; omega
    · obtain rfl : k = l.length := by omega
      rw [List.take_length] at ho
      have ho : OwnB w.heap.size wr (.slice (some ⟨w.heap.size, 0, none⟩) ds.length ds.length) (marks0 ds l) := ho
      have r1 := hk.cell (p := ⟨vb, 0, none⟩) (World.block_lt_of_cell? _ _ r0) |>.trans r0
      have hnr := hna.below hk
      gi_wp2_with (gi_at_call 50; refine (bwN_in F (n - 1) h6 hro _ _ _ _).mono ?_; rintro e w' ⟨rfl, rfl⟩)
      have hsz := alloc_size wr (.cells #[.slice na ds.length nc] 22)
      have kB : Kept wr (wr.alloc (.cells #[.slice na ds.length nc] 22)) := (Kept.refl wr).alloc _
      have hbN := (Blk.new wr [.slice na ds.length nc] 22).cell 0
      simp only [List.getElem?_cons_zero] at hbN
      have hkB := hk.trans kB
      have hb' := hb.kept kB
      have ho' : OwnB w.heap.size _ _ _ := Ownv.kept ho kB
      have hnr' := hnr.below (kB.mono hk.size)
      have hlt1 := hb.lt
      have hlt0 := (Ownv.lt ho rfl).1
      clear kB c0 r1 hnr hb ho
      refine wpIn_rangeFunc_ownH hro h1 (gf := 72) (lb := #[.pointer (some ⟨wr.heap.size, 0, none⟩)]) rfl h8 (enters_of Tryd.func72 (by kernel_rfl) rfl)
        (bwN_stops F (n - 1) h8 hro (by omega) wr.heap.size w.heap.size _ ds lvs (by omega) _ (by rw [hsz]; omega) hkB.size hbN hnr') KeepB.trans (KeepB.turn hkB.size (by rw [hsz]; omega)) (Below.refl _ _) (fun _ => rfl)
        (fun pre W => (Blk W w1.heap.size 60 [.slice (some ⟨w.heap.size, 0, none⟩) ds.length ds.length] ∧ OwnB w.heap.size W (.slice (some ⟨w.heap.size, 0, none⟩) ds.length ds.length) (foldF ds (marks0 ds l) pre) ∧ wr.heap.size < W.heap.size) ∧ Below w.heap.size w W)
        (fun c pre W => False) ?hI (fun c s A B row hs hg hr => hs) ⟨⟨hb', ho', by rw [hsz]; omega⟩, hkB⟩
        (fun x a' W => ∃ p, a' = { tmps := #[.pointer (some ⟨vb, 0, none⟩), .slice la l.length lc, undef, undef, .slice none 0 0, .pointer (some ⟨w1.heap.size, 0, none⟩), undef, u7, .int .i64 (x.val : Int), .pointer (some ⟨p, 0, none⟩), undef, undef, .pointer (some ⟨vb, 0, none⟩), .pointer (some ⟨vb, 0, none⟩), .pointer (some ⟨vb, 0, none⟩), .slice na ds.length nc, .int .i64 (ds.length : Int), .slice (some ⟨w.heap.size, 0, none⟩) ds.length ds.length, .slice la l.length lc, .int .i64 (l.length : Int), .int .i64 (l.length : Int), .bool false, u22, u23, u24, u25, u26, u27, .pointer (some ⟨vb, 0, none⟩), .pointer (some ⟨vb, 0, none⟩), .pointer (some ⟨vb, 0, none⟩), .slice na ds.length nc, .func (.func 72) #[] #[.pointer (some ⟨wr.heap.size, 0, none⟩)], .int .i64 (x.val : Int), ndVal ds lvs x.val, undef, undef, undef, undef, undef, undef, undef, undef, undef, undef, undef, undef, undef, undef, undef, undef], defers := [] } ∧ Blk W p 51 [.int .i64 (ds.getD x.val nd0).op, .int .i64 (ds.getD x.val nd0).n, .string (strB (ds.getD x.val nd0).s), lvs.getD x.val undef]) ?hAx ?assign ?body ?done (fun D c pre W _ _ hF _ => hF.elim)
      case hI =>
        rintro s A B row ⟨⟨hb, ho, hZ⟩, hB⟩ hg hr
        have hsame : ∀ b, b < (wr.alloc (.cells #[.slice na ds.length nc] 22)).heap.size → b < A.heap.size → B.heap[b]? = A.heap[b]? := fun b h1 h2 => hg.block b h2 (fun e => by have := (hr b e.symm).1; omega)
        rw [hsz] at hsame
        refine ⟨⟨hb.same fun b e => ?_, Ownv.same ho fun b e => ?_, Nat.lt_of_lt_of_le hZ hg.size⟩, hB.grown hg hB.size (fun k e => by have := (hr k e).1; rw [hsz] at this; have := hk.size; omega)⟩
        · rw [e]; exact hsame _ (by omega) hb.lt
        · exact hsame b (by have : b = w.heap.size := (Option.some.inj e).symm
                            omega) (Ownv.lt ho e).1
      case hAx =>
        rintro x a' s A B row ⟨p, e, hp⟩ hg hr
        refine ⟨p, e, hp.same fun b eb => ?_⟩
        rw [eb]
        refine hg.block p hp.lt (fun e' => ?_)
        obtain ⟨_, o, ho, hc⟩ := hr p e'.symm
        unfold Blk at hp
        rw [hp] at ho
        cases ho
        cases hc
      case assign =>
        rintro l' pre x W K ⟨⟨hb, ho, hZ⟩, hB⟩ hK
        have kW : Kept W (W.alloc (.cells #[.int .i64 (ds.getD x.val nd0).op, .int .i64 (ds.getD x.val nd0).n, .string (strB (ds.getD x.val nd0).s), lvs.getD x.val undef] 51)) := (Kept.refl W).alloc _
        have bx := Blk.new W [.int .i64 (ds.getD x.val nd0).op, .int .i64 (ds.getD x.val nd0).n, .string (strB (ds.getD x.val nd0).s), lvs.getD x.val undef] 51
        have hlr := HB5.out x.val x.isLt
        obtain ⟨xa, xc, hxa, _, _, _⟩ := hlr.len
        have hK' := Shut.mk hK
        clear hK
        simp only [ndVal] at hK' ⊢
        rw [hxa] at bx kW hK' ⊢
        clear hxa hlr
        generalize ds.getD x.val nd0 = d at bx kW hK' ⊢
        generalize lvs.getD x.val undef = lv at hK' ⊢
        obtain ⟨dop, dn, dss, dl⟩ := d
        simp only at bx kW hK' ⊢
        gi_wp2
        exact hK'.out _ _ ((KeepsOthers.alloc _ _).from _) ⟨kW.mono hB.size, kW.block _ hZ⟩ ⟨⟨hb.kept kW, Ownv.kept ho kW, Nat.lt_of_lt_of_le hZ kW.size⟩, hB.trans (kW.mono hB.size)⟩ ⟨_, rfl, bx⟩
      case body =>
        rintro l' pre x a' W hl' hloop ⟨⟨hb, ho, hZ⟩, hB⟩ ⟨p, rfl, hp⟩ hlen
        have c0 := hb.cell 0
        have p3 := hp.cell 3
        simp only [List.getElem?_cons_succ, List.getElem?_cons_zero] at c0 p3
        have hxl := x.isLt
        have hfl := foldF_len ds (marks0 ds l) pre
        rw [marks0_len] at hfl
        have hsn := foldF_snoc ds (marks0 ds l) pre x
        have hlr := HB5.out x.val hxl
        have hless := hg.lesser hxl
        have hl64 := (hg.may' hxl).len64
        generalize hbs : foldF ds (marks0 ds l) pre = bs at ho hfl hsn
        generalize hxv : x.val = xv at p3 hxl hsn hlr hless hl64 ⊢
        obtain ⟨g, cap, hg', _, _, _, _, g5, g6⟩ := ho.row (by omega)
        simp only [Value.slice.injEq, Option.some.injEq, Addr.mk.injEq] at hg'
        obtain ⟨⟨rfl, _⟩, hg2, hg3⟩ := hg'
        clear hg2 hg3
        have ct := g5 xv (by omega)
        have hxl' : (xv : Int) < (ds.length : Int) := by omega
        have HSN := Shut.mk hsn
        have HFL := Shut.mk hfl
        have HXV := Shut.mk hxv
        have HBS := Shut.mk hbs
        clear g5 g6 hsn hxv hbs hfl
        cases hm : bs.getD xv false with
        | false =>
          rw [hm] at ct
          have HM := Shut.mk hm
          clear hm
          gi_wp2
          exact ⟨KeepsFrom.refl _ _, KeepB.refl _ _ _, ⟨⟨hb, by rw [HSN.out]; unfold mstep; rw [if_neg (by rw [HM.out]; decide)]; exact ho, hZ⟩, hB⟩⟩
        | true =>
          rw [hm] at ct
          have HM := Shut.mk hm
          clear hm
          obtain ⟨xa, xc, hxa, z1, z2, z3⟩ := hlr.len
          rw [hxa] at p3 hlr
          clear hxa
          have hst : mstep ds bs xv = mark bs (ds.getD xv nd0).l := by unfold mstep; rw [if_pos HM.out]
          rw [hst] at HSN
          clear hst
          generalize (ds.getD xv nd0).l = xl at p3 hlr hless hl64 HSN z1
          have HLESS := Shut.mk hless
          clear hless
          have x63 : ((xl.length : Nat) : Int) ≤ 9223372036854775807 := by omega
          obtain ⟨W0, hW0⟩ : ∃ W0 : World, W0 = W := ⟨_, rfl⟩
          gi_wp2
          gi_loopw [42] (fun i wy => ∃ k : Nat, k ≤ xl.length ∧ i = .int .i64 k ∧ Blk wy w1.heap.size 60 [.slice (some ⟨w.heap.size, 0, none⟩) ds.length ds.length] ∧ OwnB w.heap.size wy (.slice (some ⟨w.heap.size, 0, none⟩) ds.length ds.length) (mark bs (xl.take k)) ∧ KeepsOthers W wy ∧ Turn (fun b => b = w.heap.size) W wy) (fun i _ => xl.length - (intOf i).toNat)
          case atStart => exact ⟨0, Nat.zero_le _, rfl, hb, ho, KeepsOthers.refl _, Turn.refl _ _⟩
          case round =>
            clear hb ho c0 ct p3
            obtain ⟨k, hk0, rfl, hb, ho, hko, hT⟩ := hrel
            have c0 := hb.cell 0
            simp only [List.getElem?_cons_zero] at c0
            have hkw : Kept w wr := Turn.keptOf hB hT (fun b hb => by rw [show b = w.heap.size from hb]; exact Nat.le_refl _)
            by_cases hlt : k < xl.length
            · obtain ⟨rb, ro, rfl, hx⟩ := hlr.at hlt
              have x1 := hx wr hkw
              clear hx
              have hyr := HLESS.out _ (getD_mem hlt)
              obtain ⟨t, ht⟩ := Int.eq_ofNat_of_zero_le hyr.1
              have hmt := mark_take bs xl k hlt
              have hml := mark_len bs (xl.take k)
              rw [HFL.out] at hml
              rw [ht] at x1 hmt
              rw [Int.toNat_natCast] at hmt
              generalize mark bs (xl.take k) = bk at ho hmt hml
              have HMT := Shut.mk hmt
              have HML := Shut.mk hml
              have htl : t < ds.length := by omega
              have htl' : (t : Int) < (ds.length : Int) := by omega
              clear hmt ht hyr
              obtain ⟨g, cap, hg', _, _, _, _, g5, g6⟩ := ho.row (by omega)
              simp only [Value.slice.injEq, Option.some.injEq, Addr.mk.injEq] at hg'
              obtain ⟨⟨rfl, _⟩, hg2, hg3⟩ := hg'
              clear hg2 hg3
              have ct := g5 t (by omega)
              have ft := g6 t
              have o2 := OwnB.put (by rw [HML.out]) ho t (by omega) true
              have hne : w1.heap.size ≠ w.heap.size := by omega
              clear g5 g6 hml
              gi_wp2
              go_roundw
              case rel => exact ⟨k + 1, hlt, rfl, hb.turn (turn_setCell _ _ _) hne, by rw [HMT.out]; exact o2, hko.trans (KeepsOthers.setCell _ _ _), hT.trans (turn_setCell _ _ _) (fun b hb => .inl hb)⟩
              case measure => simp [intOf]; omega
            · obtain rfl : k = xl.length := by omega
              rw [List.take_length] at ho
              gi_wp2
              exact ⟨hko.from _, ⟨Turn.below (Below.refl _ _) hT (fun b hb => by rw [show b = w.heap.size from hb]; exact Nat.le_refl _) hB.size, hT.block _ hZ (by omega)⟩, ⟨hb, by rw [HSN.out]; exact ho, Nat.lt_of_lt_of_le hZ hT.size⟩, hkw⟩
      case done =>
        rintro D ys W hD hS ⟨⟨hb, ho, hZ⟩, hB⟩ hK
        have c0 := hb.cell 0
        simp only [List.getElem?_cons_zero] at c0
        rw [foldF_all hS] at ho
        gi_wp2
        refine ⟨by simp, .inl ⟨_, _, rfl, run_takeDeferred hK, ?_⟩⟩
        have hD2 : ¬ D = w1.heap.size := fun e => by subst e; unfold Blk at hb; rw [hb] at hK; cases hK
        have hg2 := grownBy_putObj' W D (.deferred none)
        refine ⟨.slice (some ⟨w.heap.size, 0, none⟩) ds.length ds.length, ?_, ⟨_, rfl, Ownv.same ho fun b e => ?_, hB.trans (belowK_b (w := w) (Nat.le_refl _) _ D _ _ (by rw [hsz] at hD; have := hk.size; omega) hK rfl rfl)⟩⟩
        · simp [results, Tryd.f29, go_sem]
        · refine hg2.block b (Ownv.lt ho e).1 (fun e' => ?_)
          obtain rfl := Option.some.inj e'
          obtain ⟨c, hc⟩ := Ownv.obj ho e
          rw [hc] at hK
          cases hK

theorem within_any {V : Nat → Prop} {w : World} {vp v : Value} {ds : List Nd} {kn : List Bool} (h : IsVw V w vp ds kn) {l : List Int} (hd : RdI w v l) (hT : ∀ x ∈ l, IsT ds x) (hl : ds.length ≤ 100000) (hg : Good ds) :
    Calls Tryd.prog 29 #[vp, v] w (WithinPost w ds l) := by
  refine (callsIn_wide (n := 3)).1 ?_
  exact within_in Fence.wide 3 trivial trivial trivial rfl (by omega) h hd hT hl hg
end Go.Proofs.YtangbnmgkcmhbaaDoor
end

section
/- All rules are told: the walk of eachRule. -/
set_option linter.unusedSimpArgs false
set_option linter.unusedVariables false
namespace Go.Proofs.YtangbnmgkcmhbaaDoor
open Go.RowKit Go.Maps

set_option maxHeartbeats 16000000 in
set_option maxRecDepth 100000 in
theorem each_any {S : Nat → Prop} {w0 w : World} {x : Bx} {st : St} {nv : Value} {ds : List Nd} (h : DvS S w x st) (hk : Kept w0 w) (hS : ∀ b, b < w0.heap.size → S b) (hn : RdNs w0 nv ds) (hg : Good ds) (hl : ds.length ≤ 100000) (hF : Fit ds.length 0 st) :
    Calls Tryd.prog 70 #[nv, .func (.func 71) #[] #[.pointer (some ⟨x.xb, 0, none⟩), .pointer (some ⟨x.wb, 0, none⟩), .pointer (some ⟨x.rb, 0, none⟩)]] w (EachPost S w x ((rules ds).foldl tell st)) := by
  obtain ⟨na, ncap, rfl, n1, n2, _⟩ := hn.len
  have n63 : ((ds.length : Nat) : Int) ≤ 9223372036854775807 := by omega
  have hsg := sigs_any (hn.kept hk) hg hl
  have hFS := Shut.mk (fun k hk => fit_stK hg hF k hk)
  go_enter Tryd.func70, Tryd.ntmps70
  go_wp2_with fail
  refine hsg.mono ?_
  rintro e w1 ⟨mb, rfl, hmb, hm, k1⟩
  have d1 := h.since k1
  have hmS : SN S w w1 mb := .inr ⟨hmb, hm.lt⟩
  have HSS : Shut (∀ b, b < w0.heap.size → SN S w w1 b) := ⟨fun b hb => .inl (hS b hb)⟩
  clear hS
  go_wp2
  go_loopw [16] (fun i wr => ∃ k : Nat, k ≤ ds.length ∧ i = .int .i64 k ∧ DvS (SN S w w1) wr x (stK ds st k) ∧ Turn (fun b => ¬ SN S w w1 b) w1 wr) (fun i _ => ds.length - (intOf i).toNat)
  case atStart => exact ⟨0, Nat.zero_le _, rfl, d1, Turn.refl _ _⟩
  case round =>
    clear d1
    obtain ⟨k, hk0, rfl, hD, hT⟩ := hrel
    by_cases hlt : k < ds.length
    · have hkw : Kept w0 wr := kept_of (hk.trans k1) hT HSS.out
      obtain ⟨nb, noff, ncap', la, lc, hv, hcl, hlr⟩ := hn.at hlt
      simp only [Value.slice.injEq] at hv
      obtain ⟨rfl, _, rfl⟩ := hv
      obtain ⟨y0, y1, y2, y3⟩ := hcl wr hkw
      clear hcl
      have hr := rnd_of hg hlt
      have hfit := hFS.out k (by omega)
      have hst := stK_succ ds st k
      rw [hr.rules] at hst
      generalize hd : ds.getD k nd0 = d at y0 y1 y2 y3 hlr hr hst
      generalize stK ds st k = s0 at hD hst hfit
      have HST := Shut.mk hst
      have HR := Shut.mk hr
      have hpt := Shut.mk hr.part
      have hlen := hr.may.len64
      have hkk : 0 ≤ (k : Int) ∧ (k : Int) < (ds.length : Int) := ⟨by omega, by omega⟩
      clear hd hst hr
      obtain ⟨op, n, s, l⟩ := d
      simp only at y0 y1 y2 y3 hlr hpt hlen HST
      have HX := Shut.mk (rfl : strB s = strB s)
      generalize hX : strB s = X at y2
      have HXX := Shut.mk hX
      clear HX hX
      have HLS : Shut (∀ b, VB (.slice la l.length lc) b → SN S w w1 b ∨ wr.heap.size ≤ b) := ⟨fun b hb => .inl (HSS.out b (hlr.vb' hb))⟩
      have hcap : l.length ≤ lc := by
        obtain ⟨_, _, e, h, _⟩ := hlr.len
        simp only [Value.slice.injEq] at e
        obtain ⟨_, _, rfl⟩ := e
        exact h
      have l63 : ((l.length : Nat) : Int) ≤ 9223372036854775807 := by omega
      have HKT : Shut (∀ y ∈ [(k : Int)], 0 ≤ y ∧ y < (ds.length : Int)) := ⟨fun y hy => by rw [List.mem_singleton.1 hy]; exact hkk⟩
      by_cases o1 : op = 1
      · subst o1
        go_wp2
        go_roundw
        case rel => exact ⟨k + 1, hlt, rfl, by rw [HST.out]; exact hD.less (fun b hb => hb) hD.inS |>.more ((Kept.refl wr).alloc _) (fun b hb => ⟨.inl hb, Nat.lt_of_lt_of_le (hD.old b hb) ((Kept.refl wr).alloc _).size⟩) hD.inS, hT.kept ((Kept.refl wr).alloc _)⟩
        case measure => simp [intOf]; omega
      have b1 : (op == 1) = false := by simpa using o1
      have b1' : (op != 1) = true := by simpa using o1
      by_cases o3 : op = 3
      · subst o3
        have ka : Kept wr (wr.alloc (.cells #[.int .i64 3, .int .i64 n, .string X, .slice la l.length lc] 51)) := (Kept.refl wr).alloc _
        have kC := ka.alloc (.cells #[.int .i64 (k : Int)] 3)
        have bx := (Blk.new wr [.int .i64 3, .int .i64 n, .string X, .slice la l.length lc] 51).kept ((Kept.refl _).alloc (.cells #[.int .i64 (k : Int)] 3))
        have hc1 := tellW hD hfit (by omega) kC ⟨l, [(k : Int)]⟩ (OwnI.rd (lit1 _ (k : Int))) (fun b hb => .inr (VB.new hb ka.size)) (hlr.kept (hkw.trans kC)) HLS.out hpt.out HKT.out hlen (by simp)
        rw [alloc_size] at hc1
        go_wp2_with fail
        (with_reducible refine hc1.mono ?_)
        clear hc1
        rintro e w2 ⟨rfl, d2, t2⟩
        have hs2 : SN (SN S w w1) wr ((wr.alloc (.cells #[.int .i64 3, .int .i64 n, .string X, .slice la l.length lc] 51)).alloc (.cells #[.int .i64 (k : Int)] 3)) wr.heap.size := .inr ⟨Nat.le_refl _, by simp; omega⟩
        have bx2 := bx.turn t2 (fun c => c hs2)
        have T2 : Turn (fun b => ¬ SN S w w1 b) w1 w2 := (hT.kept kC).trans (SN.turn t2) (fun b hb => .inl hb)
        have HLS2 : Shut (∀ b, VB (.slice la l.length lc) b → SN (SN S w w1) wr ((wr.alloc (.cells #[.int .i64 3, .int .i64 n, .string X, .slice la l.length lc] 51)).alloc (.cells #[.int .i64 (k : Int)] 3)) b ∨ w2.heap.size ≤ b) := ⟨fun b hb => .inl (.inl (HSS.out b (hlr.vb' hb)))⟩
        have f2 := hfit.tell (r := ⟨l, [(k : Int)]⟩) hlen (by simp)
        clear bx t2
        generalize hS2 : SN (SN S w w1) wr ((wr.alloc (.cells #[.int .i64 3, .int .i64 n, .string X, .slice la l.length lc] 51)).alloc (.cells #[.int .i64 (k : Int)] 3)) = S2 at d2 HLS2
        have HBS : Shut (S2 wr.heap.size) := ⟨by rw [← hS2]; exact hs2⟩
        have HS2 : Shut (∀ b, SN S w w1 b → S2 b) := ⟨fun b hb => by rw [← hS2]; exact .inl hb⟩
        clear hS2 kC ka hs2
        have hkw2 : Kept w0 w2 := kept_of (hk.trans k1) T2 HSS.out
        have c0 := bx2.cell 0
        have c1 := bx2.cell 1
        have c2 := bx2.cell 2
        have c3 := bx2.cell 3
        simp only [List.getElem?_cons_succ, List.getElem?_cons_zero] at c0 c1 c2 c3
        have kE : Kept w2 (w2.alloc (.cells #[.int .i64 (k : Int)] 3)) := (Kept.refl w2).alloc _
        have hc2 := tellW d2 f2 (by omega) kE ⟨[(k : Int)], l⟩ (hlr.kept (hkw2.trans kE)) HLS2.out (OwnI.rd (lit1 _ (k : Int))) (fun b hb => .inr (VB.new hb (Nat.le_refl _))) HKT.out hpt.out (by simp) hlen
        go_wp2_with fail
        (with_reducible refine hc2.mono ?_)
        clear hc2
        rintro e w4 ⟨rfl, d4, t4⟩
        have T4 : Turn (fun b => ¬ SN S w w1 b) w1 w4 := (T2.kept kE).trans (t4.mono fun b hb hs => hb (.inl (HS2.out b hs))) (fun b hb => .inl hb)
        go_wp2
        go_roundw
        case rel => exact ⟨k + 1, hlt, rfl, by rw [HST.out]; exact d4.less (fun b hb => .inl (HS2.out b hb)) hD.inS, T4⟩
        case measure => simp [intOf]; omega
      have b3 : (op == 3) = false := by simpa using o3
      by_cases o8 : op = 8
      · subst o8
        have hl4 : l.length = 4 := HR.out.may.p4 (.inl rfl)
        obtain ⟨l0, l1, l2, l3, rfl⟩ := four_of hl4
        obtain ⟨rb, ro, rfl, hx⟩ := hlr.at (i := 0) (by simp)
        simp only [List.length_cons, List.length_nil, Nat.zero_add, Nat.reduceAdd] at y3 hlr HLS hcap hlen l63
        clear hx hl4
        have HRBS : Shut (SN S w w1 rb) := ⟨HSS.out rb (hlr.vb' ⟨ro, none, 4, lc, by decide, rfl⟩)⟩
        have hsd : ∃ o, sealedTo ds ⟨8, n, s, [l0, l1, l2, l3]⟩ = o := ⟨_, rfl⟩
        obtain ⟨o, hsd⟩ := hsd
        have HSD := Shut.mk hsd
        have ka : Kept wr (wr.alloc (.cells #[.int .i64 8, .int .i64 n, .string X, .slice (some ⟨rb, ro, none⟩) 4 lc] 51)) := (Kept.refl wr).alloc _
        have kC := ka.alloc (.cells #[.int .i64 (k : Int)] 3)
        have bx := (Blk.new wr [.int .i64 8, .int .i64 n, .string X, .slice (some ⟨rb, ro, none⟩) 4 lc] 51).kept ((Kept.refl _).alloc (.cells #[.int .i64 (k : Int)] 3))
        have hc1 := tellW hD hfit (by omega) kC ⟨[l0, l1, l2, l3], [(k : Int)]⟩ (OwnI.rd (lit1 _ (k : Int))) (fun b hb => .inr (VB.new hb ka.size)) (hlr.kept (hkw.trans kC)) HLS.out hpt.out HKT.out hlen (by simp)
        rw [alloc_size] at hc1
        go_wp2_with fail
        (with_reducible refine hc1.mono ?_)
        clear hc1
        rintro e w2 ⟨rfl, d2, t2⟩
        have hs2 : SN (SN S w w1) wr ((wr.alloc (.cells #[.int .i64 8, .int .i64 n, .string X, .slice (some ⟨rb, ro, none⟩) 4 lc] 51)).alloc (.cells #[.int .i64 (k : Int)] 3)) wr.heap.size := .inr ⟨Nat.le_refl _, by simp; omega⟩
        have bx2 := bx.turn t2 (fun c => c hs2)
        have T2 : Turn (fun b => ¬ SN S w w1 b) w1 w2 := (hT.kept kC).trans (SN.turn t2) (fun b hb => .inl hb)
        have HLS2 : Shut (∀ b, VB (.slice (some ⟨rb, ro, none⟩) 4 lc) b → SN (SN S w w1) wr ((wr.alloc (.cells #[.int .i64 8, .int .i64 n, .string X, .slice (some ⟨rb, ro, none⟩) 4 lc] 51)).alloc (.cells #[.int .i64 (k : Int)] 3)) b ∨ w2.heap.size ≤ b) := ⟨fun b hb => .inl (.inl (HSS.out b (hlr.vb' hb)))⟩
        have f2 := hfit.tell (r := ⟨[l0, l1, l2, l3], [(k : Int)]⟩) hlen (by simp)
        clear bx t2
        generalize hS2 : SN (SN S w w1) wr ((wr.alloc (.cells #[.int .i64 8, .int .i64 n, .string X, .slice (some ⟨rb, ro, none⟩) 4 lc] 51)).alloc (.cells #[.int .i64 (k : Int)] 3)) = S2 at d2 HLS2
        have HBS : Shut (S2 wr.heap.size) := ⟨by rw [← hS2]; exact hs2⟩
        have HS2 : Shut (∀ b, SN S w w1 b → S2 b) := ⟨fun b hb => by rw [← hS2]; exact .inl hb⟩
        clear hS2 kC ka hs2
        have hkw2 : Kept w0 w2 := kept_of (hk.trans k1) T2 HSS.out
        have c0 := bx2.cell 0
        have c1 := bx2.cell 1
        have c2 := bx2.cell 2
        have c3 := bx2.cell 3
        simp only [List.getElem?_cons_succ, List.getElem?_cons_zero] at c0 c1 c2 c3
        have hrn : RdN w2 (.agg #[.int .i64 8, .int .i64 n, .string X, .slice (some ⟨rb, ro, none⟩) 4 lc]) (nd ds (k : Int)) := by
          rw [HR.out.nd, ← HXX.out]
          exact ⟨_, rfl, hlr.kept hkw2⟩
        have hse := sealed_any (hn.kept hkw2) hg hl HR.out.isT hrn
        rw [HR.out.nd, hsd] at hse
        clear hrn hsd
        cases o with
        | none =>
          go_wp2_with fail
          (with_reducible refine hse.mono ?_)
          clear hse
          rintro e w3 ⟨rfl, k3⟩
          go_wp2
          go_roundw
          case rel => exact ⟨k + 1, hlt, rfl, by rw [HST.out]; unfold openRules; rw [HSD.out]; exact (d2.since k3).less (fun b hb => .inl (HS2.out b hb)) hD.inS, T2.kept k3⟩
          case measure => simp [intOf]; omega
        | some sk =>
          have hskT : 0 ≤ sk ∧ sk < (ds.length : Int) := by
            have := openRules_terms hg HR.out.isT ⟨[(k : Int), sk], [l1, l2]⟩ (by rw [HR.out.nd]; unfold openRules; rw [HSD.out]; simp)
            exact this.1 sk (by simp)
          go_wp2_with fail
          (with_reducible refine hse.mono ?_)
          clear hse
          rintro e w3 ⟨rfl, k3⟩
          have c3' := (bx2.kept k3).cell 3
          simp only [List.getElem?_cons_succ, List.getElem?_cons_zero] at c3'
          have d3 := d2.since k3
          have kE : Kept w3 (w3.alloc (.cells #[.int .i64 (k : Int), .int .i64 sk] 3)) := (Kept.refl w3).alloc _
          have T3 := T2.kept k3
          have hkw3 : Kept w0 w3 := kept_of (hk.trans k1) T3 HSS.out
          have hc2 := tellW d3 f2 (by omega) kE ⟨[(k : Int), sk], [l1, l2]⟩ (tv := .slice (some ⟨rb, ro + 1, none⟩) 2 (lc - 1)) ((hlr.sub 1 3 (by omega) (by simp)).kept (hkw3.trans kE)) (fun b hb => .inl (.inl (by rw [hb.of]; exact HS2.out _ HRBS.out))) (OwnI.rd (lit2 _ (k : Int) sk)) (fun b hb => .inr (VB.new hb (Nat.le_refl _))) (fun y hy => by
            simp only [List.mem_cons, List.not_mem_nil, or_false] at hy
            rcases hy with rfl | rfl
            · exact hkk
            · exact hskT) (fun y hy => hpt.out y (by simp only [List.mem_cons, List.not_mem_nil, or_false] at hy ⊢; rcases hy with rfl | rfl <;> simp)) (by simp) (by simp)
          have HE : Shut (openRules ds (k : Int) ⟨8, n, s, [l0, l1, l2, l3]⟩ = [⟨[(k : Int), sk], [l1, l2]⟩]) := ⟨by unfold openRules; rw [HSD.out]; rfl⟩
          clear HSD
          go_wp2_with fail
          (with_reducible refine hc2.mono ?_)
          clear hc2
          rintro e w4 ⟨rfl, d4, t4⟩
          have T4 : Turn (fun b => ¬ SN S w w1 b) w1 w4 := (T3.kept kE).trans (t4.mono fun b hb hs => hb (.inl (.inl (HS2.out b hs)))) (fun b hb => .inl hb)
          go_wp2
          go_roundw
          case rel => exact ⟨k + 1, hlt, rfl, by rw [HST.out, HE.out]; exact d4.less (fun b hb => .inl (.inl (HS2.out b hb))) hD.inS, T4⟩
          case measure => simp [intOf]; omega
      have b8 : (op == 8) = false := by simpa using o8
      by_cases o9 : op = 9
      · subst o9
        have hl4 : l.length = 4 := HR.out.may.p4 (.inr rfl)
        obtain ⟨l0, l1, l2, l3, rfl⟩ := four_of hl4
        obtain ⟨rb, ro, rfl, hx⟩ := hlr.at (i := 0) (by simp)
        simp only [List.length_cons, List.length_nil, Nat.zero_add, Nat.reduceAdd] at y3 hlr HLS hcap hlen l63
        have HX := Shut.mk hx
        clear hx hl4
        have HRBS : Shut (SN S w w1 rb) := ⟨HSS.out rb (hlr.vb' ⟨ro, none, 4, lc, by decide, rfl⟩)⟩
        have ka : Kept wr (wr.alloc (.cells #[.int .i64 9, .int .i64 n, .string X, .slice (some ⟨rb, ro, none⟩) 4 lc] 51)) := (Kept.refl wr).alloc _
        have kC := ka.alloc (.cells #[.int .i64 (k : Int)] 3)
        have bx := (Blk.new wr [.int .i64 9, .int .i64 n, .string X, .slice (some ⟨rb, ro, none⟩) 4 lc] 51).kept ((Kept.refl _).alloc (.cells #[.int .i64 (k : Int)] 3))
        have hc1 := tellW hD hfit (by omega) kC ⟨[l0, l1, l2, l3], [(k : Int)]⟩ (OwnI.rd (lit1 _ (k : Int))) (fun b hb => .inr (VB.new hb ka.size)) (hlr.kept (hkw.trans kC)) HLS.out hpt.out HKT.out hlen (by simp)
        rw [alloc_size] at hc1
        go_wp2_with fail
        (with_reducible refine hc1.mono ?_)
        clear hc1
        rintro e w2 ⟨rfl, d2, t2⟩
        have hs2 : SN (SN S w w1) wr ((wr.alloc (.cells #[.int .i64 9, .int .i64 n, .string X, .slice (some ⟨rb, ro, none⟩) 4 lc] 51)).alloc (.cells #[.int .i64 (k : Int)] 3)) wr.heap.size := .inr ⟨Nat.le_refl _, by simp; omega⟩
        have bx2 := bx.turn t2 (fun c => c hs2)
        have T2 : Turn (fun b => ¬ SN S w w1 b) w1 w2 := (hT.kept kC).trans (SN.turn t2) (fun b hb => .inl hb)
        have HLS2 : Shut (∀ b, VB (.slice (some ⟨rb, ro, none⟩) 4 lc) b → SN (SN S w w1) wr ((wr.alloc (.cells #[.int .i64 9, .int .i64 n, .string X, .slice (some ⟨rb, ro, none⟩) 4 lc] 51)).alloc (.cells #[.int .i64 (k : Int)] 3)) b ∨ w2.heap.size ≤ b) := ⟨fun b hb => .inl (.inl (HSS.out b (hlr.vb' hb)))⟩
        have f2 := hfit.tell (r := ⟨[l0, l1, l2, l3], [(k : Int)]⟩) hlen (by simp)
        clear bx t2
        generalize hS2 : SN (SN S w w1) wr ((wr.alloc (.cells #[.int .i64 9, .int .i64 n, .string X, .slice (some ⟨rb, ro, none⟩) 4 lc] 51)).alloc (.cells #[.int .i64 (k : Int)] 3)) = S2 at d2 HLS2
        have HBS : Shut (S2 wr.heap.size) := ⟨by rw [← hS2]; exact hs2⟩
        have HS2 : Shut (∀ b, SN S w w1 b → S2 b) := ⟨fun b hb => by rw [← hS2]; exact .inl hb⟩
        clear hS2 kC ka hs2
        have hkw2 : Kept w0 w2 := kept_of (hk.trans k1) T2 HSS.out
        have c0 := bx2.cell 0
        have c1 := bx2.cell 1
        have c2 := bx2.cell 2
        have c3 := bx2.cell 3
        simp only [List.getElem?_cons_succ, List.getElem?_cons_zero] at c0 c1 c2 c3
        have x0 : w2.cell? ⟨rb, ro, none⟩ = some (.int .i64 l0) := HX.out w2 hkw2
        have kL : Kept w2 (w2.alloc (.cells #[.int .i64 (k : Int), .int .i64 l0] 3)) := (Kept.refl w2).alloc _
        have hc2 : ∀ W, Kept (w2.alloc (.cells #[.int .i64 (k : Int), .int .i64 l0] 3)) W → Calls Tryd.prog 71 #[.slice (some ⟨rb, ro + 1, none⟩) 3 (lc - 1), .slice (some ⟨w2.heap.size, 0, none⟩) 2 2, .pointer (some ⟨x.xb, 0, none⟩), .pointer (some ⟨x.wb, 0, none⟩), .pointer (some ⟨x.rb, 0, none⟩)] W (TellWPost S2 w2 W x (tell (tell s0 ⟨[l0, l1, l2, l3], [(k : Int)]⟩) ⟨[(k : Int), l0], [l1, l2, l3]⟩)) := fun W kW =>
          tellW d2 f2 (by omega) (kL.trans kW) ⟨[(k : Int), l0], [l1, l2, l3]⟩ ((hlr.sub 1 4 (by omega) (by simp)).kept (hkw2.trans (kL.trans kW))) (fun b hb => .inl (by rw [hb.of]; exact HS2.out _ HRBS.out)) (RdI.kept (OwnI.rd (lit2 w2 (k : Int) l0)) kW) (fun b hb => .inr (VB.new hb (Nat.le_refl _))) (fun y hy => by
            simp only [List.mem_cons, List.not_mem_nil, or_false] at hy
            rcases hy with rfl | rfl
            · exact hkk
            · exact hpt.out _ (by simp)) (fun y hy => hpt.out y (by simp only [List.mem_cons, List.not_mem_nil, or_false] at hy ⊢; rcases hy with rfl | rfl | rfl <;> simp)) (by simp) (by simp)
        have hlc1 : (lc = 1) = False := eq_false (by omega)
        have hlcI : (1 : Int) ≤ (lc : Int) := by omega
        have hlcN : 1 ≤ lc := by omega
        have hold2 : ∀ b, S2 b → b < w2.heap.size := fun b hb => d2.old b hb
        have hbS : S2 wr.heap.size := HBS.out
        have hrS : S2 rb := HS2.out _ HRBS.out
        have HOLD := Shut.mk hold2
        clear hold2
        go_wp2_with fail
        go_region_held3 (fun w' => w'.cell? ⟨wr.heap.size, 3, none⟩ = some (.slice (some ⟨rb, ro, none⟩) 4 lc) ∧ w'.cell? ⟨rb, ro, none⟩ = some (.int .i64 l0))
          (first | exact ⟨c3, x0⟩ | assumption | go_keep)
          ((go_at_call 71; (with_reducible refine (hc2 _ (by first | exact Kept.refl _ | exact (Kept.refl _).drew | exact (Kept.refl _).drewN _)).mono ?_); rintro e w4 ⟨rfl, d4, t4⟩; have k4 := (by first | exact kL | exact kL.drew | exact kL.drewN _ : Kept w2 _).turn (fun b => ¬ S2 b) |>.trans (SN.turn t4) (fun b hb => .inl hb); have s4 : w4.cell? ⟨wr.heap.size, 3, none⟩ = some (.slice (some ⟨rb, ro, none⟩) 4 lc) ∧ w4.cell? ⟨rb, ro, none⟩ = some (.int .i64 l0) := ⟨(World.cell?_of_block (k4.block _ (HOLD.out _ hbS) (fun c => c hbS))).trans c3, (World.cell?_of_block (k4.block _ (HOLD.out _ hrS) (fun c => c hrS))).trans x0⟩))
        all_goals
          have T4 : Turn (fun b => ¬ SN S w w1 b) w1 w4 := T2.trans (k4.mono fun b hb hs => hb (HS2.out b hs)) (fun b hb => .inl hb)
          go_wp2
          go_roundw
          case rel => exact ⟨k + 1, hlt, rfl, by rw [HST.out]; exact d4.less (fun b hb => .inl (HS2.out b hb)) hD.inS, T4⟩
          case measure => simp [intOf]; omega
      have b9 : (op == 9) = false := by simpa using o9
      by_cases o12 : op = 12
      · subst o12
        have hl4 : l.length = 2 := HR.out.may.p2 (.inr rfl)
        obtain ⟨l0, l1, rfl⟩ := two_of hl4
        obtain ⟨rb, ro, rfl, hx⟩ := hlr.at (i := 1) (by simp)
        simp only [List.length_cons, List.length_nil, Nat.zero_add, Nat.reduceAdd] at y3 hlr HLS hcap hlen l63
        have HX := Shut.mk hx
        clear hx hl4
        have HRBS : Shut (SN S w w1 rb) := ⟨HSS.out rb (hlr.vb' ⟨ro, none, 2, lc, by decide, rfl⟩)⟩
        have ka : Kept wr (wr.alloc (.cells #[.int .i64 12, .int .i64 n, .string X, .slice (some ⟨rb, ro, none⟩) 2 lc] 51)) := (Kept.refl wr).alloc _
        have kC := ka.alloc (.cells #[.int .i64 (k : Int)] 3)
        have bx := (Blk.new wr [.int .i64 12, .int .i64 n, .string X, .slice (some ⟨rb, ro, none⟩) 2 lc] 51).kept ((Kept.refl _).alloc (.cells #[.int .i64 (k : Int)] 3))
        have hc1 := tellW hD hfit (by omega) kC ⟨[l0, l1], [(k : Int)]⟩ (OwnI.rd (lit1 _ (k : Int))) (fun b hb => .inr (VB.new hb ka.size)) (hlr.kept (hkw.trans kC)) HLS.out hpt.out HKT.out hlen (by simp)
        rw [alloc_size] at hc1
        go_wp2_with fail
        (with_reducible refine hc1.mono ?_)
        clear hc1
        rintro e w2 ⟨rfl, d2, t2⟩
        have hs2 : SN (SN S w w1) wr ((wr.alloc (.cells #[.int .i64 12, .int .i64 n, .string X, .slice (some ⟨rb, ro, none⟩) 2 lc] 51)).alloc (.cells #[.int .i64 (k : Int)] 3)) wr.heap.size := .inr ⟨Nat.le_refl _, by simp; omega⟩
        have bx2 := bx.turn t2 (fun c => c hs2)
        have T2 : Turn (fun b => ¬ SN S w w1 b) w1 w2 := (hT.kept kC).trans (SN.turn t2) (fun b hb => .inl hb)
        have HLS2 : Shut (∀ b, VB (.slice (some ⟨rb, ro, none⟩) 2 lc) b → SN (SN S w w1) wr ((wr.alloc (.cells #[.int .i64 12, .int .i64 n, .string X, .slice (some ⟨rb, ro, none⟩) 2 lc] 51)).alloc (.cells #[.int .i64 (k : Int)] 3)) b ∨ w2.heap.size ≤ b) := ⟨fun b hb => .inl (.inl (HSS.out b (hlr.vb' hb)))⟩
        have f2 := hfit.tell (r := ⟨[l0, l1], [(k : Int)]⟩) hlen (by simp)
        clear bx t2
        generalize hS2 : SN (SN S w w1) wr ((wr.alloc (.cells #[.int .i64 12, .int .i64 n, .string X, .slice (some ⟨rb, ro, none⟩) 2 lc] 51)).alloc (.cells #[.int .i64 (k : Int)] 3)) = S2 at d2 HLS2
        have HBS : Shut (S2 wr.heap.size) := ⟨by rw [← hS2]; exact hs2⟩
        have HS2 : Shut (∀ b, SN S w w1 b → S2 b) := ⟨fun b hb => by rw [← hS2]; exact .inl hb⟩
        clear hS2 kC ka hs2
        have hkw2 : Kept w0 w2 := kept_of (hk.trans k1) T2 HSS.out
        have c0 := bx2.cell 0
        have c1 := bx2.cell 1
        have c2 := bx2.cell 2
        have c3 := bx2.cell 3
        simp only [List.getElem?_cons_succ, List.getElem?_cons_zero] at c0 c1 c2 c3
        have x0 : w2.cell? ⟨rb, ro + 1, none⟩ = some (.int .i64 l1) := HX.out w2 hkw2
        have kL : Kept w2 (w2.alloc (.cells #[.int .i64 (k : Int), .int .i64 l1] 3)) := (Kept.refl w2).alloc _
        have hc2 : ∀ W, Kept (w2.alloc (.cells #[.int .i64 (k : Int), .int .i64 l1] 3)) W → Calls Tryd.prog 71 #[.slice (some ⟨rb, ro, none⟩) 1 lc, .slice (some ⟨w2.heap.size, 0, none⟩) 2 2, .pointer (some ⟨x.xb, 0, none⟩), .pointer (some ⟨x.wb, 0, none⟩), .pointer (some ⟨x.rb, 0, none⟩)] W (TellWPost S2 w2 W x (tell (tell s0 ⟨[l0, l1], [(k : Int)]⟩) ⟨[(k : Int), l1], [l0]⟩)) := fun W kW =>
          tellW d2 f2 (by omega) (kL.trans kW) ⟨[(k : Int), l1], [l0]⟩ ((hlr.sub 0 1 (by omega) (by simp)).kept (hkw2.trans (kL.trans kW))) (fun b hb => .inl (by rw [hb.of]; exact HS2.out _ HRBS.out)) (RdI.kept (OwnI.rd (lit2 w2 (k : Int) l1)) kW) (fun b hb => .inr (VB.new hb (Nat.le_refl _))) (fun y hy => by
            simp only [List.mem_cons, List.not_mem_nil, or_false] at hy
            rcases hy with rfl | rfl
            · exact hkk
            · exact hpt.out _ (by simp)) (fun y hy => hpt.out y (by simp only [List.mem_cons, List.not_mem_nil, or_false] at hy ⊢; rcases hy with rfl <;> simp)) (by simp) (by simp)
        have hlc1 : (lc = 1) = False := eq_false (by omega)
        have hlcI : (1 : Int) ≤ (lc : Int) := by omega
        have hlcN : 1 ≤ lc := by omega
        have hold2 : ∀ b, S2 b → b < w2.heap.size := fun b hb => d2.old b hb
        have hbS : S2 wr.heap.size := HBS.out
        have hrS : S2 rb := HS2.out _ HRBS.out
        have HOLD := Shut.mk hold2
        clear hold2
        go_wp2_with fail
        go_region_held3 (fun w' => w'.cell? ⟨wr.heap.size, 3, none⟩ = some (.slice (some ⟨rb, ro, none⟩) 2 lc) ∧ w'.cell? ⟨rb, ro + 1, none⟩ = some (.int .i64 l1))
          (first | exact ⟨c3, x0⟩ | assumption | go_keep)
          ((go_at_call 71; (with_reducible refine (hc2 _ (by first | exact Kept.refl _ | exact (Kept.refl _).drew | exact (Kept.refl _).drewN _)).mono ?_); rintro e w4 ⟨rfl, d4, t4⟩; have k4 := (by first | exact kL | exact kL.drew | exact kL.drewN _ : Kept w2 _).turn (fun b => ¬ S2 b) |>.trans (SN.turn t4) (fun b hb => .inl hb); have s4 : w4.cell? ⟨wr.heap.size, 3, none⟩ = some (.slice (some ⟨rb, ro, none⟩) 2 lc) ∧ w4.cell? ⟨rb, ro + 1, none⟩ = some (.int .i64 l1) := ⟨(World.cell?_of_block (k4.block _ (HOLD.out _ hbS) (fun c => c hbS))).trans c3, (World.cell?_of_block (k4.block _ (HOLD.out _ hrS) (fun c => c hrS))).trans x0⟩))
        all_goals
          have T4 : Turn (fun b => ¬ SN S w w1 b) w1 w4 := T2.trans (k4.mono fun b hb hs => hb (HS2.out b hs)) (fun b hb => .inl hb)
          go_wp2
          go_roundw
          case rel => exact ⟨k + 1, hlt, rfl, by rw [HST.out]; exact d4.less (fun b hb => .inl (HS2.out b hb)) hD.inS, T4⟩
          case measure => simp [intOf]; omega
      have b12 : (op == 12) = false := by simpa using o12
      by_cases o10 : op = 10
      · subst o10
        have hl4 : l.length = 2 := HR.out.may.p2 (.inl rfl)
        obtain ⟨l0, l1, rfl⟩ := two_of hl4
        obtain ⟨rb, ro, hla, hx⟩ := hlr.at (i := 0) (by simp)
        obtain ⟨rb', ro', hla', hx1⟩ := hlr.at (i := 1) (by simp)
        subst hla
        simp only [Option.some.injEq, Addr.mk.injEq, and_true] at hla'
        obtain ⟨rfl, rfl⟩ := hla'
        simp only [List.length_cons, List.length_nil, Nat.zero_add, Nat.reduceAdd] at y3 hlr HLS hcap hlen l63
        have HX := Shut.mk hx
        have HX1 := Shut.mk hx1
        clear hx hx1 hl4
        have HRBS : Shut (SN S w w1 rb) := ⟨HSS.out rb (hlr.vb' ⟨ro, none, 2, lc, by decide, rfl⟩)⟩
        have hmT : IsT ds l1 := hpt.out l1 (by simp)
        have h0T : IsT ds l0 := hpt.out l0 (by simp)
        obtain ⟨km, nb', noff', ncap', ma, mc, rfl, hkm, hnv, hcl', hmr⟩ := hn.atT hmT
        simp only [Value.slice.injEq, Option.some.injEq, Addr.mk.injEq, and_true, true_and] at hnv
        obtain ⟨⟨rfl, rfl⟩, rfl⟩ := hnv
        have HMM := Shut.mk (hg.mayT hmT)
        have HMP := Shut.mk (hg.partT hmT)
        generalize hmd : nd ds (km : Int) = md at hcl' hmr HMM HMP
        have HMD := Shut.mk hmd
        clear hmd
        obtain ⟨mop, mn, msx, ml⟩ := md
        simp only at hcl' hmr HMM HMP
        have HCL := Shut.mk hcl'
        clear hcl'
        have ka : Kept wr (wr.alloc (.cells #[.int .i64 10, .int .i64 n, .string X, .slice (some ⟨rb, ro, none⟩) 2 lc] 51)) := (Kept.refl wr).alloc _
        have kC := ka.alloc (.cells #[.int .i64 (k : Int)] 3)
        have bx := (Blk.new wr [.int .i64 10, .int .i64 n, .string X, .slice (some ⟨rb, ro, none⟩) 2 lc] 51).kept ((Kept.refl _).alloc (.cells #[.int .i64 (k : Int)] 3))
        have hc1 := tellW hD hfit (by omega) kC ⟨[l0, (km : Int)], [(k : Int)]⟩ (OwnI.rd (lit1 _ (k : Int))) (fun b hb => .inr (VB.new hb ka.size)) (hlr.kept (hkw.trans kC)) HLS.out hpt.out HKT.out hlen (by simp)
        rw [alloc_size] at hc1
        go_wp2_with fail
        (with_reducible refine hc1.mono ?_)
        clear hc1
        rintro e w2 ⟨rfl, d2, t2⟩
        have hs2 : SN (SN S w w1) wr ((wr.alloc (.cells #[.int .i64 10, .int .i64 n, .string X, .slice (some ⟨rb, ro, none⟩) 2 lc] 51)).alloc (.cells #[.int .i64 (k : Int)] 3)) wr.heap.size := .inr ⟨Nat.le_refl _, by simp; omega⟩
        have bx2 := bx.turn t2 (fun c => c hs2)
        have T2 : Turn (fun b => ¬ SN S w w1 b) w1 w2 := (hT.kept kC).trans (SN.turn t2) (fun b hb => .inl hb)
        have HLS2 : Shut (∀ b, VB (.slice (some ⟨rb, ro, none⟩) 2 lc) b → SN (SN S w w1) wr ((wr.alloc (.cells #[.int .i64 10, .int .i64 n, .string X, .slice (some ⟨rb, ro, none⟩) 2 lc] 51)).alloc (.cells #[.int .i64 (k : Int)] 3)) b ∨ w2.heap.size ≤ b) := ⟨fun b hb => .inl (.inl (HSS.out b (hlr.vb' hb)))⟩
        have f2 := hfit.tell (r := ⟨[l0, (km : Int)], [(k : Int)]⟩) hlen (by simp)
        clear bx t2
        generalize hS2 : SN (SN S w w1) wr ((wr.alloc (.cells #[.int .i64 10, .int .i64 n, .string X, .slice (some ⟨rb, ro, none⟩) 2 lc] 51)).alloc (.cells #[.int .i64 (k : Int)] 3)) = S2 at d2 HLS2
        have HBS : Shut (S2 wr.heap.size) := ⟨by rw [← hS2]; exact hs2⟩
        have HS2 : Shut (∀ b, SN S w w1 b → S2 b) := ⟨fun b hb => by rw [← hS2]; exact .inl hb⟩
        clear hS2 kC ka hs2
        have hkw2 : Kept w0 w2 := kept_of (hk.trans k1) T2 HSS.out
        have c0 := bx2.cell 0
        have c1 := bx2.cell 1
        have c2 := bx2.cell 2
        have c3 := bx2.cell 3
        simp only [List.getElem?_cons_succ, List.getElem?_cons_zero] at c0 c1 c2 c3
        have kE : Kept w2 (w2.alloc (.cells #[.int .i64 (k : Int)] 3)) := (Kept.refl w2).alloc _
        have hc2 := tellW d2 f2 (by omega) kE ⟨[(k : Int)], [(km : Int)]⟩ (tv := .slice (some ⟨rb, ro + 1, none⟩) 1 (lc - 1)) ((hlr.sub 1 2 (by omega) (by simp)).kept (hkw2.trans kE)) (fun b hb => .inl (by rw [hb.of]; exact HS2.out _ HRBS.out)) (OwnI.rd (lit1 _ (k : Int))) (fun b hb => .inr (VB.new hb (Nat.le_refl _))) HKT.out (fun y hy => hpt.out y (by simp only [List.mem_cons, List.not_mem_nil, or_false] at hy ⊢; exact .inr hy)) (by simp) (by simp)
        have f4 := f2.tell (r := ⟨[(k : Int)], [(km : Int)]⟩) (by simp) (by simp)
        have hlc1 : (lc = 1) = False := eq_false (by omega)
        go_wp2_with fail
        (with_reducible refine hc2.mono ?_)
        clear hc2
        rintro e w4 ⟨rfl, d4, t4⟩
        have T4 : Turn (fun b => ¬ SN S w w1 b) w1 w4 := (T2.kept kE).trans (t4.mono fun b hb hs => hb (.inl (HS2.out b hs))) (fun b hb => .inl hb)
        have bx4 := (bx2.kept kE).turn t4 (fun c => c (.inl HBS.out))
        have hkw4 : Kept w0 w4 := kept_of (hk.trans k1) T4 HSS.out
        have HS4 : Shut (∀ b, SN S w w1 b → SN S2 w2 (w2.alloc (.cells #[.int .i64 (k : Int)] 3)) b) := ⟨fun b hb => .inl (HS2.out b hb)⟩
        generalize SN S2 w2 (w2.alloc (.cells #[.int .i64 (k : Int)] 3)) = S4 at d4 t4 HS4
        have hm4 := hm.turn T4 (fun c => c hmS)
        clear bx2 d2 t4 c0 c1 c2 c3 kE T2 HLS2 HS2 HBS f2
        have c0 := bx4.cell 0
        have c3 := bx4.cell 3
        simp only [List.getElem?_cons_succ, List.getElem?_cons_zero] at c0 c3
        obtain ⟨q0, q1, q2, q3⟩ := HCL.out w4 hkw4
        have hkm' : (km : Int) < (ds.length : Int) := by omega
        have x1 : w4.cell? ⟨rb, ro + 1, none⟩ = some (.int .i64 (km : Int)) := HX1.out w4 hkw4
        generalize strB msx = Y at q2
        have ka4 : Kept w4 (w4.alloc (.cells #[.int .i64 mop, .int .i64 mn, .string Y, .slice ma ml.length mc] 51)) := (Kept.refl w4).alloc _
        by_cases m12 : mop = 12
        · subst m12
          have hm2 : ml.length = 2 := HMM.out.p2 (.inr rfl)
          obtain ⟨m0, m1, rfl⟩ := two_of hm2
          obtain ⟨sb, so, hma, hz⟩ := hmr.at (i := 0) (by simp)
          obtain ⟨sb', so', hma', hz1⟩ := hmr.at (i := 1) (by simp)
          subst hma
          simp only [Option.some.injEq, Addr.mk.injEq, and_true] at hma'
          obtain ⟨rfl, rfl⟩ := hma'
          simp only [List.length_cons, List.length_nil, Nat.zero_add, Nat.reduceAdd] at q3 hmr ka4
          have hm0T : IsT ds m0 := HMP.out m0 (by simp)
          have hm1T : IsT ds m1 := HMP.out m1 (by simp)
          have bm := Blk.new w4 [.int .i64 12, .int .i64 mn, .string Y, .slice (some ⟨sb, so, none⟩) 2 mc] 51
          have c3' := (bx4.kept ka4).cell 3
          have b0 := bm.cell 0
          have b3 := bm.cell 3
          simp only [List.getElem?_cons_succ, List.getElem?_cons_zero] at c3' b0 b3
          have z0 := hz _ (hkw4.trans ka4)
          have z1 := hz1 _ (hkw4.trans ka4)
          have x0 := HX.out _ (hkw4.trans ka4)
          have hm5 := hm4.kept ka4
          have d5 := d4.since ka4
          have T5 := T4.kept ka4
          have hkw5 := hkw4.trans ka4
          simp only [Nat.add_zero] at z0 x0
          have i64T : ∀ y, IsT ds y → I64 y := fun y hy => ⟨by have := hy.1; omega, by have := hy.2; omega⟩
          obtain ⟨c, hlook, hcs⟩ := hm5.look hg hl (i64T l0 h0T) (i64T m0 hm0T)
          clear i64T hz hz1 hm2
          have HCS := Shut.mk hcs
          clear hcs
          have HE : Shut (openRules ds (k : Int) ⟨10, n, s, [l0, (km : Int)]⟩ = ⟨[(k : Int)], [(km : Int)]⟩ :: (match sigAt ds l0 m0 with | some s => [⟨[(k : Int), m1], [s]⟩] | none => [])) := ⟨by
            unfold openRules
            simp only [List.getD_cons_zero, List.getD_cons_succ, HMD.out]
            rfl⟩
          go_upto_region 21 with fail
          generalize hW5 : w4.alloc (.cells #[.int .i64 12, .int .i64 mn, .string Y, .slice (some ⟨sb, so, none⟩) 2 mc] 51) = w5 at bm c3' b0 b3 z0 z1 x0 hm5 d5 T5 hkw5 hlook ⊢
          cases hsg2 : sigAt ds l0 m0 with
          | none =>
            rw [hsg2] at hlook HE
            simp only [Option.isSome_none] at hlook
            clear hsg2 HCS
            go_quiet (fail)
            go_wp2
            go_roundw
            case rel => exact ⟨k + 1, hlt, rfl, by rw [HST.out, HE.out]; exact (d5.since ((Kept.refl _).drewN _)).less (fun b hb => .inl (.inl (HS4.out b hb))) hD.inS, T5.kept ((Kept.refl _).drewN _)⟩
            case measure => simp [intOf]; omega
          | some sg =>
            rw [hsg2] at hlook HE
            simp only [Option.isSome_some] at hlook
            obtain rfl := HCS.out sg hsg2
            have hcT := (sig_some hsg2).1
            clear hsg2 HCS
            go_quiet (fail)
            have kq : Kept w5 (w5.drewN nq) := (Kept.refl _).drewN _
            have e3 := kq.cell (p := ⟨w4.heap.size, 3, none⟩) (World.block_lt_of_cell? _ _ b3) |>.trans b3
            have e1 := kq.cell (p := ⟨sb, so + 1, none⟩) (World.block_lt_of_cell? _ _ z1) |>.trans z1
            generalize w5.drewN nq = w6 at kq e3 e1 ⊢
            have e3' := ((Kept.refl w6).alloc (.cells #[.int .i64 c] 3)).cell (p := ⟨w4.heap.size, 3, none⟩) (World.block_lt_of_cell? _ _ e3) |>.trans e3
            have e1' := ((Kept.refl w6).alloc (.cells #[.int .i64 c] 3)).cell (p := ⟨sb, so + 1, none⟩) (World.block_lt_of_cell? _ _ e1) |>.trans e1
            have kW := (kq.alloc (.cells #[.int .i64 c] 3)).alloc (.cells #[.int .i64 (k : Int), .int .i64 m1] 3)
            have hc3 := tellW d5 f4 (by omega) kW ⟨[(k : Int), m1], [c]⟩ ((OwnI.rd (lit1 w6 c)).kept ((Kept.refl _).alloc (.cells #[.int .i64 (k : Int), .int .i64 m1] 3))) (fun b hb => .inr (VB.new hb kq.size)) (OwnI.rd (lit2 (w6.alloc (.cells #[.int .i64 c] 3)) (k : Int) m1)) (fun b hb => .inr (VB.new hb (kq.alloc _).size)) (fun y hy => by
              simp only [List.mem_cons, List.not_mem_nil, or_false] at hy
              rcases hy with rfl | rfl
              · exact hkk
              · exact hm1T) (fun y hy => by rw [List.mem_singleton.1 hy]; exact hcT) (by simp) (by simp)
            rw [alloc_size] at hc3
            clear b0 b3 z0 z1 x0 c3' hlook bm
            go_wp2_with fail
            (with_reducible refine hc3.mono ?_)
            clear hc3
            rintro e w7 ⟨rfl, d7, t7⟩
            have T7 : Turn (fun b => ¬ SN S w w1 b) w1 w7 := (T5.kept kW).trans (t7.mono fun b hb hs => hb (.inl (.inl (HS4.out b hs)))) (fun b hb => .inl hb)
            go_wp2
            go_roundw
            case rel => exact ⟨k + 1, hlt, rfl, by rw [HST.out, HE.out]; exact d7.less (fun b hb => .inl (.inl (HS4.out b hb))) hD.inS, T7⟩
            case measure => simp [intOf]; omega
        · have hb1 : (mop == 12) = false := by simpa using m12
          have hb2 : (mop != 12) = true := by simpa using m12
          have HE : Shut (openRules ds (k : Int) ⟨10, n, s, [l0, (km : Int)]⟩ = [⟨[(k : Int)], [(km : Int)]⟩]) := ⟨by
            unfold openRules
            simp only [List.getD_cons_zero, List.getD_cons_succ, HMD.out, m12, if_false]
            rfl⟩
          clear m12
          go_wp2
          go_roundw
          case rel => exact ⟨k + 1, hlt, rfl, by rw [HST.out, HE.out]; exact (d4.since ka4).less (fun b hb => .inl (HS4.out b hb)) hD.inS, T4.kept ka4⟩
          case measure => simp [intOf]; omega
      have b10 : (op == 10) = false := by simpa using o10
      have ka : Kept wr (wr.alloc (.cells #[.int .i64 op, .int .i64 n, .string X, .slice la l.length lc] 51)) := (Kept.refl wr).alloc _
      have kC := ka.alloc (.cells #[.int .i64 (k : Int)] 3)
      have bx := (Blk.new wr [.int .i64 op, .int .i64 n, .string X, .slice la l.length lc] 51).kept ((Kept.refl _).alloc (.cells #[.int .i64 (k : Int)] 3))
      have hc1 := tellW hD hfit (by omega) kC ⟨l, [(k : Int)]⟩ (OwnI.rd (lit1 _ (k : Int))) (fun b hb => .inr (VB.new hb ka.size)) (hlr.kept (hkw.trans kC)) HLS.out hpt.out HKT.out hlen (by simp)
      rw [alloc_size] at hc1
      go_wp2_with fail
      (with_reducible refine hc1.mono ?_)
      clear hc1
      rintro e w2 ⟨rfl, d2, t2⟩
      have hs2 : SN (SN S w w1) wr ((wr.alloc (.cells #[.int .i64 op, .int .i64 n, .string X, .slice la l.length lc] 51)).alloc (.cells #[.int .i64 (k : Int)] 3)) wr.heap.size := .inr ⟨Nat.le_refl _, by simp; omega⟩
      have bx2 := bx.turn t2 (fun c => c hs2)
      have T2 : Turn (fun b => ¬ SN S w w1 b) w1 w2 := (hT.kept kC).trans (SN.turn t2) (fun b hb => .inl hb)
      have HLS2 : Shut (∀ b, VB (.slice la l.length lc) b → SN (SN S w w1) wr ((wr.alloc (.cells #[.int .i64 op, .int .i64 n, .string X, .slice la l.length lc] 51)).alloc (.cells #[.int .i64 (k : Int)] 3)) b ∨ w2.heap.size ≤ b) := ⟨fun b hb => .inl (.inl (HSS.out b (hlr.vb' hb)))⟩
      have f2 := hfit.tell (r := ⟨l, [(k : Int)]⟩) hlen (by simp)
      clear bx t2
      generalize hS2 : SN (SN S w w1) wr ((wr.alloc (.cells #[.int .i64 op, .int .i64 n, .string X, .slice la l.length lc] 51)).alloc (.cells #[.int .i64 (k : Int)] 3)) = S2 at d2 HLS2
      have HBS : Shut (S2 wr.heap.size) := ⟨by rw [← hS2]; exact hs2⟩
      have HS2 : Shut (∀ b, SN S w w1 b → S2 b) := ⟨fun b hb => by rw [← hS2]; exact .inl hb⟩
      clear hS2 kC ka hs2
      have hkw2 : Kept w0 w2 := kept_of (hk.trans k1) T2 HSS.out
      have c0 := bx2.cell 0
      have c1 := bx2.cell 1
      have c2 := bx2.cell 2
      have c3 := bx2.cell 3
      simp only [List.getElem?_cons_succ, List.getElem?_cons_zero] at c0 c1 c2 c3
      have HE : Shut (openRules ds (k : Int) ⟨op, n, s, l⟩ = []) := ⟨by unfold openRules; rw [if_neg o3, if_neg o8, if_neg o9, if_neg o12, if_neg o10]⟩
      have H1 := Shut.mk o1
      clear o1 o3 o8 o9 o10 o12
      go_wp2
      go_roundw
      case rel => exact ⟨k + 1, hlt, rfl, by rw [HST.out, HE.out, if_neg H1.out]; exact d2.less HS2.out hD.inS, T2⟩
      case measure => simp [intOf]; omega
    · obtain rfl : k = ds.length := by omega
      go_wp2
      go_end0
      exact ⟨rfl, by rw [← stK_all]; exact hD.less (fun b hb => .inl hb) h.inS, (k1.turn _).trans (SN.turn hT) (fun b hb => .inl hb)⟩
end Go.Proofs.YtangbnmgkcmhbaaDoor
end

section
/- What can be derived: the walk of derived. -/
set_option linter.unusedSimpArgs false
set_option linter.unusedVariables false
namespace Go.Proofs.YtangbnmgkcmhbaaDoor
open Go.RowKit Go.Maps

def DerivedPost (w : World) (ds : List Nd) (l : List Int) (e : Ending) (w' : World) : Prop :=
  ∃ kv bs, e = .returned kv ∧ OwnB w.heap.size w' kv bs ∧ bs.length = ds.length ∧ (∀ t : Nat, t < ds.length → (bs.getD t false = true ↔ Der ds l (t : Int))) ∧ Kept w w'

theorem DvW.ruleNe {FW S : Nat → Prop} {w : World} {x : Bx} {st : St} (h : DvW FW S w x st) {g cap : Nat} (hc : w.cell? ⟨x.rb, 0, none⟩ = some (.slice (some ⟨g, 0, none⟩) st.rs.length cap)) : x.rb ≠ g := by
  obtain ⟨FK, FR, q1, q2, q3, q4, q5, q6⟩ := h.rep
  obtain ⟨rv, tvs, h1, h2, h3, h4, h5, h6, h7⟩ := q3.rep
  have e0 := h1.cell 0
  rw [hc] at e0
  simp only [List.getElem?_cons_zero, Option.some.injEq] at e0
  subst e0
  exact fun e => Ownv.notBlk h2 h1 (by decide) (e ▸ rfl)
set_option maxHeartbeats 16000000 in
set_option maxRecDepth 100000 in
theorem derived_any {w : World} {nv v : Value} {ds : List Nd} {l : List Int} (hn : RdNs w nv ds) (hv : RdI w v l) (hg : Good ds) (hl : ds.length ≤ 100000) (hT : ∀ x ∈ l, IsT ds x) (hll : l.length ≤ 1000000) :
    Calls Tryd.prog 49 #[nv, v] w (DerivedPost w ds l) := by
  obtain ⟨na, ncap, rfl, n1, n2, _⟩ := hn.len
  have n63 : ((ds.length : Nat) : Int) ≤ 9223372036854775807 := by omega
  have hmf : ∀ (fn : Fn) (first cap : Array Value) (w : World), (Instr.makeFunc fn first cap).run Tryd.prog w = .ok (.func fn first cap) w := fun _ _ _ _ => rfl
  go_enter Tryd.func49, Tryd.ntmps49
  go_wp2_with (first
    | (at_make; refine go_mkbool ds.length _ rfl rfl rfl (by omega) ?_; intro w1 o1 k1 _)
    | (at_make; refine go_mkll ds.length _ rfl rfl rfl (by omega) ?_; intro w2 o2 k2 _)
    | fail)
  have s1 : w.heap.size < w1.heap.size := (Ownv.lt o1 rfl).1
  have s2 : w1.heap.size + 1 < w2.heap.size := by
    have := (Ownv.lt o2 rfl).1
    rw [alloc_size] at this
    exact this
  rw [alloc_size] at o2
  have kA : Kept w (w1.alloc (.cells #[.slice (some ⟨w.heap.size, 0, none⟩) ds.length ds.length] 60)) := k1.alloc _
  have b1 := (Blk.new w1 [.slice (some ⟨w.heap.size, 0, none⟩) ds.length ds.length] 60).kept k2
  have o1' : OwnB _ _ _ _ := Ownv.kept (Ownv.kept o1 ((Kept.refl w1).alloc (.cells #[.slice (some ⟨w.heap.size, 0, none⟩) ds.length ds.length] 60))) k2
  have kB := kA.trans k2
  obtain ⟨W, hW⟩ : ∃ W, W = ((((w2.alloc (.cells #[.slice (some ⟨w1.heap.size + 1, 0, none⟩) ds.length ds.length] 52)).alloc (.cells #[.slice none 0 0] 119)).alloc (.cells #[.slice none 0 0] 23)).alloc (.cells #[.func (.func 69) #[] #[.pointer (some ⟨w1.heap.size, 0, none⟩), .pointer (some ⟨w2.heap.size + 1 + 1, 0, none⟩)]] 120)) := ⟨_, rfl⟩
  rw [← hW]
  have c1 : Kept w2 (w2.alloc (.cells #[.slice (some ⟨w1.heap.size + 1, 0, none⟩) ds.length ds.length] 52)) := (Kept.refl w2).alloc _
  have e1 := Blk.new w2 [.slice (some ⟨w1.heap.size + 1, 0, none⟩) ds.length ds.length] 52
  have e2 := Blk.new (w2.alloc (.cells #[.slice (some ⟨w1.heap.size + 1, 0, none⟩) ds.length ds.length] 52)) [.slice none 0 0] 119
  have e3 := Blk.new ((w2.alloc (.cells #[.slice (some ⟨w1.heap.size + 1, 0, none⟩) ds.length ds.length] 52)).alloc (.cells #[.slice none 0 0] 119)) [.slice none 0 0] 23
  have e4 := Blk.new (((w2.alloc (.cells #[.slice (some ⟨w1.heap.size + 1, 0, none⟩) ds.length ds.length] 52)).alloc (.cells #[.slice none 0 0] 119)).alloc (.cells #[.slice none 0 0] 23)) [.func (.func 69) #[] #[.pointer (some ⟨w1.heap.size, 0, none⟩), .pointer (some ⟨w2.heap.size + 1 + 1, 0, none⟩)]] 120
  rw [alloc_size] at e2
  rw [alloc_size, alloc_size] at e3
  rw [alloc_size, alloc_size, alloc_size] at e4
  rw [← hW] at e4
  have kC : Kept w2 W := by rw [hW]; exact (((((Kept.refl w2).alloc _).alloc _).alloc _).alloc _)
  have e1' := e1.kept ((((Kept.refl _).alloc (.cells #[.slice none 0 0] 119)).alloc (.cells #[.slice none 0 0] 23)).alloc (.cells #[.func (.func 69) #[] #[.pointer (some ⟨w1.heap.size, 0, none⟩), .pointer (some ⟨w2.heap.size + 1 + 1, 0, none⟩)]] 120))
  rw [← hW] at e1'
  have e2' := e2.kept (((Kept.refl _).alloc (.cells #[.slice none 0 0] 23)).alloc (.cells #[.func (.func 69) #[] #[.pointer (some ⟨w1.heap.size, 0, none⟩), .pointer (some ⟨w2.heap.size + 1 + 1, 0, none⟩)]] 120))
  rw [← hW] at e2'
  have e3' := e3.kept ((Kept.refl _).alloc (.cells #[.func (.func 69) #[] #[.pointer (some ⟨w1.heap.size, 0, none⟩), .pointer (some ⟨w2.heap.size + 1 + 1, 0, none⟩)]] 120))
  rw [← hW] at e3'
  have kD := kB.trans kC
  have hin := dvs_init (W := W) (N0 := w.heap.size) (kg := w.heap.size) (wg := w1.heap.size + 1) (n := ds.length) (x := ⟨w1.heap.size, w2.heap.size + 1 + 1, w2.heap.size + 1 + 1 + 1, w2.heap.size, w2.heap.size + 1⟩) (Nat.le_refl _) s1 (Nat.lt_succ_self _) s2 (Nat.lt_succ_self _) (Nat.lt_succ_self _) (Nat.lt_succ_self _)
    (Ownv.mono0 (Ownv.kept o1' kC)) (b1.kept kC) e3' (Ownv.mono0 (Ownv.kept o2 kC)) e1' e2' e4
  clear o1 o1' o2 b1 e1 e2 e3 e4 e1' e2' e3' c1 kA kB kC k1 k2 hW
  generalize hx : (⟨w1.heap.size, w2.heap.size + 1 + 1, w2.heap.size + 1 + 1 + 1, w2.heap.size, w2.heap.size + 1⟩ : Bx) = x at hin
  have X1 : w1.heap.size = x.kb := by rw [← hx]
  have X2 : w2.heap.size + 1 + 1 = x.tb := by rw [← hx]
  have X3 : w2.heap.size + 1 + 1 + 1 = x.xb := by rw [← hx]
  have X4 : w2.heap.size = x.wb := by rw [← hx]
  have X5 : w2.heap.size + 1 = x.rb := by rw [← hx]
  have hea := each_any hin kD (fun b hb => .inl hb) hn hg hl (fit0 _)
  rw [X3, X2, X5, X4, X1]
  clear hx X1 X2 X3 X4 X5 s1 s2
  (with_reducible refine hea.mono ?_)
  clear hea
  rintro e w5 ⟨rfl, d5, t5⟩
  have told := Told.tells hg (rules ds) (told0 ds l) (fun r hr => hr)
  have fit := fit_stK hg (fit0 ds.length) ds.length (Nat.le_refl _)
  rw [stK_all] at fit
  rw [List.nil_append] at told
  generalize (rules ds).foldl tell (st0 ds.length) = st at d5 told fit
  have hkn : st.s.1.length = ds.length := fit.kn
  have htd := fit.td
  have hlp := Lp.start told hT
  have HLP := Shut.mk hlp
  have HTO := Shut.mk told
  obtain ⟨FW, d5⟩ := d5.fix
  have kE : Kept w w5 := kept_of kD t5 (fun b hb => .inl hb)
  have hk0 := d5.know0 (hv.kept kE) (fun b hb => .inl (hv.vb' hb)) (fun y hy => by
    obtain ⟨a, b⟩ := hT y hy
    rw [hkn]; exact ⟨a, b⟩) (by omega)
  have cx := d5.box.cell 0
  simp only [List.getElem?_cons_zero] at cx
  have HFIT := Shut.mk fit
  clear told hlp fit
  go_wp2_with fail
  (with_reducible refine hk0.mono ?_)
  clear hk0 cx
  rintro e w6 ⟨rfl, d6, t6⟩
  have t6' : Turn (fun b => ¬ (fun b => b < w.heap.size ∨ b = x.xb) b) W w6 := t5.trans (t6.mono fun b hb => hb.1) (fun b hb => .inl hb)
  have HT := Shut.mk hT
  clear hT t5 t6 kE d5
  go_wp2
  go_loopw [10] (fun _ wr => ∃ (P ms : List Int) (s : List Bool × List Int), DvW FW (fun b => b < w.heap.size ∨ b = x.xb) wr x ⟨st.rs, ms, st.ws, s⟩ ∧ Shut (Lp ds l st.rs P ms s) ∧ Turn (fun b => ¬ (fun b => b < w.heap.size ∨ b = x.xb) b) W wr) (fun _ wr => far wr x.kb x.tb ds.length)
  case atStart => exact ⟨[], st.ms, know st.s l, d6, HLP, t6'⟩
  case round =>
    clear d6 t6' htd hkn
    obtain ⟨P, ms, s, hd, hp, hT⟩ := hrel
    obtain ⟨kn, td⟩ := s
    obtain ⟨tv, x1, x2, x3⟩ := hd.todo
    simp only at x1 x2 x3
    by_cases hlt : 0 < td.length
    · obtain ⟨g, tc, rfl, y1, y2, y3, y4, y5, y6⟩ := x3.row hlt
      obtain ⟨q, hq⟩ : ∃ q, td.length = q + 1 := ⟨td.length - 1, by omega⟩
      have hcell := y5 q (by omega)
      have hlast : td.getD (td.length - 1) 0 = td.getD q 0 := by rw [hq]; rfl
      have hqr := hp.out.wl.rng (td.getD q 0) (List.mem_append_right _ (getD_mem (l := td) (i := q) (by omega)))
      obtain ⟨t, ht⟩ := Int.eq_ofNat_of_zero_le hqr.1
      rw [ht] at hcell
      obtain ⟨hq1, htl, htP⟩ := hp.out.pop (ws := st.ws) hlt (t := t) (by rw [hlast, ht])
      obtain ⟨d2, t2⟩ := hd.pop (n := q + 1) (Nat.succ_pos _) (by rw [← hq]; exact x1) hq
      rw [Nat.add_sub_cancel] at d2 t2
      simp only at hq1 d2
      rw [hq, Nat.add_sub_cancel] at hq1
      have hfar := far_eq hd hp.out
      have HLEN : Shut (td.length ≤ ds.length) := ⟨by have := hp.out.wl.lenle; simp only [List.length_append] at this; omega⟩
      have hwl : t < st.ws.length := by rw [HTO.out.wt.len]; exact htl
      obtain ⟨wg, wc, wv, z1, z2, z3, z4⟩ := d2.waits hwl
      obtain ⟨va, vc, rfl, v1, v2, v3⟩ := z3.len
      have hwt := HTO.out.wt.few t htl
      have hwi := HTO.out.wt.rng t htl
      rw [hq] at x1
      have HQ := Shut.mk hq
      have HQ1 := Shut.mk hq1
      have HFAR := Shut.mk hfar
      have HWI := Shut.mk hwi
      simp only at z1 z2 z3 z4 v1 HWI
      generalize hWW : wr.setCell ⟨x.tb, 0, none⟩ (.slice (some ⟨g, 0, none⟩) q tc) = w2 at d2 t2 z1 z2 z3 z4
      have hT2 := hT.trans (t2.mono fun b hb => hb.1) (fun b hb => .inl hb)
      have htl' : (t : Int) < (st.ws.length : Int) := by omega
      have hqc : (q : Int) ≤ (tc : Int) := by omega
      have hwf : (st.ws.getD t []).length ≤ 100000000 := by have := HFIT.out.wf t; omega
      have hqb : (q : Int) ≤ 100000 := by have := HLEN.out; omega
      clear hq hq1 hlast hqr ht y5 y6 hfar hwi hd hp hT hwt
      generalize hwt : st.ws.getD t [] = wt at z1 z2 z3 v1 v2 v3 z4 HWI hwf
      have HWT := Shut.mk hwt
      clear hwt
      go_wp2
      go_loopw [45] (fun i wx => ∃ (k : Nat) (ms : List Int) (s : List Bool × List Int), k ≤ wt.length ∧ i = .int .i64 k ∧ DvW FW (fun b => b < w.heap.size ∨ b = x.xb) wx x ⟨st.rs, ms, st.ws, s⟩ ∧ Shut (Lq ds l st.rs st.ws P t k ms s) ∧ Turn (fun b => ¬ (fun b => b < w.heap.size ∨ b = x.xb) b ∧ ¬ FW b) w2 wx) (fun i _ => wt.length - (intOf i).toNat)
      case atStart => exact ⟨0, ms, _, Nat.zero_le _, rfl, d2, HQ1, Turn.refl _ _⟩
      case round =>
        obtain ⟨k, ms, s, hk0, rfl, hd, hq, hT⟩ := hrel
        by_cases hlt : k < wt.length
        · have hri := HWI.out _ (getD_mem hlt)
          obtain ⟨rb, ro, rc, hrv, _, _, hrb, hcl⟩ := z3.addr (by omega)
          simp only [Value.slice.injEq] at hrv
          obtain ⟨rfl, _, rfl⟩ := hrv
          have hfw := z4 rb ⟨ro, none, _, _, Nat.lt_of_le_of_lt (Nat.zero_le _) hlt, rfl⟩
          have y1 : wr.cell? ⟨rb, ro + k, none⟩ = some (.int .i64 (wt.getD k 0)) := (World.cell?_of_block (hT.block rb hrb (fun c => c.2 hfw.1))).trans (hcl k hlt)
          clear hcl
          obtain ⟨i, hi⟩ := Int.eq_ofNat_of_zero_le hri.1
          have hil : i < st.rs.length := by omega
          have hil' : (i : Int) < (st.rs.length : Int) := by omega
          have hstep := hq.out.step hg HTO.out.sub HTO.out.wt htl htP (by rw [HWT.out]; exact hlt) (by rw [HWT.out]; exact hi) hil
          have hcnt := hq.out.miss.cnt i hil
          rw [HWT.out] at hcnt
          have hsl : (st.rs.getD i rl0).src.length ≤ 64 ∧ (st.rs.getD i rl0).to.length ≤ 64 := by
            have hm : st.rs.getD i rl0 ∈ st.rs := by rw [List.getD_eq_getElem?_getD, List.getElem?_eq_getElem hil]; exact List.getElem_mem hil
            obtain ⟨t', ht', hr'⟩ := rules_mem.1 (HTO.out.sub _ hm)
            exact rules_len64 hg ht' _ hr'
          have hto : ∀ y ∈ (st.rs.getD i rl0).to, 0 ≤ y ∧ y < (s.1.length : Int) := by
            have hm : st.rs.getD i rl0 ∈ st.rs := by rw [List.getD_eq_getElem?_getD, List.getElem?_eq_getElem hil]; exact List.getElem_mem hil
            intro y hy
            have := (rules_terms hg (HTO.out.sub _ hm)).2 y hy
            rw [hq.out.wl.len]; exact this
          have hc1 : (wt.take k).count (i : Int) ≤ 100000000 := Nat.le_trans List.count_le_length (by rw [List.length_take]; omega)
          have hc2 : (st.rs.getD i rl0).src.countP (fun x => !P.contains x) ≤ 64 := Nat.le_trans List.countP_le_length hsl.1
          have hlen := hq.out.len
          obtain ⟨g2, c2, tv, a1, a2, a3, a4, a5⟩ := hd.rule hil
          obtain ⟨d3, t3⟩ := hd.dec hil a1 (ms.getD i 0 - 1)
          have hne := hd.ruleNe a1
          simp only at a1 a2 hcnt d3 a4 a5 hne
          have q1 : (wr.setCell ⟨g2, i * 2, none⟩ (.int .i64 (ms.getD i 0 - 1))).cell? ⟨x.rb, 0, none⟩ = some (.slice (some ⟨g2, 0, none⟩) st.rs.length c2) := by rw [World.cell?_setCell_other _ _ _ _ (by first | (simp [hne]; done) | (simp; done))]; exact a1
          have q4 : (wr.setCell ⟨g2, i * 2, none⟩ (.int .i64 (ms.getD i 0 - 1))).cell? ⟨g2, i * 2 + 1, none⟩ = some tv := by rw [World.cell?_setCell_other _ _ _ _ (by simp)]; exact a4
          have hm1 : -200000000 ≤ ms.getD i 0 := by omega
          have hm2 : ms.getD i 0 ≤ 100 := by omega
          rw [hi] at y1
          have HSTEP := Shut.mk hstep
          have HTO2 := Shut.mk hto
          have HI := Shut.mk hi
          clear hstep hto hi hri hcnt hc1 hc2
          have d3x := d3.box.cell 0
          simp only [List.getElem?_cons_zero] at d3x
          have hT3 := hT.trans t3 (fun b hb => .inl hb)
          generalize hmv : ms.getD i 0 = mv at a2 d3 t3 q1 q4 hm1 hm2 d3x hT3 HSTEP
          by_cases h0 : mv - 1 = 0
          · obtain rfl : mv = 1 := by omega
            have HMV := Shut.mk hmv
            clear hmv h0
            have e10 : (1 : Int) - 1 = 0 := rfl
            rw [e10] at d3 t3 q1 q4 d3x hT3 HSTEP
            rw [if_pos rfl] at HSTEP
            clear e10
            have kd : Kept (wr.setCell ⟨g2, i * 2, none⟩ (.int .i64 0)) (wr.setCell ⟨g2, i * 2, none⟩ (.int .i64 0)).drew := (Kept.refl _).drew
            have q1' := kd.cell (p := ⟨x.rb, 0, none⟩) (World.block_lt_of_cell? _ _ q1) |>.trans q1
            have q4' := kd.cell (p := ⟨g2, i * 2 + 1, none⟩) (World.block_lt_of_cell? _ _ q4) |>.trans q4
            have hkn := (d3.kept kd).know hil q1' q4' HTO2.out (by simp only; omega)
            have hT4 := hT3.kept kd
            obtain ⟨tva, tvc, hv5, _, _, _⟩ := a5.len
            clear a5
            generalize (st.rs.getD i rl0).to.length = tn at hv5
            subst hv5
            go_wp2_with fail
            generalize wr.setCell ⟨g2, i * 2, none⟩ (.int .i64 0) = w8 at hkn hT4 d3x q1 q4 ⊢
            go_still_tail 6, (by kernel_rfl)
            change wpList _ _ _ _ _ w8.drew
            generalize w8.drew = w9 at hkn hT4 ⊢
            go_wp2_with fail
            (with_reducible refine hkn.mono ?_)
            clear hkn
            rintro e w10 ⟨rfl, d10, t10⟩
            go_wp2
            go_roundw
            case rel => exact ⟨k + 1, ms.set i 0, YtangbnmgkcmhbaaDoor.know s (st.rs.getD i rl0).to, hlt, rfl, d10, ⟨HSTEP.out⟩, hT4.trans t10 (fun b hb => .inl hb)⟩
            case measure => simp [intOf]; omega
          · have hb0 : (mv - 1 == 0) = false := by rw [beq_eq_false_iff_ne]; exact h0
            have H0 := Shut.mk h0
            have HMV := Shut.mk hmv
            clear h0 hmv
            go_wp2
            go_roundw
            case rel => exact ⟨k + 1, ms.set i (mv - 1), s, hlt, rfl, d3, ⟨by have := HSTEP.out; rwa [if_neg H0.out] at this⟩, hT3⟩
            case measure => simp [intOf]; omega
        · obtain rfl : k = wt.length := by omega
          have hlp := (by rw [← HWT.out] at hq; exact hq.out.fin HTO.out.wt htl htP : Lp ds l st.rs (P ++ [(t : Int)]) ms s)
          have HL := Shut.mk hlp
          have hfar2 := far_eq hd hlp
          have hqlen := hq.out.len
          have HF2 := Shut.mk hfar2
          clear hlp hfar2
          go_wp2
          go_roundw
          case rel => exact ⟨P ++ [(t : Int)], ms, s, hd, HL, hT2.trans (hT.mono fun b hb => hb.1) (fun b hb => .inl hb)⟩
          case measure => rw [HF2.out, HFAR.out, List.length_append, List.length_singleton]; omega
    · have h0 : td = [] := List.eq_nil_of_length_eq_zero (by omega)
      subst h0
      obtain ⟨kv, c1, c2, c3⟩ := hd.out
      obtain ⟨ta, tc, rfl, y1, y2, y3⟩ := x3.rd.len
      go_wp2
      go_ret
      exact ⟨kv, kn, rfl, Ownv.from c2 w.heap.size (fun b hb => Nat.le_of_not_lt (fun c => c3 b hb (.inl c))), hp.out.wl.len, derived_all hg HT.out hp.out.wl rfl hp.out.miss hp.out.has hp.out.ax, kept_of kD hT (fun b hb => .inl hb)⟩
end Go.Proofs.YtangbnmgkcmhbaaDoor
end

section
/- look. -/
set_option linter.unusedSimpArgs false
set_option linter.unusedVariables false
namespace Go.Proofs.YtangbnmgkcmhbaaDoor
open Go.RowKit Go.Maps

/-- What look answers. -/
def LookPost (w : World) (ds : List Nd) (l : List Int) (e : Ending) (w' : World) : Prop :=
  ∃ (vp : Value) (V : Nat → Prop) (kn : List Bool), e = .returned (.tuple #[vp, .int .i64 0]) ∧ IsVw V w' vp ds kn ∧ (∀ b, V b → w.heap.size ≤ b) ∧ (∀ t : Nat, t < ds.length → (kn.getD t false = true ↔ Der ds l (t : Int))) ∧ Kept w w'
theorem ndAt_nat {ds : List Nd} {k : Nat} (h : k < ds.length) : ndAt ds (k : Int) = ds.getD k nd0 := by
  unfold ndAt
  rw [if_pos ⟨by omega, by omega⟩, Int.toNat_natCast]
theorem ndE_nat {ds : List Nd} {k : Nat} (h : k < ds.length) : ndE ds (k : Int) = 0 := by
  unfold ndE
  rw [if_pos ⟨by omega, by omega⟩]
/-- The nodes so far: those of k terms, and none. -/
def part (ds : List Nd) (k : Nat) : List Nd := ds.take k ++ List.replicate (ds.length - k) nd0
theorem part_len (ds : List Nd) (k : Nat) (h : k ≤ ds.length) : (part ds k).length = ds.length := by
  unfold part
  rw [List.length_append, List.length_take, List.length_replicate]; omega
theorem part_set (ds : List Nd) (k : Nat) (h : k < ds.length) : (part ds k).set k (ds.getD k nd0) = part ds (k + 1) := by
  unfold part
  have e : ds.length - k = (ds.length - (k + 1)) + 1 := by omega
  rw [e, List.replicate_succ, List.set_append_right _ _ (by rw [List.length_take]; omega), List.length_take, Nat.min_eq_left (by omega), Nat.sub_self, List.set_cons_zero, List.take_succ_eq_append_getElem h, List.append_assoc]
  rw [List.getD_eq_getElem?_getD, List.getElem?_eq_getElem h]
  rfl
theorem part_all (ds : List Nd) : part ds ds.length = ds := by simp [part]
theorem part_at (ds : List Nd) {k i : Nat} (h : i < k) (hk : k ≤ ds.length) : (part ds k).getD i nd0 = ds.getD i nd0 := by
  unfold part
  rw [List.getD_eq_getElem?_getD, List.getElem?_append_left (by rw [List.length_take]; omega), List.getElem?_take, if_pos h, List.getD_eq_getElem?_getD]

theorem node_put {B : Nat} {w3 : World} {g n cap k : Nat} {ds : List Nd} {lvs : List Value} {d : Nd} {lv : Value} (o3 : Ownv B 51 4 w3 (.slice (some ⟨g, 0, none⟩) n cap) n (flat (part ds k) lvs)) (hn : n = ds.length) (hk : k < ds.length) (hl : lvs.length = ds.length) (hd : (part ds k).set k d = part ds (k + 1)) :
    Ownv B 51 4 ((((w3.setCell ⟨g, k * 4, none⟩ (.int .i64 d.op)).setCell ⟨g, k * 4 + 1, none⟩ (.int .i64 d.n)).setCell ⟨g, k * 4 + 2, none⟩ (.string (strB d.s))).setCell ⟨g, k * 4 + 3, none⟩ lv) (.slice (some ⟨g, 0, none⟩) n cap) n (flat (part ds (k + 1)) (lvs.set k lv)) ∧
    Turn (fun b => b = g) w3 ((((w3.setCell ⟨g, k * 4, none⟩ (.int .i64 d.op)).setCell ⟨g, k * 4 + 1, none⟩ (.int .i64 d.n)).setCell ⟨g, k * 4 + 2, none⟩ (.string (strB d.s))).setCell ⟨g, k * 4 + 3, none⟩ lv) := by
  subst hn
  have p1 := Ownv.put o3 (k * 4) (by omega) (.int .i64 d.op)
  have p2 := Ownv.put p1 (k * 4 + 1) (by omega) (.int .i64 d.n)
  have p3 := Ownv.put p2 (k * 4 + 2) (by omega) (.string (strB d.s))
  have p4 := Ownv.put p3 (k * 4 + 3) (by omega) lv
  have e := flat_put (part ds k) lvs k d lv (by rw [part_len ds k (Nat.le_of_lt hk)]; exact hk) (by rw [part_len ds k (Nat.le_of_lt hk)]; exact hl)
  rw [hd] at e
  rw [e] at p4
  exact ⟨p4, ((Turn.trans (turn_setCell w3 ⟨g, k * 4, none⟩ _) (turn_setCell _ ⟨g, k * 4 + 1, none⟩ _) (fun b hb => .inl hb)).trans (turn_setCell _ ⟨g, k * 4 + 2, none⟩ _) (fun b hb => .inl hb)).trans (turn_setCell _ ⟨g, k * 4 + 3, none⟩ _) (fun b hb => .inl hb)⟩

set_option maxHeartbeats 8000000 in
set_option maxRecDepth 100000 in
theorem look_bad {F : Nat → Prop} {w : World} {p : Value} {ds : List Nd} (h : Ar F w p ds) {v : Value} {l : List Int} (hd : RdI w v l) (hT : termsB ds l = false) :
    Calls Tryd.prog 28 #[p, v] w fun e w' => e = .returned (.tuple #[.pointer none, .int .i64 1]) ∧ w = w' := by
  have ht := termsD h hd
  rw [hT] at ht
  obtain ⟨la, lc, rfl, _, _, _⟩ := hd.len
  go_enter Tryd.func28, Tryd.ntmps28
  go_wp2_with (go_at_call 35; refine ht.mono ?_; rintro e w' ⟨rfl, rfl⟩)
  go_ret2
  exact ⟨rfl, rfl⟩

set_option maxHeartbeats 8000000 in
set_option maxRecDepth 100000 in
theorem look_any {F : Nat → Prop} {w : World} {p : Value} {ds : List Nd} (h : Ar F w p ds) {v : Value} {l : List Int} (hd : RdI w v l) (hT : termsB ds l = true) (hll : l.length ≤ 1000000) :
    Calls Tryd.prog 28 #[p, v] w (LookPost w ds l) := by
  have ht := termsD h hd
  rw [hT] at ht
  have hle := arg_len h
  have HTT := Shut.mk (termsB_all hT)
  have hg := h.good
  have hl := h.few
  obtain ⟨la, lc, rfl, _, _, _⟩ := hd.len
  clear hT
  have n63 : ((ds.length : Nat) : Int) ≤ 9223372036854775807 := by omega
  go_enter Tryd.func28, Tryd.ntmps28
  go_wp2_with (first
    | (go_at_call 35; refine ht.mono ?_; rintro e w' ⟨rfl, rfl⟩)
    | (go_at_call 47; refine hle.mono ?_; rintro e w' ⟨rfl, rfl⟩)
    | (at_make; refine go_mknodes ds.length _ rfl rfl rfl (by omega) ?_; intro w1 o1 k1 _)
    | fail)
  have s1 : w.heap.size < w1.heap.size := by
    rcases o1.2 with ⟨hh, _⟩ | ⟨g, cap, cur, hv, _, hgg, _⟩
    · cases hh
    · simp only [Value.slice.injEq, Option.some.injEq, Addr.mk.injEq] at hv
      obtain ⟨⟨rfl, _⟩, _⟩ := hv
      exact (Array.getElem?_eq_some_iff.1 hgg).1
  have b1 := Blk.new w1 [.slice (some ⟨w.heap.size, 0, none⟩) ds.length ds.length, .slice none 0 0] 86
  have kA : Kept w1 (w1.alloc (.cells #[.slice (some ⟨w.heap.size, 0, none⟩) ds.length ds.length, .slice none 0 0] 86)) := (Kept.refl w1).alloc _
  have oA := Ownv.kept o1 kA
  have hrep : List.replicate ds.length nd0 = part ds 0 := by simp [part]
  rw [hrep] at oA
  clear hrep o1
  go_loopw [22] (fun i wr => ∃ (k : Nat) (lvs : List Value), k ≤ ds.length ∧ i = .int .i64 k ∧ Blk wr w1.heap.size 86 [.slice (some ⟨w.heap.size, 0, none⟩) ds.length ds.length, .slice none 0 0] ∧ Ownv w.heap.size 51 4 wr (.slice (some ⟨w.heap.size, 0, none⟩) ds.length ds.length) ds.length (flat (part ds k) lvs) ∧ lvs.length = ds.length ∧ (∀ i, i < k → OwnI w.heap.size wr (lvs.getD i undef) (ds.getD i nd0).l) ∧ Kept w wr) (fun i _ => ds.length - (intOf i).toNat)
  case atStart => exact ⟨0, _, Nat.zero_le _, rfl, b1, oA, by simp, fun i hi => absurd hi (Nat.not_lt_zero _), k1.trans kA⟩
  case round =>
    clear b1 oA kA k1
    obtain ⟨k, lvs, hk0, rfl, hb, ho, hlv, hls, hk⟩ := hrel
    have c0 := hb.cell 0
    have c1 := hb.cell 1
    simp only [List.getElem?_cons_succ, List.getElem?_cons_zero] at c0 c1
    have HLS := Shut.mk hls
    have HLV := Shut.mk hlv
    clear hls hlv
    by_cases hlt : k < ds.length
    · have hno : ∀ W, Kept w W → Calls Tryd.prog 48 #[p, .int .i64 (k : Int)] W fun e w' => ∃ lv, e = .returned (.tuple #[.agg #[.int .i64 (ds.getD k nd0).op, .int .i64 (ds.getD k nd0).n, .string (strB (ds.getD k nd0).s), lv], .int .i64 0]) ∧ OwnI W.heap.size w' lv (ds.getD k nd0).l ∧ Kept W w' := fun W kW => by
        have := node_own (ArG.kept h kW) (k : Int)
        rw [ndE_nat hlt, ndAt_nat hlt] at this
        exact this
      have hps := part_set ds k hlt
      have hpat : ∀ i, i < k + 1 → (part ds (k + 1)).getD i nd0 = ds.getD i nd0 := fun i hi => part_at ds hi hlt
      generalize hd0 : ds.getD k nd0 = d at hno hps
      have HD := Shut.mk hd0
      have HPS := Shut.mk hps
      have HPA := Shut.mk hpat
      clear hd0 hps hpat
      obtain ⟨dop, dn, dss, dl⟩ := d
      simp only at hno HPS
      have HDS := Shut.mk (rfl : strB dss = strB dss)
      have hlt' : (k : Int) < (ds.length : Int) := by omega
      have hne1 : ¬ w1.heap.size = w.heap.size := by omega
      have hne2 : ¬ w.heap.size = w1.heap.size := by omega
      go_wp2_with fail
      go_region_held3 (fun w' => w'.cell? ⟨w1.heap.size, 0, none⟩ = some (.slice (some ⟨w.heap.size, 0, none⟩) ds.length ds.length))
        (first | exact c0 | assumption | go_keep)
        ((go_at_call 48; (with_reducible refine (hno _ (by first | exact hk | exact hk.drew | exact hk.drewN _)).mono ?_); rintro e w3 ⟨lv, rfl, ol, k3⟩; obtain ⟨va, vc, hlv3, _, _, _⟩ := ol.rd.len; subst hlv3; have k4 : Kept wr w3 := (by first | exact k3 | exact ((Kept.refl wr).drew).trans k3 | exact ((Kept.refl wr).drewN _).trans k3); have s3 : w3.cell? ⟨w1.heap.size, 0, none⟩ = some (.slice (some ⟨w.heap.size, 0, none⟩) ds.length ds.length) := (hb.kept k4).cell 0; have o3 := Ownv.kept ho k4; obtain ⟨g, cap, hgv, _, _, _, _, g5, g6⟩ := Ownv.row o3 (by omega); simp only [Value.slice.injEq, Option.some.injEq, Addr.mk.injEq] at hgv; obtain ⟨⟨rfl, _⟩, _, rfl⟩ := hgv; have e0 := g5 (k * 4) (by omega); have e1 := g5 (k * 4 + 1) (by omega); have e2 := g5 (k * 4 + 2) (by omega); have e3 := g5 (k * 4 + 3) (by omega); have u0 := g6 (k * 4); have u1 := g6 (k * 4 + 1); have u2 := g6 (k * 4 + 2); have u3 := g6 (k * 4 + 3); clear g5 g6))
      clear e0 e1 e2 e3 u0 u1 u2 u3 hno
      obtain ⟨p4, ht⟩ := node_put (d := ⟨dop, dn, dss, dl⟩) (lv := .slice va dl.length vc) o3 rfl hlt HLV.out HPS.out
      simp only at p4 ht
      generalize (((w3.setCell ⟨w.heap.size, k * 4, none⟩ (.int .i64 dop)).setCell ⟨w.heap.size, k * 4 + 1, none⟩ (.int .i64 dn)).setCell ⟨w.heap.size, k * 4 + 2, none⟩ (.string (strB dss))).setCell ⟨w.heap.size, k * 4 + 3, none⟩ (.slice va dl.length vc) = w4 at p4 ht ⊢
      have ol' : OwnI w.heap.size w3 (.slice va dl.length vc) dl := Ownv.mono ol (by first | exact hk.size | exact hk.drew.size | exact (hk.drewN _).size)
      have HNB : Shut (∀ i, i < k → OwnI w.heap.size w4 (lvs.getD i undef) (ds.getD i nd0).l) := ⟨fun i hi => Ownv.turn (Ownv.kept (HLS.out i hi) k4) ht (fun b hb e => Ownv.apart (Ownv.kept (HLS.out i hi) k4) o3 (by decide) hb (by rw [show b = w.heap.size from e]; rfl))⟩
      have ol4 : OwnI w.heap.size w4 (.slice va dl.length vc) dl := Ownv.turn ol' ht (fun b hb e => Ownv.apart ol' o3 (by decide) hb (by rw [show b = w.heap.size from e]; rfl))
      go_wp2
      go_roundw
      case rel =>
        refine ⟨k + 1, lvs.set k (.slice va dl.length vc), hlt, rfl, (hb.kept k4).turn ht hne1, p4, by rw [List.length_set]; exact HLV.out, fun i hi => ?_, Turn.keptOf (hk.trans k4) ht (fun b hb => by rw [show b = w.heap.size from hb]; exact Nat.le_refl _)⟩
        have gv : (lvs.set k (.slice va dl.length vc)).getD i undef = if k = i then .slice va dl.length vc else lvs.getD i undef := by
          simp only [List.getD_eq_getElem?_getD, List.getElem?_set]
          by_cases c : k = i
          · subst c; simp [HLV.out, hlt]
          · simp [c]
        rw [gv]
        by_cases c : k = i
        · rw [if_pos c]
          subst c
          rw [HD.out]
          exact ol4
        · rw [if_neg c]
          exact HNB.out i (by omega)
      case measure => simp [intOf]; omega
    · obtain rfl : k = ds.length := by omega
      rw [part_all] at ho
      have hrn : RdNs wr (.slice (some ⟨w.heap.size, 0, none⟩) ds.length ds.length) ds := ⟨lvs, HLV.out, Ownv.rdv ho, fun i hi => (HLS.out i hi).rd⟩
      have hder := derived_any hrn (hd.kept hk) hg hl HTT.out hll
      go_wp2_with fail
      (with_reducible refine hder.mono ?_)
      clear hder
      rintro e w5 ⟨kv, bs, rfl, h1, h2, h3, k5⟩
      obtain ⟨ka, kc, hkv, _, _, _⟩ := Ownv.rdv h1
      have hb5 := hb.kept k5
      have c5 := hb5.cell 1
      have f5 := hb5.frozen 1
      simp only [List.getElem?_cons_succ, List.getElem?_cons_zero] at c5
      have H3 := Shut.mk h3
      have HL2 := Shut.mk h2
      clear h3 hrn h2
      generalize hbl : bs.length = bl at hkv
      subst hkv
      have HBL := Shut.mk hbl
      clear hbl
      go_wp2
      go_ret2
      have tS := turn_setCell w5 ⟨w1.heap.size, 1, none⟩ (.slice ka bl kc)
      refine ⟨_, fun b => w.heap.size ≤ b ∧ b < (w5.setCell ⟨w1.heap.size, 1, none⟩ (.slice ka bl kc)).heap.size, bs, rfl, ⟨⟨w1.heap.size, _, _, lvs, rfl, hb5.set 1 _, Ownv.setCell (Ownv.mono0 (Ownv.kept ho k5)) (ad := ⟨w1.heap.size, 1, none⟩) (Ownv.notBlk (Ownv.kept ho k5) hb5 (by decide)) _, HLV.out, fun i hi => Ownv.setCell (Ownv.mono0 (Ownv.kept (HLS.out i hi) k5)) (ad := ⟨w1.heap.size, 1, none⟩) (Ownv.notBlk (Ownv.kept (HLS.out i hi) k5) hb5 (by decide)) _, Ownv.setCell (Ownv.mono0 h1) (ad := ⟨w1.heap.size, 1, none⟩) (Ownv.notBlk h1 hb5 (by decide)) _, ⟨by omega, by rw [size_setCell]; exact hb5.lt⟩, fun b hb => ?_, fun b hb => ?_, fun i hi b hb => ?_⟩, HL2.out, fun b hb => hb.2⟩, fun b hb => hb.1, H3.out, Turn.keptOf (hk.trans k5) tS (fun b hb => by rw [show b = w1.heap.size from hb]; omega)⟩
      · have := Ownv.lt (Ownv.kept ho k5) hb
        rw [size_setCell]; exact ⟨this.2, this.1⟩
      · have := Ownv.lt h1 hb
        have := hk.size
        rw [size_setCell]; omega
      · have := Ownv.lt (Ownv.kept (HLS.out i hi) k5) hb
        rw [size_setCell]; exact ⟨this.2, this.1⟩
end Go.Proofs.YtangbnmgkcmhbaaDoor
end

section
/- Known, Derives. -/
set_option linter.unusedSimpArgs false
set_option linter.unusedVariables false
namespace Go.Proofs.YtangbnmgkcmhbaaDoor
open Go.RowKit Go.Maps

set_option maxHeartbeats 4000000 in
set_option maxRecDepth 100000 in
theorem known_bad {F : Nat → Prop} {w : World} {p : Value} {ds : List Nd} (h : Ar F w p ds) {v : Value} {l : List Int} (hd : RdI w v l) (hT : termsB ds l = false) :
    Calls Tryd.prog 11 #[p, v] w fun e w' => e = .returned (.tuple #[.slice none 0 0, .int .i64 1]) ∧ w = w' := by
  have hlk := look_bad h hd hT
  obtain ⟨la, lc, rfl, _, _, _⟩ := hd.len
  go_enter Tryd.func11, Tryd.ntmps11
  go_wp2_with (go_at_call 28; refine hlk.mono ?_; rintro e w' ⟨rfl, rfl⟩)
  go_ret2
  exact ⟨rfl, rfl⟩
def KnownPost (w : World) (ds : List Nd) (l : List Int) (e : Ending) (w' : World) : Prop :=
  ∃ u us, e = .returned (.tuple #[u, .int .i64 0]) ∧ OwnI w.heap.size w' u us ∧ Knows ds l us ∧ us.length ≤ ds.length ∧ Kept w w'
set_option maxHeartbeats 4000000 in
set_option maxRecDepth 100000 in
theorem known_any {F : Nat → Prop} {w : World} {p : Value} {ds : List Nd} (h : Ar F w p ds) {v : Value} {l : List Int} (hd : RdI w v l) (hT : termsB ds l = true) (hll : l.length ≤ 1000000) :
    Calls Tryd.prog 11 #[p, v] w (KnownPost w ds l) := by
  have hlk := look_any h hd hT hll
  have HT := Shut.mk (termsB_all hT)
  have hg := h.good
  have hl := h.few
  clear hT
  obtain ⟨la, lc, rfl, _, _, _⟩ := hd.len
  go_enter Tryd.func11, Tryd.ntmps11
  go_wp2_with fail
  (with_reducible refine hlk.mono ?_)
  clear hlk
  rintro e w1 ⟨vp, V, kn, rfl, hv, hV, hkn, k1⟩
  have HK := Shut.mk hkn
  clear hkn
  have hwi := within_any hv (hd.kept k1) HT.out hl hg
  go_wp2_with fail
  (with_reducible refine hwi.mono ?_)
  clear hwi
  rintro e w2 ⟨u, rfl, ho, k2⟩
  have hwl : (mrounds ds (marks0 ds l) ds.length).length = ds.length := by rw [mrounds_len, marks0_len]
  have HIN := Shut.mk (within_all hg HT.out)
  generalize mrounds ds (marks0 ds l) ds.length = ins at ho hwl HIN
  obtain ⟨ua, uc, hu, _, _, _⟩ := Ownv.rdv ho
  rw [hwl] at hu
  subst hu
  have n63 : ((ds.length : Nat) : Int) ≤ 9223372036854775807 := by omega
  have hv2 := hv.kept k2
  have k12 := k1.trans k2
  clear hv
  have HWL := Shut.mk hwl
  clear hwl
  go_wp2
  go_loopw [8, 24] (fun o i wr => ∃ k : Nat, k ≤ ds.length ∧ i = .int .i64 k ∧ OwnI w.heap.size wr o (knownB ins kn k) ∧ (∀ b, Blks o b → w2.heap.size ≤ b) ∧ Kept w2 wr) (fun _ i _ => ds.length - (intOf i).toNat)
  case atStart => exact ⟨0, Nat.zero_le _, rfl, OwnI.nil _ _, (fun b hb => by cases hb), Kept.refl _⟩
  case round =>
    obtain ⟨k, hk0, rfl, hoi, hbl, hk⟩ := hrel
    have HBL := Shut.mk hbl
    clear hbl
    by_cases hlt : k < ds.length
    · obtain ⟨g, cap, hg', _, _, _, hgl, g5, _⟩ := ho.row (by rw [HWL.out]; omega)
      simp only [Value.slice.injEq] at hg'
      obtain ⟨rfl, hg2, rfl⟩ := hg'
      clear hg2
      have ck : wr.cell? ⟨g, k, none⟩ = some (.bool (ins.getD k false)) := (hk.cell (p := ⟨g, k, none⟩) hgl).trans (g5 k (by rw [HWL.out]; exact hlt))
      have hks := knownB_succ ins kn k
      have hkl := knownB_len ins kn k
      have hkT : ∀ x ∈ [(k : Int)], IsT ds x := fun x hx => by rw [List.mem_singleton.1 hx]; exact ⟨by omega, by omega⟩
      have hcan := fun (W : World) (kW : Kept w2 W) (v : Value) (hd : RdI W v [(k : Int)]) => can_any (hv2.kept kW) hd hkT
      have hall : [(k : Int)].all (knB kn) = kn.getD k false := by simp [knB]
      rw [hall] at hcan
      have HKS := Shut.mk hks
      have HKT := Shut.mk hkT
      clear hks hkT hall g5
      have hltI : (k : Int) < (ds.length : Int) := by omega
      have hadd := hk.alloc (.cells #[.int .i64 (k : Int)] 3)
      cases hb : ins.getD k false with
      | false =>
        rw [hb] at ck HKS
        clear hb hcan
        go_wp2
        go_roundw
        case rel => exact ⟨k + 1, hlt, rfl, by rw [HKS.out, Bool.false_and, if_neg (by decide), List.append_nil]; exact hoi, HBL.out, hk⟩
        case measure => simp [intOf]; omega
      | true =>
        rw [hb] at ck HKS
        clear hb
        have hc2 := hcan _ hadd (.slice (some ⟨wr.heap.size, 0, none⟩) 1 1) (OwnI.rd (lit1 wr (k : Int)))
        clear hcan
        cases hb2 : kn.getD k false with
        | false =>
          rw [hb2] at hc2 HKS
          clear hb2
          go_wp2_with (go_at_call 30; (with_reducible refine hc2.mono ?_); rintro e w' ⟨rfl, rfl⟩)
          go_roundw
          case rel => exact ⟨k + 1, hlt, rfl, by rw [HKS.out, Bool.true_and, if_neg (by decide), List.append_nil]; exact Ownv.kept hoi ((Kept.refl wr).alloc _), HBL.out, hadd⟩
          case measure => simp [intOf]; omega
        | true =>
          rw [hb2] at hc2 HKS
          clear hb2
          generalize knownB ins kn k = zs at hoi hkl HKS
          have hadd2 := hadd.alloc (.cells #[.int .i64 (k : Int)] 3)
          have hoi2 := Ownv.kept (Ownv.kept hoi ((Kept.refl wr).alloc (.cells #[.int .i64 (k : Int)] 3))) ((Kept.refl _).alloc (.cells #[.int .i64 (k : Int)] 3))
          have hsz2 : w.heap.size ≤ w2.heap.size := k12.size
          have hl2 := OwnI.rd (lit1 (wr.alloc (.cells #[.int .i64 (k : Int)] 3)) (k : Int))
          rw [alloc_size] at hl2
          go_wp2_with (first
            | (go_at_call 30; (with_reducible refine hc2.mono ?_); rintro e w' ⟨rfl, rfl⟩)
            | (at_builtin; refine go_appi w.heap.size _ zs rfl hoi2 _ [(k : Int)] rfl hl2 (by simp; omega) (Nat.le_trans hsz2 hadd2.size) ?_; intro v6 w6 o6 t6 l6))
          go_roundw
          case rel => exact ⟨k + 1, hlt, rfl, by rw [HKS.out, Bool.true_and, if_pos rfl]; exact o6, fun b hb => (l6 b hb).elim (HBL.out b) (fun c => Nat.le_trans hadd2.size c), Turn.keptOf hadd2 t6 (fun b hb => HBL.out b hb)⟩
          case measure => simp [intOf]; omega
    · obtain rfl : k = ds.length := by omega
      have HKN : Shut (Knows ds l (knownB ins kn ds.length)) := ⟨knows_of hg HT.out HIN.out HK.out⟩
      have hkl := knownB_len ins kn ds.length
      go_wp2
      go_ret2
      exact ⟨_, _, rfl, hoi, HKN.out, hkl, k12.trans hk⟩

/-- What Derives answers. -/
noncomputable def derB (ds : List Nd) (l : List Int) (goal : Int) : Bool := by
  classical exact decide (Der ds l goal)
theorem derB_true {ds : List Nd} {l : List Int} {goal : Int} : derB ds l goal = true ↔ Der ds l goal := by
  unfold derB
  simp
set_option maxHeartbeats 4000000 in
set_option maxRecDepth 100000 in
theorem derives_off {F : Nat → Prop} {w : World} {p : Value} {ds : List Nd} (h : Ar F w p ds) {v : Value} {l : List Int} (hd : RdI w v l) (goal : Int) (hgo : ¬ IsT ds goal) :
    Calls Tryd.prog 13 #[p, v, .int .i64 goal] w fun e w' => e = .returned (.tuple #[.bool false, .int .i64 1]) ∧ Kept w w' := by
  have k1 : Kept w (w.alloc (.cells #[.int .i64 goal] 3)) := (Kept.refl w).alloc _
  have ht := termsD (ArG.kept h k1) (OwnI.rd (lit1 w goal))
  have hb : termsB ds [goal] = false := termsB_not (j := 0) (by simp) hgo
  rw [hb] at ht
  clear hgo
  go_enter Tryd.func13, Tryd.ntmps13
  go_wp2_with (go_at_call 35; refine ht.mono ?_; rintro e w' ⟨rfl, rfl⟩)
  go_ret2
  exact ⟨rfl, k1⟩
set_option maxHeartbeats 4000000 in
set_option maxRecDepth 100000 in
theorem derives_bad {F : Nat → Prop} {w : World} {p : Value} {ds : List Nd} (h : Ar F w p ds) {v : Value} {l : List Int} (hd : RdI w v l) (goal : Int) (hgo : IsT ds goal) (hT : termsB ds l = false) :
    Calls Tryd.prog 13 #[p, v, .int .i64 goal] w fun e w' => e = .returned (.tuple #[.bool false, .int .i64 1]) ∧ Kept w w' := by
  have k1 : Kept w (w.alloc (.cells #[.int .i64 goal] 3)) := (Kept.refl w).alloc _
  have ht := termsD (ArG.kept h k1) (OwnI.rd (lit1 w goal))
  have hb : termsB ds [goal] = true := termsB_take (fun j hj => by
    have : j = 0 := by simp at hj; omega
    subst this; exact hgo)
  rw [hb] at ht
  have hlk := look_bad (ArG.kept h k1) (hd.kept k1) hT
  obtain ⟨la, lc, rfl, _, _, _⟩ := hd.len
  clear hgo
  go_enter Tryd.func13, Tryd.ntmps13
  go_wp2_with (first
    | (go_at_call 35; refine ht.mono ?_; rintro e w' ⟨rfl, rfl⟩)
    | (go_at_call 28; refine hlk.mono ?_; rintro e w' ⟨rfl, rfl⟩))
  go_ret2
  exact ⟨rfl, k1⟩
set_option maxHeartbeats 4000000 in
set_option maxRecDepth 100000 in
theorem derives_any {F : Nat → Prop} {w : World} {p : Value} {ds : List Nd} (h : Ar F w p ds) {v : Value} {l : List Int} (hd : RdI w v l) (goal : Int) (hgo : IsT ds goal) (hT : termsB ds l = true) (hll : l.length ≤ 1000000) :
    Calls Tryd.prog 13 #[p, v, .int .i64 goal] w fun e w' => e = .returned (.tuple #[.bool (derB ds l goal), .int .i64 0]) ∧ Kept w w' := by
  have k1 : Kept w (w.alloc (.cells #[.int .i64 goal] 3)) := (Kept.refl w).alloc _
  have ht := termsD (ArG.kept h k1) (OwnI.rd (lit1 w goal))
  have hb : termsB ds [goal] = true := termsB_take (fun j hj => by
    have : j = 0 := by simp at hj; omega
    subst this; exact hgo)
  rw [hb] at ht
  have hlk := look_any (ArG.kept h k1) (hd.kept k1) hT hll
  obtain ⟨la, lc, rfl, _, _, _⟩ := hd.len
  have HGO := Shut.mk hgo
  clear hgo hT hb
  go_enter Tryd.func13, Tryd.ntmps13
  go_wp2_with (go_at_call 35; refine ht.mono ?_; rintro e w' ⟨rfl, rfl⟩)
  (with_reducible refine hlk.mono ?_)
  clear hlk
  rintro e w1 ⟨vp, V, kn, rfl, hv, hV, hkn, k2⟩
  have ka : Kept w1 (w1.alloc (.cells #[.int .i64 goal] 3)) := (Kept.refl w1).alloc _
  have hcan := can_any (hv.kept ka) (OwnI.rd (lit1 w1 goal)) (fun x hx => by rw [List.mem_singleton.1 hx]; exact HGO.out)
  have he : [goal].all (knB kn) = derB ds l goal := by
    obtain ⟨t, rfl, htl⟩ := isT_nat HGO.out
    have := hkn t htl
    simp only [List.all_cons, List.all_nil, Bool.and_true]
    unfold knB
    rw [Int.toNat_natCast, Bool.eq_iff_iff, this, derB_true]
  rw [he] at hcan
  generalize hb : derB ds l goal = b at hcan
  have HB := Shut.mk hb
  clear he hkn hb
  go_wp2_with (go_at_call 30; (with_reducible refine hcan.mono ?_); rintro e w' ⟨rfl, rfl⟩)
  go_ret2
  exact ⟨by rw [HB.out]; rfl, (k1.trans k2).trans ka⟩
end Go.Proofs.YtangbnmgkcmhbaaDoor
end
