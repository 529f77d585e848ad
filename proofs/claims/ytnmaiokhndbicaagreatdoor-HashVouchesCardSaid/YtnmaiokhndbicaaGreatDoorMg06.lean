/- Texts of one proof, put together: HhD, HhE, HhG, HhH, TermBR, HhT, HhI, IntRow, TermR, Rising. -/
import Derived.Test.YtnmaiokhndbicaaGreatDoorMg05
import Derived.Test.YtnmaiokhndbicaaGreatDoorMg04
import Derived.Shelf.Abstract
import Derived.Laws.OwnMore
import Derived.Lib.RowBridge
import Derived.Test.YtnmaiokhndbicaaGreatDoorShelf
import Derived.Test.YtnmaiokhndbicaaGreatDoorMg03
import Derived.Deep.RegionLaw
import Derived.StillTailTactics
import Derived.Deep.RegionHeld3
import Derived.Test.YtnmaiokhndbicaaGreatDoorMg01
import Derived.OwnWalk
import Derived.Deep.RegionHeldLaw
section
/- slices.DeleteFunc of numbers that are leaves; (treehash.leaves).but. -/
set_option linter.unusedSimpArgs false
set_option linter.unusedVariables false
namespace Go.Proofs.YtnmaiokhndbicaaGreatDoor
open Go.RowKit Go.Maps

/-! ## rows -/
theorem OwnI.set' {B : Nat} {w : World} {g c : Nat} {zs : List Int} (h : OwnI B w (.slice (some ⟨g, 0, none⟩) zs.length c) zs) (j : Nat) (z : Int) :
    OwnI B (w.setCell ⟨g, j, none⟩ (.int .i64 z)) (.slice (some ⟨g, 0, none⟩) (zs.set j z).length c) (zs.set j z) := by
  have := (World.ownsRow.stored h j (.int .i64 z)).1
  unfold OwnI Ownv
  rw [List.length_set, List.map_set]
  exact this
theorem OwnI.setsAt {B g c : Nat} : ∀ (ys done rest : List Int) (w : World), rest.length = ys.length → OwnI B w (.slice (some ⟨g, 0, none⟩) (done ++ rest).length c) (done ++ rest) →
    OwnI B (w.setCells g done.length (ys.map (Value.int .i64))) (.slice (some ⟨g, 0, none⟩) (done ++ ys).length c) (done ++ ys) := by
  intro ys
  induction ys with
  | nil =>
    intro done rest w hl h
    obtain rfl : rest = [] := List.eq_nil_of_length_eq_zero hl
    exact h
  | cons y ys ih =>
    intro done rest w hl h
    cases rest with
    | nil => cases hl
    | cons r rest =>
      have h1 := h.set' done.length y
      have e : (done ++ r :: rest).set done.length y = (done ++ [y]) ++ rest := by simp
      rw [e] at h1
      have h2 := ih (done ++ [y]) rest _ (by simpa using hl) h1
      rw [List.length_append, List.length_singleton] at h2
      have e2 : done ++ [y] ++ ys = done ++ y :: ys := by simp
      rw [e2] at h2
      exact h2
theorem OwnI.sets {B g c : Nat} {w : World} {zs : List Int} (h : OwnI B w (.slice (some ⟨g, 0, none⟩) zs.length c) zs) (ys : List Int) (hl : ys.length = zs.length) :
    OwnI B (w.setCells g 0 (ys.map (Value.int .i64))) (.slice (some ⟨g, 0, none⟩) ys.length c) ys := by
  have := OwnI.setsAt (B := B) (g := g) (c := c) ys [] zs w hl.symm (by simpa using h)
  simpa using this

theorem clone_ok {w : World} {v : Value} {zs : List Int} (h : RdI w v zs) (hl : zs.length ≤ 10000000000) :
    Calls Tryz.prog 64 #[v] w fun e w' => ∃ v', e = .returned v' ∧ OwnI w.heap.size w' v' zs ∧ Kept w w' := by
  by_cases hp : 0 < zs.length
  · obtain ⟨b, off, cap, rfl, hc, hm, hb, hcell⟩ := h.addr hp
    refine (Tryz.slices_Clone_int b off zs.length cap zs w (Nat.le_refl _) (by omega) hcell).mono ?_
    rintro e w' ⟨v', rfl, ho, _, hk⟩
    exact ⟨v', rfl, by rw [List.take_length] at ho; exact ho, hk⟩
  · obtain rfl : zs = [] := List.eq_nil_of_length_eq_zero (by omega)
    obtain ⟨a, cap, rfl, h1, h2, h3⟩ := h.len
    cases a with
    | none =>
      refine (Tryz.slices_Clone_int_nil _ _ w).mono ?_
      rintro e w' ⟨rfl, rfl⟩
      exact ⟨_, rfl, OwnI.nil _ _, Kept.refl _⟩
    | some a =>
      refine (Tryz.slices_Clone_int_zero a cap w).mono ?_
      rintro e w' ⟨v', rfl, ho, _, hk⟩
      exact ⟨v', rfl, ho, hk⟩

/-! ## the function that is handed in -/
theorem but1_any {W : World} {g : Nat} {f : Nat → Bool} (hb : Blk W g 58 (offL f)) {n : Nat} (hn : n < 256) :
    Calls Tryz.prog 80 #[.int .i64 (n : Int), .pointer (some ⟨g, 0, none⟩)] W fun e w' => e = .returned (.bool (f n)) ∧ W = w' := by
  have q0 := (hb.cell n).trans (offL_at f hn)
  have n0 : (0 : Int) ≤ (n : Int) := by omega
  have n1 : (n : Int) < 256 := by omega
  clear hb
  go_enter Tryz.func80, Tryz.ntmps80
  go_wp2
  go_ret
  exact ⟨rfl, rfl⟩

def fE (i : Fin 256) : Value := .int .i64 ((i.val : Nat) : Int)
def fI (z : Int) : Fin 256 := Fin.ofNat 256 z.toNat
theorem fE_fI {z : Int} (h0 : 0 ≤ z) (h1 : z < 256) : ((fI z).val : Int) = z := by
  unfold fI
  show ((z.toNat % 256 : Nat) : Int) = z
  omega
def DelPost (B : Nat) (w : World) (v : Value) (zs : List Int) (e : Ending) (w' : World) : Prop := ∃ v' ys, e = .returned v' ∧ OwnI B w' v' ys ∧ (∀ y ∈ ys, y ∈ zs) ∧ ys.length ≤ zs.length ∧ Turn (Blks v) w w'

theorem idx0_any (a : Option Addr) (c : Nat) (g : Value) (w : World) (fn : Fn) (b1 b2 : Array Value) : Calls Tryz.prog 103 #[.slice a 0 c, .func fn b1 b2] w fun e w' => e = .returned (.int .i64 (-1)) ∧ w = w' := by
  go_enter Tryz.func103, Tryz.ntmps103
  go_wp2
  go_loopw [8] (fun c wr => c = .int .i64 0 ∧ w = wr) (fun c _ => 0)
  case atStart => exact ⟨rfl, rfl⟩
  case round =>
    obtain ⟨rfl, rfl⟩ := hrel
    go_wp2
    go_ret
    exact ⟨rfl, rfl⟩
theorem del0_any (a : Option Addr) (c : Nat) (w : World) (fn : Fn) (b1 b2 : Array Value) : Calls Tryz.prog 79 #[.slice a 0 c, .func fn b1 b2] w fun e w' => e = .returned (.slice a 0 c) ∧ w = w' := by
  go_enter Tryz.func79, Tryz.ntmps79
  go_wp2_with (refine (idx0_any a c (.func fn b1 b2) w fn b1 b2).mono ?_; rintro e w' ⟨rfl, rfl⟩)
  go_ret
  exact ⟨rfl, rfl⟩
theorem del_any {B : Nat} {w : World} {v : Value} {zs : List Int} {g : Nat} {f : Nat → Bool} (ho : OwnI B w v zs) (hb : Blk w g 58 (offL f)) (hz : ∀ z ∈ zs, 0 ≤ z ∧ z < 256) :
    Calls Tryz.prog 79 #[v, .func (.func 80) #[] #[.pointer (some ⟨g, 0, none⟩)]] w (DelPost B w v zs) := by
  by_cases hp : 0 < zs.length
  · obtain ⟨blk, cap, rfl, hB, hg⟩ := World.ownsRow.form ho hp
    obtain ⟨_, _, hv, _, hcap, hcm, _⟩ := Ownv.rdv ho
    simp only [Value.slice.injEq] at hv
    obtain ⟨rfl, _, rfl⟩ := hv
    have hne : blk ≠ g := fun e => Ownv.notBlk ho hb (by decide) (by rw [← e]; rfl)
    have hcell : ∀ j, j < zs.length → w.cell? ⟨blk, 0 + j, none⟩ = some (.int .i64 (zs.getD j 0)) := fun j hj => by
      have := World.ownsRow.cells ho rfl j (.int .i64 (zs.getD j 0)) (by simp [List.getD, List.getElem?_eq_getElem hj])
      rwa [Addr.add_lit] at this
    have hzz : ∀ j, j < zs.length → fE (fI (zs.getD j 0)) = .int .i64 (zs.getD j 0) := fun j hj => by
      have := hz (zs.getD j 0) (by rw [List.getD_eq_getElem?_getD, List.getElem?_eq_getElem hj]; exact List.getElem_mem hj)
      unfold fE
      rw [fE_fI this.1 this.2]
    have hH : Sort.Holds fE w blk 0 (zs.map fI).toArray := by
      intro j hj
      have hj' : j < zs.length := by simpa using hj
      refine ⟨?_, ?_⟩
      · rw [hcell j hj', ← hzz j hj']
        simp [List.getD, List.getElem?_eq_getElem hj', getElem!_pos, hj']
      · obtain ⟨cur, hc⟩ := Ownv.obj ho (b := blk) rfl
        simp [World.frozen?, hc]
    have key : ∀ (W : World) (x : Fin 256), W.heap[g]? = w.heap[g]? → FnGives Tryz.prog 80 #[.pointer (some ⟨g, 0, none⟩)] #[fE x] (.bool (f x.val)) W := fun W x hW => by
      have hb' : Blk W g 58 (offL f) := by unfold Blk at hb ⊢; rw [hW]; exact hb
      exact (but1_any hb' x.isLt).mono fun e w' ⟨a, b⟩ => ⟨a, 0, by rw [← b]; rfl⟩
    have hlt := hb.lt
    have hc := Tryz.slices_DeleteFunc fE (fun x => rfl) (fun x : Fin 256 => f x.val) 80 #[.pointer (some ⟨g, 0, none⟩)]
      (enters_of Tryz.func80 (by kernel_rfl) rfl) (0 : Fin 256) (fun w => Tryz.zeroValue3 w) blk 0 cap (zs.map fI).toArray w
      (fun W x hW => key W x (hW.block g hlt))
      (fun n os dk x hs => key _ x (by
        show (((Sort.mapBlock (Sort.ahead w n) blk _).heap) ++ os)[g]? = _
        rw [Array.getElem?_append_left (by simp [Sort.mapBlock, Sort.ahead]; exact hlt)]
        simp [Sort.mapBlock, Sort.ahead, Array.getElem?_modify, hne]))
      hH (by simp; unfold maxLen at hcm; omega) (by simpa using hcap)
    have hsz : (zs.map fI).toArray.size = zs.length := by simp
    rw [hsz] at hc
    (with_reducible refine hc.mono ?_)
    rintro e w' ⟨rfl, q, rfl⟩
    generalize hks : ((zs.map fI).toArray.toList.filter fun x => !f x.val) = ks
    have hkl : ks.length ≤ zs.length := by
      rw [← hks]
      refine Nat.le_trans (List.length_filter_le _ _) ?_
      simp
    generalize hrs : List.replicate (zs.length - ks.length) (0 : Fin 256) = rs
    have hrl : rs.length = zs.length - ks.length := by rw [← hrs, List.length_replicate]
    rw [Lib.putRow_eq_setCells fE w blk 0 (zs.map fI).toArray (ks ++ rs) q hH (by rw [List.length_append, hsz]; omega)]
    have hm : (ks ++ rs).map fE = ((ks ++ rs).map fun i : Fin 256 => ((i.val : Nat) : Int)).map (Value.int .i64) := by
      rw [List.map_map]; rfl
    rw [hm]
    have o1 := OwnI.sets (Ownv.kept ho ((Kept.refl w).drewN q)) ((ks ++ rs).map fun i : Fin 256 => ((i.val : Nat) : Int)) (by rw [List.length_map, List.length_append]; omega)
    have o2 := OwnI.take o1 ks.length (by rw [List.length_map, List.length_append]; omega)
    refine ⟨_, ks.map fun i : Fin 256 => ((i.val : Nat) : Int), rfl, ?_, fun y hy => ?_, by rw [List.length_map]; exact hkl, ?_⟩
    · have e2 : ((ks ++ rs).map fun i : Fin 256 => ((i.val : Nat) : Int)).take ks.length = ks.map fun i : Fin 256 => ((i.val : Nat) : Int) := by
        rw [List.map_append, List.take_left' (by rw [List.length_map])]
      rw [e2] at o2
      exact o2
    · obtain ⟨i, hi, rfl⟩ := List.mem_map.1 hy
      rw [← hks, List.mem_filter] at hi
      obtain ⟨z, hzm, rfl⟩ := List.mem_map.1 (show i ∈ zs.map fI from hi.1)
      rw [fE_fI (hz z hzm).1 (hz z hzm).2]
      exact hzm
    · exact Turn.trans (((Kept.refl w).drewN q).turn _) ((turn_setCells _ blk 0 _).mono fun b hb => by subst hb; rfl) (fun x hx => .inl hx)
  · obtain rfl : zs = [] := List.eq_nil_of_length_eq_zero (by omega)
    obtain ⟨a, c, rfl, h1, h2, h3⟩ := (OwnI.rd ho).len
    refine (del0_any a c w _ _ _).mono ?_
    rintro e w' ⟨rfl, rfl⟩
    exact ⟨_, [], rfl, ho, (fun y h => h), Nat.le_refl _, Turn.refl _ _⟩

def ButPost (w : World) (l : List Int) (e : Ending) (w' : World) : Prop := ∃ v' ys, e = .returned v' ∧ OwnI w.heap.size w' v' ys ∧ (∀ y ∈ ys, y ∈ l) ∧ ys.length ≤ l.length ∧ Kept w w'
set_option maxHeartbeats 4000000 in
set_option maxRecDepth 100000 in
theorem but_any {w : World} {v : Value} {l : List Int} {f : Nat → Bool} (hr : RdI w v l) (hl : l.length ≤ 10000000000) (hz : ∀ z ∈ l, 0 ≤ z ∧ z < 256) :
    Calls Tryz.prog 49 #[offV f, v] w (ButPost w l) := by
  obtain ⟨la, lc, rfl, _, _, _⟩ := hr.len
  have k1 : Kept w (w.alloc (.cells (offL f).toArray 58)) := (Kept.refl w).alloc _
  have b1 := Blk.new w (offL f) 58
  have HC := Lib.hid (clone_ok (hr.kept k1) hl)
  unfold offV
  generalize hA : (offL f).toArray = A at *
  have HA := Shut.mk hA
  clear hA hr
  go_enter Tryz.func49, Tryz.ntmps49
  go_wp2_with fail
  (with_reducible refine HC.out.mono ?_); rintro e w2 ⟨v2, rfl, o2, k2⟩
  have b2 := b1.kept k2
  have hs2 : w.heap.size ≤ (w.alloc (.cells A 58)).heap.size := k1.size
  have HD := Lib.hid (del_any o2 b2 hz)
  have HO := Lib.hid o2
  obtain ⟨va, vc, rfl, _, _, _⟩ := (OwnI.rd o2).len
  clear o2 b1 b2
  have hmf : ∀ (fn : Fn) (first cap : Array Value) (w : World), (Instr.makeFunc fn first cap).run Tryz.prog w = .ok (.func fn first cap) w := fun _ _ _ _ => rfl
  go_wp2_with fail
  (with_reducible refine HD.out.mono ?_); rintro e w3 ⟨v3, ys, rfl, o3, hin, hln, t3⟩
  have k3 : Kept w w3 := Turn.keptOf (k1.trans k2) t3 (fun b hb => Nat.le_trans hs2 (Ownv.lt HO.out hb).2)
  go_wp2
  go_ret
  exact ⟨v3, ys, rfl, Ownv.mono o3 hs2, hin, hln, k3⟩
end Go.Proofs.YtnmaiokhndbicaaGreatDoor
end

section
/- Walks of package treehash: fits. -/
set_option linter.unusedSimpArgs false
set_option linter.unusedVariables false
namespace Go.Proofs.YtnmaiokhndbicaaGreatDoor
open Go.RowKit Go.Maps

/-- A tree that the statements play with: its nodes may stand where they stand, few leaves are Unmerged. -/
structure FewTree (ts : List Rt.TN) (n : Nat) : Prop where
  mn : Rt.MayN ts n
  un : ∀ x, x < 2 * n - 1 → (Rt.nd ts x).un.length ≤ 40
theorem FewTree.bd {ts : List Rt.TN} {n : Nat} (h : FewTree ts n) : 1 ≤ n ∧ n ≤ 256 := Rt.fulls_le h.mn.hn
theorem FewTree.leaf {ts : List Rt.TN} {n x : Nat} (h : FewTree ts n) (hx : x < 2 * n - 1) : ∀ z ∈ (Rt.nd ts x).un, 0 ≤ z ∧ z < 256 := fun z hz => by
  obtain ⟨_, j, rfl, _, _, hj, _⟩ := Rt.un_leaf h.mn hx hz
  have := h.bd
  omega

/-- The array out of its block. -/
theorem load58 {W : World} {g : Nat} {f : Nat → Bool} {A : Array Value} (hb : Blk W g 58 (offL f)) (hA : (offL f).toArray = A) :
    (Instr.loadAt 58 (.pointer (some ⟨g, 0, none⟩))).run Tryz.prog W = .ok (.agg A) W ∧ (loadVar 58 ⟨g, 0, none⟩).run Tryz.prog W = .ok (.agg A) W ∧ (loadCellsFrom ⟨g, 0, none⟩ 0 256 #[]).run Tryz.prog W = .ok A W := by
  subst hA
  have hl := run_loadVar_row (P := Tryz.prog) W g 58 58 (offL f).toArray (0, 0) _ hb Tryz.underlying58 rfl (by rw [Tryz.zero58.2]; simp [offL_len])
  refine ⟨?_, hl, ?_⟩
  · simp only [Instr.loadAt, Instr.sureAddr, Sem.run_bind, Sem.run_pure, Result.andThen]
    exact hl
  · have := run_loadCells_list (P := Tryz.prog) W ⟨g, 0, none⟩ (offL f) (fun j v hv => by
      rw [Addr.add_lit, Nat.zero_add, hb.cell j]; exact hv)
    rw [offL_len] at this
    exact this

/-- A whole array is read within a region that draws. -/
theorem wpStill_load_row {P : Program} {ops : Array Oper} {rest : List Oper} {o : Oper} {a : Act} {w : World} {Q : Act → Prop} (hgd : o.guard = none) (ty : TypeId) (x : Operand) (ho : o.op = .load ty x)
    (g : Nat) (hx : a.eval x = .pointer (some ⟨g, 0, none⟩)) (t : TypeId) (cs : Array Value) (fr : Nat × Nat) (d : TypeDesc) (hg : w.heap[g]? = some (.cells cs t fr))
    (hu : P.underlying ty = some d) (hd : (match d with | .struct _ | .array _ _ => true | _ => false) = true) (hi : (P.info? ty).map (·.size) = some cs.size)
    (h : wpStill P ops w Q rest (a.put o.dst (.agg cs))) : wpStill P ops w Q (o :: rest) a := by
  have hw : Region.wanted o (yielded ops a.tmps) = true := by simp [Region.wanted, hgd]
  show if Region.wanted o (yielded ops a.tmps) then o.still P a w (wpStill P ops w Q rest) else wpStill P ops w Q rest (a.put o.dst undef)
  rw [if_pos hw]
  unfold Oper.still execOp
  simp only [ho, hx, Instr.loadAt, Instr.sureAddr, Sem.run_bind, Sem.run_pure, Result.andThen_ok, run_loadVar_row w g t ty cs fr d hg hu hd hi]
  exact ⟨rfl, h⟩

/-- A whole array is read, where the guard lets it. -/
theorem wpList_load_rowG {P : Program} {ops : Array Oper} {rest : List Oper} {o : Oper} {a : Act} {w : World} {Q : Exit → Act → World → Prop} (ty : TypeId) (x : Operand) (ho : o.op = .load ty x) (hgd : Region.wanted o (yielded ops a.tmps) = true)
    (g : Nat) (hx : a.eval x = .pointer (some ⟨g, 0, none⟩)) (t : TypeId) (cs : Array Value) (fr : Nat × Nat) (d : TypeDesc) (hg : w.heap[g]? = some (.cells cs t fr))
    (hu : P.underlying ty = some d) (hd : (match d with | .struct _ | .array _ _ => true | _ => false) = true) (hi : (P.info? ty).map (·.size) = some cs.size)
    (h : wpList P ops Q rest (a.put o.dst (.agg cs)) w) : wpList P ops Q (o :: rest) a w :=
  wpList_step fun K hK => by
    rw [if_pos hgd]
    exact wp_load_row ty x ho g hx t cs fr d hg hu hd hi (hK _ _ h)

set_option maxHeartbeats 8000000 in
set_option maxRecDepth 100000 in
theorem hfits_ok {w0 : World} {S U : Nat → Prop} {hb : Nat} {p tv : Value} {ts : List Rt.TN} {ds : List Nd} {n : Nat} {f : Nat → Bool} (hn : FewTree ts n) (hT : TabsM w0) : ∀ (k x : Nat), Mth.lvl x = k → x < 2 * n - 1 → ∀ (w : World), Hs w0 S U w hb p tv ts ds →
    Calls Tryz.prog 26 #[.pointer (some ⟨hb, 0, none⟩), .int .i64 (x : Int), offV f] w fun e w' => e = .returned (.bool true) ∧ Kept w w' := by
  intro k
  induction k with
  | zero =>
    intro x hk hx w h
    have hlen := hn.mn.len
    have hbd := hn.bd
    have k1 : Kept w (w.alloc (.cells (offL f).toArray 58)) := (Kept.refl w).alloc _
    have b1 := Blk.new w (offL f) 58
    have HC := Lib.hid (fun W (k : Kept w W) => hchildren_leaf (w := W) (x := x) (by omega) hk ((hT.kept h.arena.kept).kept k))
    obtain ⟨tb, to, tc, la, lc, htv, hat, hun⟩ := h.rd.at (k := x) (by omega)
    subst htv
    have HB := Lib.hid (fun W (k : Kept w W) => but_any (f := f) (hun.kept k) (by have := hn.un x hx; omega) (hn.leaf hx))
    obtain ⟨g0, g1, g2, g3, g4, g5⟩ := hat _ k1.drew
    have q1 := ((h.blk.kept k1).kept ((Kept.refl _).drew)).cell 1
    simp only [List.getElem?_cons_succ, List.getElem?_cons_zero] at q1
    have x0 : (0 : Int) ≤ (x : Int) := by omega
    have x1 : (x : Int) < (ts.length : Int) := by omega
    have u40 := hn.un x hx
    have b1d := b1.kept ((Kept.refl _).drew)
    have k1d := k1.drew
    clear hat hun h hlen hk hx hbd 
    generalize (Rt.nd ts x) = d at *
    unfold offV at *
    generalize hA : (offL f).toArray = A at *
    have bA : (w.alloc (.cells A 58)).drew.heap[w.heap.size]? = some (.cells A 58 (0, 0)) := by rw [← hA]; rw [← hA] at b1d; exact b1d
    have iA : (Tryz.prog.info? 58).map (·.size) = some A.size := by rw [Tryz.zero58.2, ← hA]; simp [offL_len]
    have HA := Shut.mk hA
    clear hA b1
    go_enter Tryz.func26, Tryz.ntmps26
    go_wp2_with fail
    generalize w.alloc (.cells A 58) = w1 at *
    refine wp_region_still_tail 9 (by kernel_rfl) (by kernel_rfl) ?_
    simp only [List.take_succ_cons, List.take_zero, List.drop_succ_cons, List.drop_zero]
    change wpStill _ _ w1.drew _ _ _
    refine wpStill_load_row rfl 58 (.tmp 5) rfl w.heap.size rfl _ A _ _ bA Tryz.underlying58 rfl iA ?_
    repeat still_step
    refine wpStill_nil ?_
    change wpList _ _ _ _ _ w1.drew
    go_wp2_with fail
    (with_reducible refine (HB.out _ k1d).mono ?_); rintro e w2 ⟨v2, ys, rfl, o2, hin, hln, k2⟩
    obtain ⟨va, vc, rfl, v1, v2, v3⟩ := (OwnI.rd o2).len
    have y40 : (ys.length : Int) ≤ 40 := by omega
    have b2 := b1d.kept k2
    have kk := k1d.trans k2
    clear o2 hin hln bA b1d
    go_wp2_with fail
    (with_reducible refine (HC.out _ kk).mono ?_); rintro e w3 ⟨rfl, k3⟩
    have kk3 := kk.trans k3
    go_wp2
    go_ret
    exact ⟨rfl, kk3⟩
  | succ k ih =>
    intro x hk hx w h
    have hlen := hn.mn.len
    have hbd := hn.bd
    obtain ⟨c1, c2, c3, c4⟩ := Rt.kids_lvl (x := x) (by omega) (by omega)
    obtain ⟨d1, d2⟩ := Rt.kids_in hn.mn.hn hx (by omega)
    have k1 : Kept w (w.alloc (.cells (offL f).toArray 58)) := (Kept.refl w).alloc _
    have b1 := Blk.new w (offL f) 58
    have HI1 := Lib.hid (fun W (k : Kept w W) => ih (Mth.left x) (by omega) d1 W (h.step k))
    have HI2 := Lib.hid (fun W (k : Kept w W) => ih (Mth.right x) (by omega) d2 W (h.step k))
    have HC := Lib.hid (fun W (k : Kept w W) => hchildren_kid (w := W) (x := x) (by omega) (by omega) ((hT.kept h.arena.kept).kept k))
    obtain ⟨tb, to, tc, la, lc, htv, hat, hun⟩ := h.rd.at (k := x) (by omega)
    subst htv
    have HB := Lib.hid (fun W (k : Kept w W) => but_any (f := f) (hun.kept k) (by have := hn.un x hx; omega) (hn.leaf hx))
    obtain ⟨g0, g1, g2, g3, g4, g5⟩ := hat _ k1.drew
    have q1 := ((h.blk.kept k1).kept ((Kept.refl _).drew)).cell 1
    simp only [List.getElem?_cons_succ, List.getElem?_cons_zero] at q1
    have x0 : (0 : Int) ≤ (x : Int) := by omega
    have x1 : (x : Int) < (ts.length : Int) := by omega
    have u40 := hn.un x hx
    have b1d := b1.kept ((Kept.refl _).drew)
    have k1d := k1.drew
    clear hat hun h hlen hk hx hbd ih c1 c2 c3 c4 d1 d2
    generalize Mth.left x = xl at *
    generalize Mth.right x = xr at *
    generalize (Rt.nd ts x) = d at *
    unfold offV at *
    generalize hA : (offL f).toArray = A at *
    have bA : (w.alloc (.cells A 58)).drew.heap[w.heap.size]? = some (.cells A 58 (0, 0)) := by rw [← hA]; rw [← hA] at b1d; exact b1d
    have iA : (Tryz.prog.info? 58).map (·.size) = some A.size := by rw [Tryz.zero58.2, ← hA]; simp [offL_len]
    have HA := Shut.mk hA
    clear hA b1
    go_enter Tryz.func26, Tryz.ntmps26
    go_wp2_with fail
    generalize w.alloc (.cells A 58) = w1 at *
    refine wp_region_still_tail 9 (by kernel_rfl) (by kernel_rfl) ?_
    simp only [List.take_succ_cons, List.take_zero, List.drop_succ_cons, List.drop_zero]
    change wpStill _ _ w1.drew _ _ _
    refine wpStill_load_row rfl 58 (.tmp 5) rfl w.heap.size rfl _ A _ _ bA Tryz.underlying58 rfl iA ?_
    repeat still_step
    refine wpStill_nil ?_
    change wpList _ _ _ _ _ w1.drew
    go_wp2_with fail
    (with_reducible refine (HB.out _ k1d).mono ?_); rintro e w2 ⟨v2, ys, rfl, o2, hin, hln, k2⟩
    obtain ⟨va, vc, rfl, v1, v2, v3⟩ := (OwnI.rd o2).len
    have y40 : (ys.length : Int) ≤ 40 := by omega
    have b2 := b1d.kept k2
    have kk := k1d.trans k2
    clear o2 hin hln bA b1d
    go_wp2_with fail
    (with_reducible refine (HC.out _ kk).mono ?_); rintro e w3 ⟨rfl, k3⟩
    have b3 := b2.kept k3
    have kk3 := kk.trans k3
    have bA : w3.heap[w.heap.size]? = some (.cells A 58 (0, 0)) := by rw [← HA.out]; exact b3
    go_wp2_with (refine wpList_load_rowG 58 (.tmp 5) rfl (by rfl) w.heap.size rfl _ A _ _ bA Tryz.underlying58 rfl iA ?_)
    (with_reducible refine (HI1.out _ kk3).mono ?_); rintro e w4 ⟨rfl, k4⟩
    have b4 := b3.kept k4
    have kk4 := kk3.trans k4
    have bA4 : w4.heap[w.heap.size]? = some (.cells A 58 (0, 0)) := by rw [← HA.out]; exact b4
    clear bA
    go_wp2_with (refine wpList_load_rowG 58 (.tmp 5) rfl (by rfl) w.heap.size rfl _ A _ _ bA4 Tryz.underlying58 rfl iA ?_)
    (with_reducible refine (HI2.out _ kk4).mono ?_); rintro e w5 ⟨rfl, k5⟩
    have kk5 := kk4.trans k5
    go_wp2
    go_ret
    exact ⟨rfl, kk5⟩
end Go.Proofs.YtnmaiokhndbicaaGreatDoor
end

section
/- Walks of package treehash: parent. -/
set_option linter.unusedSimpArgs false
set_option linter.unusedVariables false
namespace Go.Proofs.YtnmaiokhndbicaaGreatDoor
open Go.RowKit Go.Maps

theorem At.grow' {w0 : World} {S T G : Nat → Prop} {w w' : World} {p : Value} {ds : List Nd} (h : At w0 S w p ds) (k : Turn G w w') (hG : ∀ b, G b → S b ∧ w0.heap.size ≤ b)
    (hT : ∀ b, T b → (S b ∨ w.heap.size ≤ b) ∧ b < w'.heap.size) (hb : ∀ b, b < w0.heap.size → T b) : At w0 T w' p ds := by
  obtain ⟨F, h1, h2⟩ := h.ar
  refine ⟨⟨F, ArG.turn h1 k (fun b hF hg => h2 b hF (hG b hg).1), fun b hF hTb => ?_⟩, fun b hTb => (hT b hTb).2, hb, Turn.keptOf h.kept k (fun b hb => (hG b hb).2), h.tab⟩
  rcases (hT b hTb).1 with c | c
  · exact h2 b hF c
  · exact absurd (h1.lt b hF) (by omega)
theorem Hs.grow {w0 : World} {S T U G : Nat → Prop} {w w' : World} {hb : Nat} {p tv : Value} {ts : List Rt.TN} {ds : List Nd} (h : Hs w0 S U w hb p tv ts ds) (k : Turn G w w') (hG : ∀ b, G b → S b ∧ w0.heap.size ≤ b ∧ b ≠ hb ∧ ¬ U b)
    (hT : ∀ b, T b → (S b ∨ w.heap.size ≤ b) ∧ b < w'.heap.size) (hb0 : ∀ b, b < w0.heap.size → T b) (h1 : T hb) (hU : ∀ b, U b → T b) : Hs w0 T U w' hb p tv ts ds :=
  ⟨h.arena.grow' k (fun b hb => ⟨(hG b hb).1, (hG b hb).2.1⟩) hT hb0, h.blk.turn k (fun c => (hG hb c).2.2.1 rfl), h1, h.new, fun w2 t => h.tree w2 (Turn.trans (k.mono fun b hb hu => (hG b hb).2.2.2 hu) t (fun x hx => .inl hx)), fun b hb => ⟨hU b hb, (h.sub b hb).2⟩, fun x hx => (h.cells x hx).turn (k.mono fun b hb hu => (hG b hb).2.2.2 hu)⟩
/-- S, and the block of a slice. -/
def SBl (S : Nat → Prop) (v : Value) : Nat → Prop := fun b => S b ∨ Blks v b
/-- The loop's state: what stands in the list so far. -/
structure ParS (w0 : World) (S S3 U : Nat → Prop) (w w3 : World) (hb : Nat) (p tv : Value) (ts : List Rt.TN) (ds : List Nd) (k : Nat) (v : Value) (wr : World) : Prop where
  ex : ∃ (r : List Nd) (us : List Int), OwnI w3.heap.size wr v us ∧ us.length = k ∧ (∀ x ∈ us, IsT (ds ++ r) x) ∧ r.length ≤ k ∧ Hs w0 (SBl S3 v) U wr hb p tv ts (ds ++ r)
  turn : Turn (Wk S3 hb) w3 wr

theorem RdI.lit3' (w : World) (a b c : Int) : RdI (w.alloc (.cells #[.int .i64 a, .int .i64 b, .int .i64 c] 3)) (.slice (some ⟨w.heap.size, 0, none⟩) 3 3) [a, b, c] :=
  OwnI.rd (show OwnI w.heap.size _ _ [a, b, c] from Ownv.lit (B := w.heap.size) 3 (w := w) [.int .i64 a, .int .i64 b, .int .i64 c] (Nat.le_refl _) (by unfold maxLen; simp))
theorem all3 {ds : List Nd} {a b c : Int} (ha : IsT ds a) (hb : IsT ds b) (hc : IsT ds c) : ∀ x ∈ [a, b, c], IsT ds x := fun x hx => by
  simp only [List.mem_cons, List.not_mem_nil, or_false] at hx
  rcases hx with rfl | rfl | rfl <;> assumption
theorem all4 {ds : List Nd} {a b c d : Int} (ha : IsT ds a) (hb : IsT ds b) (hc : IsT ds c) (hd : IsT ds d) : ∀ x ∈ [a, b, c, d], IsT ds x := fun x hx => by
  simp only [List.mem_cons, List.not_mem_nil, or_false] at hx
  rcases hx with rfl | rfl | rfl | rfl <;> assumption
theorem len3 {ds r r4 : List Nd} (h : ds.length + 45 < 100000) (hr : r.length ≤ 40) (h4 : r4.length ≤ 1) : (ds ++ r ++ r4).length < 100000 := by
  rw [List.length_append, List.length_append]; omega
theorem Wk.mono {S T : Nat → Prop} {hb : Nat} (hs : ∀ b, S b → T b) : ∀ b, Wk T hb b → Wk S hb b := fun b h => by
  rcases h with h | h
  · exact .inl fun c => h (hs b c)
  · exact .inr h
theorem par_turn {S : Nat → Prop} {w w3 wr wd w4 w5 w6 : World} {hb : Nat} {v : Value} (k3 : Kept w w3) (ht : Turn (Wk (Plus S w w3) hb) w3 wr) (kd : Kept wr wd) (t4 : Turn (Wk (SBl (Plus S w w3) v) hb) wd w4) (k5 : Kept w4 w5) (t6 : Turn (Wk (SBl (Plus S w w3) v) hb) w5 w6) : Turn (Wk S hb) w w6 :=
  Turn.trans (((Turn.trans ((Turn.trans (k3.turn _) ht (fun b hw => .inl (Wk.mono (fun b hb => .inl hb) b hw))).kept kd) t4 (fun b hw => .inl (Wk.mono (fun b hb => .inl (.inl hb)) b hw)))).kept k5) t6 (fun b hw => .inl (Wk.mono (fun b hb => .inl (.inl hb)) b hw))
theorem ParS.start {w0 : World} {S3 U : Nat → Prop} {w3 : World} {hb : Nat} {p tv : Value} {ts : List Rt.TN} {ds : List Nd} (S : Nat → Prop) (w : World) (H3 : Hs w0 S3 U w3 hb p tv ts ds) : ParS w0 S S3 U w w3 hb p tv ts ds 0 (.slice none 0 0) w3 :=
  ⟨⟨[], [], OwnI.nil _ _, rfl, (fun x hx => by cases hx), Nat.le_refl _, by
    rw [List.append_nil]
    exact H3.more (Kept.refl _) (fun b hb => by
      rcases hb with hb | hb
      · exact ⟨.inl hb, H3.old b hb⟩
      · cases hb) (fun b hb => .inl hb)⟩, Turn.refl _ _⟩
theorem ParS.step {w0 : World} {S S3 U : Nat → Prop} {w w3 wr w4 w5 w6 : World} {hb : Nat} {p tv : Value} {ts : List Rt.TN} {ds r r4 : List Nd} {us : List Int} {k : Nat} {v v6 : Value} {t4 : Int} {d4 : Nd}
    (H3 : Hs w0 S3 U w3 hb p tv ts ds) (ou : OwnI w3.heap.size wr v us) (ul : us.length = k) (ui : ∀ x ∈ us, IsT (ds ++ r) x) (rl : r.length ≤ k) (ht : Turn (Wk S3 hb) w3 wr)
    (h4 : Hs w0 (SBl S3 v) U w4 hb p tv ts (ds ++ r ++ r4)) (hr4 : r4.length ≤ 1) (hQ4 : Is (ds ++ r ++ r4) t4 d4) (t4t : Turn (Wk (SBl S3 v) hb) wr w4) (k5 : Kept w4 w5)
    (o6 : OwnI w3.heap.size w6 v6 (us ++ [t4])) (t6 : Turn (Blks v) w5 w6) (l6 : ∀ b, Blks v6 b → Blks v b ∨ w5.heap.size ≤ b) : ParS w0 S S3 U w w3 hb p tv ts ds (k + 1) v6 w6 := by
  have hv : ∀ b, Blks v b → w3.heap.size ≤ b := fun b hb => (Ownv.lt ou hb).2
  have hb3 := H3.old hb H3.inS
  have h30 := H3.arena.kept.size
  refine ⟨⟨r ++ r4, us ++ [t4], o6, by rw [List.length_append, List.length_singleton, ul], fun x hx => ?_, by rw [List.length_append]; omega, ?_⟩, ?_⟩
  · rw [← List.append_assoc]
    rcases List.mem_append.1 hx with c | c
    · exact (ui x c).more r4
    · rw [List.mem_singleton.1 c]; exact hQ4.isT
  · rw [← List.append_assoc]
    refine (h4.step k5).grow t6 (fun b hb => ⟨.inr hb, by have := hv b hb; omega, fun e => by have := hv b hb; omega, fun hu => by have := hv b hb; have := H3.old b (H3.sub b hu).1; omega⟩) (fun b hT => ?_) (fun b hb => .inl (H3.arena.base b hb)) (.inl H3.inS) (fun b hu => .inl (H3.sub b hu).1)
    rcases hT with c | c
    · exact ⟨.inl (.inl c), by have := H3.old b c; have := ht.size; have := t4t.size; have := k5.size; have := t6.size; omega⟩
    · refine ⟨?_, (Ownv.lt o6 c).1⟩
      rcases l6 b c with e | e
      · exact .inl (.inr e)
      · exact .inr e
  · refine Turn.trans (Turn.trans (Turn.trans ht t4t (fun b hw => ?_)) (k5.turn (fun _ => False)) (fun b hf => hf.elim)) t6 (fun b hb => .inr (hv b hb))
    rcases hw with c | c
    · exact .inl (.inl fun c2 => c (.inl c2))
    · exact .inl (.inr c)

set_option maxHeartbeats 8000000 in
set_option maxRecDepth 100000 in
theorem hparent_no {w0 : World} {S U : Nat → Prop} {w : World} {hb : Nat} {p tv : Value} {ts : List Rt.TN} {ds : List Nd} (h : Hs w0 S U w hb p tv ts ds) {v : Value} {d : Rt.TN} {f : Nat → Bool} (hv : RdTn w v d) (h0 : d.kd = 0) (hl : ds.length < 100000) :
    Calls Tryz.prog 53 #[.pointer (some ⟨hb, 0, none⟩), v, offV f] w (HMk w0 S U w hb p tv ts ds 1 IsT) := by
  obtain ⟨lv, rfl, hr⟩ := hv
  obtain ⟨la, lc, rfl, _, _, _⟩ := hr.len
  have bN : Blk (w.alloc (.cells #[.int .i64 d.kd, .int .i64 d.id, .int .i64 d.enc, .int .i64 d.sig, .int .i64 d.hash, .slice la d.un.length lc] 29)) w.heap.size 29 [.int .i64 d.kd, .int .i64 d.id, .int .i64 d.enc, .int .i64 d.sig, .int .i64 d.hash, .slice la d.un.length lc] := Blk.new _ _ _
  have k1 : Kept w (w.alloc (.cells #[.int .i64 d.kd, .int .i64 d.id, .int .i64 d.enc, .int .i64 d.sig, .int .i64 d.hash, .slice la d.un.length lc] 29)) := (Kept.refl w).alloc _
  have k2 := k1.alloc (.cells (offL f).toArray 58)
  have n0 := (bN.kept ((Kept.refl _).alloc (.cells (offL f).toArray 58))).cell 0
  simp only [List.getElem?_cons_succ, List.getElem?_cons_zero] at n0
  have HN := Lib.hid (hnone_ok (h.step k2) hl)
  have c : (d.kd == 0) = true := by rw [h0]; rfl
  unfold offV
  generalize (offL f).toArray = A at *
  clear h hr bN h0
  go_enter Tryz.func53, Tryz.ntmps53
  go_wp2_with fail
  (with_reducible refine HN.out.mono ?_); rintro e w2 ⟨r, t, rfl, h2, hr, hQ, t2⟩
  go_wp2
  go_ret
  exact ⟨r, t, rfl, h2, hr, hQ.isT, Turn.trans (k2.turn _) t2 (fun b h => .inl h)⟩

set_option maxHeartbeats 8000000 in
set_option maxRecDepth 100000 in
theorem hparent_yes {w0 : World} {S U : Nat → Prop} {w : World} {hb : Nat} {p tv : Value} {ts : List Rt.TN} {ds : List Nd} (h : Hs w0 S U w hb p tv ts ds) {v : Value} {d : Rt.TN} {f : Nat → Bool} (hv : RdTn w v d) (h0 : d.kd ≠ 0) (he : IsT ds d.enc) (hh : IsT ds d.hash)
    (hun : d.un.length ≤ 40) (hz : ∀ z ∈ d.un, 0 ≤ z ∧ z < 256) (hl : ds.length + 45 < 100000) :
    Calls Tryz.prog 53 #[.pointer (some ⟨hb, 0, none⟩), v, offV f] w (HMk w0 S U w hb p tv ts ds 45 IsT) := by
  obtain ⟨lv, rfl, hr⟩ := hv
  obtain ⟨la, lc, rfl, _, _, _⟩ := hr.len
  have bN : Blk (w.alloc (.cells #[.int .i64 d.kd, .int .i64 d.id, .int .i64 d.enc, .int .i64 d.sig, .int .i64 d.hash, .slice la d.un.length lc] 29)) w.heap.size 29 [.int .i64 d.kd, .int .i64 d.id, .int .i64 d.enc, .int .i64 d.sig, .int .i64 d.hash, .slice la d.un.length lc] := Blk.new _ _ _
  have k1 : Kept w (w.alloc (.cells #[.int .i64 d.kd, .int .i64 d.id, .int .i64 d.enc, .int .i64 d.sig, .int .i64 d.hash, .slice la d.un.length lc] 29)) := (Kept.refl w).alloc _
  have s1 : (w.alloc (.cells #[.int .i64 d.kd, .int .i64 d.id, .int .i64 d.enc, .int .i64 d.sig, .int .i64 d.hash, .slice la d.un.length lc] 29)).heap.size = w.heap.size + 1 := alloc_size _ _
  have bO := Blk.new (w.alloc (.cells #[.int .i64 d.kd, .int .i64 d.id, .int .i64 d.enc, .int .i64 d.sig, .int .i64 d.hash, .slice la d.un.length lc] 29)) (offL f) 58
  rw [s1] at bO
  have k2 := k1.alloc (.cells (offL f).toArray 58)
  have bN2 := bN.kept ((Kept.refl _).alloc (.cells (offL f).toArray 58))
  have n0 := bN2.cell 0
  have n5 := bN2.cell 5
  simp only [List.getElem?_cons_succ, List.getElem?_cons_zero] at n0 n5
  have c : (d.kd == 0) = false := by rw [beq_eq_false_iff_ne]; exact h0
  have HB := Lib.hid (but_any (f := f) (hr.kept k2) (by omega) hz)
  have HH := Lib.hid h
  have HZ := Shut.mk hz
  unfold offV at *
  generalize hA : (offL f).toArray = A at *
  have bA : ((w.alloc (.cells #[.int .i64 d.kd, .int .i64 d.id, .int .i64 d.enc, .int .i64 d.sig, .int .i64 d.hash, .slice la d.un.length lc] 29)).alloc (.cells A 58)).heap[w.heap.size + 1]? = some (.cells A 58 (0, 0)) := by rw [← hA]; rw [← hA] at bO; exact bO
  have iA : (Tryz.prog.info? 58).map (·.size) = some A.size := by rw [Tryz.zero58.2, ← hA]; simp [offL_len]
  have HA := Shut.mk hA
  clear hA h hr bN h0 hz s1 bO k1
  generalize hw2 : (w.alloc (.cells #[.int .i64 d.kd, .int .i64 d.id, .int .i64 d.enc, .int .i64 d.sig, .int .i64 d.hash, .slice la d.un.length lc] 29)).alloc (.cells A 58) = w2 at *
  go_enter Tryz.func53, Tryz.ntmps53
  go_upto_region 1 with fail
  clear hw2
  go_wp2_with (refine wpList_load_rowG 58 (.tmp 5) rfl (by rfl) (w.heap.size + 1) rfl _ A _ _ bA Tryz.underlying58 rfl iA ?_)
  (with_reducible refine HB.out.mono ?_); rintro e w3 ⟨va, ys, rfl, oy, hin, hln, k3⟩
  obtain ⟨ya, yc, rfl, y1, y2, y3⟩ := (OwnI.rd oy).len
  have kk3 := k2.trans k3
  have y40 : ys.length ≤ 40 := by omega
  have y63 : (ys.length : Int) ≤ 40 := by omega
  have bN3 := bN2.kept k3
  have HY := Shut.mk (show ∀ j, j < ys.length → 0 ≤ ys.getD j 0 ∧ ys.getD j 0 < 256 from fun j hj => HZ.out _ (hin _ (getD_memI hj)))
  have H3 := Lib.hid (HH.out.plus kk3)
  have s2 := k2.size
  have s3 := k3.size
  have hlt := Shut.mk bN3.lt
  have hbo := Shut.mk (show w.heap.size < w2.heap.size from bN2.lt)
  have OY := Lib.hid oy
  have YI : ∀ b, Blks (.slice ya ys.length yc) b → Plus S w w3 b := fun b hb => .inr ⟨by have := (Ownv.lt oy hb).2; omega, (Ownv.lt oy hb).1⟩
  have YI := Shut.mk YI
  have NI := Shut.mk (show Plus S w w3 w.heap.size from .inr ⟨Nat.le_refl _, hlt.out⟩)
  clear hin hln oy
  go_wp2
  go_loopw [7, 20] (fun l c wr => ∃ k : Nat, k ≤ ys.length ∧ c = .int .i64 k ∧ (∃ u, u = l ∧ ParS w0 S (Plus S w w3) U w w3 hb p tv ts ds k u wr)) (fun _ c _ => ys.length - (intOf c).toNat)
  case atStart => exact ⟨0, Nat.zero_le _, rfl, _, rfl, ParS.start S w H3.out⟩
  case round =>
    obtain ⟨k, hk0, rfl, v, rfl, hs⟩ := hrel
    obtain ⟨⟨r, us, ou, ul, ui, rl, hS⟩, ht⟩ := hs
    have hbl : hb < w.heap.size := HH.out.old hb HH.out.inS
    by_cases hlt : k < ys.length
    · have oyr := Ownv.turn OY.out ht (fun b hb' c => c.elim (fun c => c (YI.out b hb')) (fun e => by have := (Ownv.lt OY.out hb').2; omega))
      obtain ⟨rb, ro, rc, hrv, _, _, hrb, hcl⟩ := (OwnI.rd oyr).addr (by omega)
      simp only [Value.slice.injEq] at hrv
      obtain ⟨rfl, _, rfl⟩ := hrv
      have hcw := hcl k hlt
      have hz := HY.out k hlt
      have k0 : (0 : Int) ≤ (k : Int) := by omega
      have k1 : (k : Int) < (ys.length : Int) := by omega
      have HN := Lib.hid (hnumber_ok hS (ys.getD k 0) ⟨by omega, by omega⟩ (by rw [List.length_append]; omega))
      generalize ys.getD k 0 = z at hcw HN
      have PS := Lib.hid (fun r4 w4 w5 w6 t4 d4 v6 => ParS.step (S := S) (w := w) (w4 := w4) (w5 := w5) (w6 := w6) (r4 := r4) (t4 := t4) (d4 := d4) (v6 := v6) H3.out ou ul ui rl ht)
      have OU := Lib.hid ou
      have UL := Shut.mk ul
      have ht3 := ht.size
      clear hcl hz ou ul ui ht hS oyr
      go_wp2_with fail
      (with_reducible refine HN.out.mono ?_); rintro e w4 ⟨r4, t4, rfl, h4, hr4, hQ4, tt4⟩
      have k5 : Kept w4 (w4.alloc (.cells #[.int .i64 t4] 3)) := (Kept.refl w4).alloc _
      have o4 := Ownv.turn OU.out tt4 (fun b hb' c => c.elim (fun c => c (.inr hb')) (fun e => by have := (Ownv.lt OU.out hb').2; omega))
      have o5 := Ownv.kept o4 k5
      have r5 := OwnI.rd (OwnI.lit1 w4 t4)
      have hs5 : w3.heap.size ≤ (w4.alloc (.cells #[.int .i64 t4] 3)).heap.size := by have := tt4.size; have := k5.size; omega
      have ul10 : us.length + 1 ≤ 10000000000 := by rw [UL.out]; omega
      have PS2 := Lib.hid (fun w6 v6 => PS.out r4 w4 (w4.alloc (.cells #[.int .i64 t4] 3)) w6 t4 _ v6 h4 hr4 hQ4 tt4 k5)
      clear PS h4 hQ4 o4 tt4 HN
      go_wp2_with (at_builtin; refine go_appi w3.heap.size v us rfl o5 _ [t4] rfl r5 ul10 hs5 ?_; intro v6 w6 o6 t6 l6)
      go_roundw
      case rel => exact ⟨k + 1, hlt, by go_num, v6, rfl, PS2.out w6 v6 o6 t6 l6⟩
      case measure => simp [intOf]; omega
    · have hke : k = ys.length := by omega
      have k1 : ¬ (k : Int) < (ys.length : Int) := by omega
      have bNr := bN3.turn ht (fun c => c.elim (fun c => c NI.out) (fun e => by omega))
      have bNd := bNr.kept ((Kept.refl wr).drew)
      have kd : Kept wr wr.drew := (Kept.refl wr).drew
      have q2 := bNd.cell 2
      have q4 := bNd.cell 4
      simp only [List.getElem?_cons_succ, List.getElem?_cons_zero] at q2 q4
      have u64 : us.length ≤ 64 := by omega
      have r41 : r.length ≤ 40 := by omega
      have RL := Shut.mk r41
      have hl1 : (ds ++ r).length < 100000 := by rw [List.length_append]; omega
      have HL1 := Lib.hid (hlist_ok (hS.step kd) ((OwnI.rd ou).kept kd) u64 ui hl1)
      obtain ⟨va, vc, hvv, _, _, _⟩ := (OwnI.rd ou).len
      subst hvv
      have HT := Shut.mk ht
      have HE := Shut.mk (show IsT (ds ++ r) d.enc ∧ IsT (ds ++ r) d.hash from ⟨he.more r, hh.more r⟩)
      have HL := Shut.mk hl
      have BN := Lib.hid bNd
      have HBL := Shut.mk hbl
      clear hke ul ui rl hS ht bNr bNd u64 r41 hl1 ou hk0 hlt he hh hl hun hbl
      go_wp2
      go_region_with (first
        | (go_at_call 78; (with_reducible refine HL2.out.mono ?_); rintro e w6 ⟨r6, t6, rfl, h6, hr6, hQ6, tt6⟩)
        | (go_at_call 78; (with_reducible refine HL1.out.mono ?_); rintro e w4 ⟨r4, t4, rfl, h4, hr4, hQ4, tt4⟩; have b4 := BN.out.turn tt4 (fun c => c.elim (fun c => c (.inl NI.out)) (fun e => Nat.ne_of_gt HBL.out e)); have x2 := b4.cell 2; have x4 := b4.cell 4; simp only [List.getElem?_cons_succ, List.getElem?_cons_zero] at x2 x4; have k5 : Kept w4 (w4.alloc (.cells #[.int .i64 d.enc, .int .i64 d.hash, .int .i64 t4] 3)) := (Kept.refl w4).alloc _; have HL2 := Lib.hid (hlist_ok (h4.step k5) (RdI.lit3' w4 d.enc d.hash t4) (by simp) (all3 (HE.out.1.more r4) (HE.out.2.more r4) hQ4.isT) (len3 HL.out RL.out hr4)))
        | fail)
      all_goals
        go_wp2
        go_ret
        exact ⟨r ++ r4 ++ r6, t6, rfl, by
          rw [show ds ++ (r ++ r4 ++ r6) = ds ++ r ++ r4 ++ r6 by simp]
          exact h6.fewer (fun b hb => .inl (.inl hb)) (fun b hb => HH.out.arena.base b hb) HH.out.inS (fun b hu => (HH.out.sub b hu).1), by
          have := RL.out
          rw [List.length_append, List.length_append]; omega, by
          rw [show ds ++ (r ++ r4 ++ r6) = ds ++ r ++ r4 ++ r6 by simp]
          exact hQ6.isT, par_turn kk3 HT.out kd tt4 k5 tt6⟩
end Go.Proofs.YtnmaiokhndbicaaGreatDoor
end

section
/- Walks of package treehash: hash. -/
set_option linter.unusedSimpArgs false
set_option linter.unusedVariables false
namespace Go.Proofs.YtnmaiokhndbicaaGreatDoor
open Go.RowKit Go.Maps

def leafS : List UInt8 := [108, 101, 97, 102]
def nodeS : List UInt8 := [110, 111, 100, 101]
def vouchS : List UInt8 := [118, 111, 117, 99, 104]
/-- The hash of a leaf's node. -/
def LeafH (d : Rt.TN) (i : Int) (off : Bool) (es : List Nd) (t : Int) : Prop := ∃ a b c, Is es a ⟨2, 0, leafS, []⟩ ∧ Is es b ⟨2, 0, Lib.itoa i, []⟩ ∧ LeafQ d off es c ∧ HashL [a, b, c] es t
theorem HashL.isT {l : List Int} {es : List Nd} {t : Int} (h : HashL l es t) : IsT es t := by
  obtain ⟨x, _, h⟩ := h
  exact h.isT
theorem LeafH.isT {d : Rt.TN} {i : Int} {off : Bool} {es : List Nd} {t : Int} (h : LeafH d i off es t) : IsT es t := by
  obtain ⟨_, _, _, _, _, _, h⟩ := h
  exact h.isT
theorem LeafQ.more {d : Rt.TN} {off : Bool} {es : List Nd} {t : Int} (h : LeafQ d off es t) (r : List Nd) : LeafQ d off (es ++ r) t := by
  unfold LeafQ at h ⊢
  split at h
  · rw [if_pos (by assumption)]; exact h.more r
  · rw [if_neg (by assumption)]; exact h.more r
theorem HashL.more {l : List Int} {es : List Nd} {t : Int} (h : HashL l es t) (r : List Nd) : HashL l (es ++ r) t := by
  obtain ⟨x, h1, h2⟩ := h
  exact ⟨x, h1.more r, h2.more r⟩

/-- What the regions of hash read: the tree, the node, whether the leaf is off. -/
def HoldL (hb tb o g j : Nat) (tv : Value) (d : Rt.TN) (lv : Value) (b : Bool) (w' : World) : Prop :=
  w'.cell? ⟨hb, 1, none⟩ = some tv ∧ w'.cell? ⟨tb, o, none⟩ = some (.int .i64 d.kd) ∧ w'.cell? ⟨tb, o + 1, none⟩ = some (.int .i64 d.id) ∧ w'.cell? ⟨tb, o + 2, none⟩ = some (.int .i64 d.enc) ∧
  w'.cell? ⟨tb, o + 3, none⟩ = some (.int .i64 d.sig) ∧ w'.cell? ⟨tb, o + 4, none⟩ = some (.int .i64 d.hash) ∧ w'.cell? ⟨tb, o + 5, none⟩ = some lv ∧ w'.cell? ⟨g, j, none⟩ = some (.bool b)
theorem Hs.hold {w0 : World} {S U : Nat → Prop} {w2 w4 : World} {hb tb o g j : Nat} {p tv lv : Value} {ts : List Rt.TN} {es : List Nd} {d : Rt.TN} {f : Nat → Bool} (hj : j < 256)
    (hc : ∀ w', Turn (fun b => ¬ U b) w2 w' → TnAt w' tb o d lv ∧ RdI w' lv d.un) (bo : Blk w2 g 58 (offL f)) (hg : S g ∧ g ≠ hb) (h4 : Hs w0 S U w4 hb p tv ts es) (t : Turn (Wk S hb) w2 w4) : HoldL hb tb o g j tv d lv (f j) w4 := by
  obtain ⟨c0, c1, c2, c3, c4, c5⟩ := (hc w4 (t.mono fun b hw hu => by
    rcases hw with hw | hw
    · exact hw (h4.sub b hu).1
    · exact (h4.sub b hu).2 hw)).1
  refine ⟨h4.blk.cell 1, c0, c1, c2, c3, c4, c5, ?_⟩
  have b4 := bo.turn t (fun c => c.elim (fun c => c hg.1) (fun c => hg.2 c))
  exact (b4.cell j).trans (offL_at f hj)
theorem Hs.holdR {w0 : World} {S U : Nat → Prop} {w2 w4 : World} {hb tb o : Nat} {p tv lv : Value} {ts : List Rt.TN} {es : List Nd} {d : Rt.TN}
    (hc : ∀ w', Turn (fun b => ¬ U b) w2 w' → TnAt w' tb o d lv ∧ RdI w' lv d.un) (h4 : Hs w0 S U w4 hb p tv ts es) (t : Turn (Wk S hb) w2 w4) : RdI w4 lv d.un :=
  (hc w4 (t.mono fun b hw hu => by
    rcases hw with hw | hw
    · exact hw (h4.sub b hu).1
    · exact (h4.sub b hu).2 hw)).2
theorem four_more {ds : List Nd} {d : Rt.TN} (h : d.kd ≠ 0 → IsT ds d.id ∧ IsT ds d.enc ∧ IsT ds d.sig ∧ IsT ds d.hash) (r s : List Nd) : d.kd ≠ 0 → IsT (ds ++ r ++ s) d.id ∧ IsT (ds ++ r ++ s) d.enc ∧ IsT (ds ++ r ++ s) d.sig ∧ IsT (ds ++ r ++ s) d.hash := fun h0 => by
  obtain ⟨a, b, c, e⟩ := h h0
  exact ⟨(a.more r).more s, (b.more r).more s, (c.more r).more s, (e.more r).more s⟩
theorem HoldL.kept {hb tb o g j : Nat} {tv lv : Value} {d : Rt.TN} {b : Bool} {w w' : World} (h : HoldL hb tb o g j tv d lv b w) (k : Kept w w') : HoldL hb tb o g j tv d lv b w' := by
  obtain ⟨h0, h1, h2, h3, h4, h5, h6, h7⟩ := h
  exact ⟨(k.cell (p := ⟨hb, 1, none⟩) (World.block_lt_of_cell? _ _ h0)).trans h0, (k.cell (p := ⟨tb, o, none⟩) (World.block_lt_of_cell? _ _ h1)).trans h1, (k.cell (p := ⟨tb, o + 1, none⟩) (World.block_lt_of_cell? _ _ h2)).trans h2, (k.cell (p := ⟨tb, o + 2, none⟩) (World.block_lt_of_cell? _ _ h3)).trans h3,
    (k.cell (p := ⟨tb, o + 3, none⟩) (World.block_lt_of_cell? _ _ h4)).trans h4, (k.cell (p := ⟨tb, o + 4, none⟩) (World.block_lt_of_cell? _ _ h5)).trans h5, (k.cell (p := ⟨tb, o + 5, none⟩) (World.block_lt_of_cell? _ _ h6)).trans h6, (k.cell (p := ⟨g, j, none⟩) (World.block_lt_of_cell? _ _ h7)).trans h7⟩

set_option maxHeartbeats 8000000 in
set_option maxRecDepth 100000 in
theorem hhash_leaf {w0 : World} {S U : Nat → Prop} {w : World} {hb : Nat} {p tv : Value} {ts : List Rt.TN} {ds : List Nd} {n x j : Nat} {f : Nat → Bool} (hn : FewTree ts n) (hT : TabsM w0) (h : Hs w0 S U w hb p tv ts ds) (hxj : x = 2 * j) (hx : x < 2 * n - 1) (hl0 : Mth.lvl x = 0)
    (htm : (Rt.nd ts x).kd ≠ 0 → IsT ds (Rt.nd ts x).id ∧ IsT ds (Rt.nd ts x).enc ∧ IsT ds (Rt.nd ts x).sig ∧ IsT ds (Rt.nd ts x).hash) (hl : ds.length + 6 < 100000) :
    Calls Tryz.prog 28 #[.pointer (some ⟨hb, 0, none⟩), .int .i64 (x : Int), offV f] w (HMk w0 S U w hb p tv ts ds 6 (LeafH (Rt.nd ts x) j (f j))) := by
  have hlen := hn.mn.len
  have hbd := hn.bd
  have k1 : Kept w (w.alloc (.cells (offL f).toArray 58)) := (Kept.refl w).alloc _
  have b1 := Blk.new w (offL f) 58
  have H1 := h.plus k1
  have HC := Lib.hid (hchildren_leaf (w := w.alloc (.cells (offL f).toArray 58)) (x := x) (by omega) hl0 ((hT.kept h.arena.kept).kept k1))
  obtain ⟨tb, to, tc, la, lc, htv, hat⟩ := H1.cells x (by omega)
  subst htv
  have hj : j < 256 := by omega
  have x0 : (0 : Int) ≤ (x : Int) := by omega
  have x1 : (x : Int) < (ts.length : Int) := by omega
  have hq : (x : Int) / 2 = (j : Int) := by omega
  have j0 : (0 : Int) ≤ (j : Int) := by omega
  have j1 : (j : Int) < 256 := by omega
  have hsz : w.heap.size < (w.alloc (.cells (offL f).toArray 58)).heap.size := b1.lt
  have hbl := h.old hb h.inS
  have hg : (Plus S w (w.alloc (.cells (offL f).toArray 58))) w.heap.size ∧ w.heap.size ≠ hb := ⟨.inr ⟨Nat.le_refl _, hsz⟩, by omega⟩
  have HH := Lib.hid h
  have HTM := Shut.mk htm
  have HJ := Shut.mk hj
  have HL := Shut.mk hl
  clear hxj hl0 hx hlen hbd hbl hsz h htm hj hl
  generalize Rt.nd ts x = d at *
  unfold offV at *
  have B1 := Lib.hid b1
  generalize hA : (offL f).toArray = A at *
  have HA := Shut.mk hA
  clear hA b1
  go_enter Tryz.func28, Tryz.ntmps28
  go_wp2_with fail
  generalize w.alloc (.cells A 58) = w1 at *
  (with_reducible refine HC.out.mono ?_); rintro e w2 ⟨rfl, k2⟩
  go_wp2_with fail
  have k12 := k1.trans k2
  have B2 := Lib.hid (B1.out.kept k2)
  have H2 := Lib.hid (H1.step k2)
  have hat2 : ∀ w', Turn (fun b => ¬ U b) w2 w' → TnAt w' tb (to + x * 6) d (.slice la d.un.length lc) ∧ RdI w' (.slice la d.un.length lc) d.un := fun w' t => hat w' (Turn.trans (k2.turn _) t (fun x hx => .inl hx))
  have HAT := Lib.hid hat2
  have hdn := (hat2 w2 (Turn.refl _ _)).2
  have KP := Lib.hid (fun (w4 : World) (es : List Nd) (h4 : Hs w0 (Plus S w w1) U w4 hb p (.slice (some ⟨tb, to, none⟩) ts.length tc) ts es) (t : Turn (Wk (Plus S w w1) hb) w2 w4) => Hs.hold (w4 := w4) (es := es) HJ.out HAT.out B2.out hg h4 t)
  have kp := KP.out _ _ H2.out (Turn.refl _ _)
  have kd : Kept w2 w2.drew := (Kept.refl w2).drew
  have kpd := kp.kept kd
  have C1 := Lib.hid (htext_ok (H2.out.step kd) leafS (by decide) (by have := HL.out; omega))
  rw [show strB leafS = ⟨#[108, 101, 97, 102]⟩ from rfl] at C1
  clear hat hat2 HC H1 B1 B2
  unfold HoldL at kpd
  go_region_held3 (fun w' => w'.cell? ⟨hb, 1, none⟩ = some (.slice (some ⟨tb, to, none⟩) ts.length tc) ∧ w'.cell? ⟨tb, to + x * 6, none⟩ = some (.int .i64 d.kd) ∧ w'.cell? ⟨tb, to + x * 6 + 1, none⟩ = some (.int .i64 d.id) ∧ w'.cell? ⟨tb, to + x * 6 + 2, none⟩ = some (.int .i64 d.enc) ∧
      w'.cell? ⟨tb, to + x * 6 + 3, none⟩ = some (.int .i64 d.sig) ∧ w'.cell? ⟨tb, to + x * 6 + 4, none⟩ = some (.int .i64 d.hash) ∧ w'.cell? ⟨tb, to + x * 6 + 5, none⟩ = some (.slice la d.un.length lc) ∧ w'.cell? ⟨w.heap.size, j, none⟩ = some (.bool (f j)))
    (first
      | (with_reducible exact kpd)
      | (with_reducible exact kp4)
      | (with_reducible exact kp5)
      | (with_reducible exact kp6)
      | (with_reducible exact kp7)
      | (with_reducible exact kp8))
    (first
      | (go_at_call 48; (with_reducible refine C1.out.mono ?_); rintro e w4 ⟨r1, t1, rfl, h4, hr1, hQ1, tt1⟩; have tu1 := Turn.trans (kd.turn (Wk (Plus S w w1) hb)) tt1 (fun b hw => .inl hw); have kp4 := KP.out _ _ h4 tu1; unfold HoldL at kp4; have C2 := Lib.hid (hnumber_ok h4 (j : Int) ⟨by omega, by omega⟩ (by have := HL.out; rw [List.length_append]; omega)))
      | (go_at_call 51; (with_reducible refine C2.out.mono ?_); rintro e w5 ⟨r2, t2, rfl, h5, hr2, hQ2, tt2⟩; have tu2 := Turn.trans tu1 tt2 (fun b hw => .inl hw); have kp5 := KP.out _ _ h5 tu2; unfold HoldL at kp5; have C3 := Lib.hid (hleaf_ok h5 (v := .agg #[.int .i64 d.kd, .int .i64 d.id, .int .i64 d.enc, .int .i64 d.sig, .int .i64 d.hash, .slice la d.un.length lc]) ⟨_, rfl, Hs.holdR HAT.out h5 tu2⟩ (f j) (four_more HTM.out r1 r2) (by have := HL.out; rw [List.length_append, List.length_append]; omega)))
      | (go_at_call 52; (with_reducible refine C3.out.mono ?_); rintro e w6 ⟨r3, t3, rfl, h6, hr3, hQ3, tt3⟩; have tu3 := Turn.trans tu2 tt3 (fun b hw => .inl hw); have kp6 := KP.out _ _ h6 tu3; have k7 : Kept w6 (w6.alloc (.cells #[.int .i64 t1, .int .i64 t2, .int .i64 t3] 3)) := (Kept.refl w6).alloc _; have kp7 := kp6.kept k7; unfold HoldL at kp6 kp7; have C4 := Lib.hid (hashOf_ok (h6.step k7) (RdI.lit3' w6 t1 t2 t3) (by simp) (all3 ((hQ1.isT.more r2).more r3) (hQ2.isT.more r3) hQ3.isT) (by have := HL.out; rw [List.length_append, List.length_append, List.length_append]; omega)))
      | (go_at_call 47; (with_reducible refine C4.out.mono ?_); rintro e w8 ⟨r4, t4, rfl, h8, hr4, hQ4, tt4⟩; have tu4 := Turn.trans (tu3.kept k7) tt4 (fun b hw => .inl hw); have kp8 := KP.out _ _ h8 tu4; unfold HoldL at kp8))
  all_goals
    have ea : ds ++ (r1 ++ r2 ++ r3 ++ r4) = ds ++ r1 ++ r2 ++ r3 ++ r4 := by simp
    have EA := Shut.mk ea
    clear ea
    go_wp2
    go_ret
    refine ⟨r1 ++ r2 ++ r3 ++ r4, t4, rfl, ?_, ?_, ?_, Turn.trans (k12.turn _) tu4 (fun b hw => .inl (Wk.mono (fun b hb => .inl hb) b hw))⟩
    · rw [EA.out]
      exact h8.fewer (fun b hb => .inl hb) (fun b hb => HH.out.arena.base b hb) HH.out.inS (fun b hu => (HH.out.sub b hu).1)
    · rw [List.length_append, List.length_append, List.length_append]; omega
    · rw [EA.out]
      exact ⟨t1, t2, t3, ((hQ1.more r2).more r3).more r4, (hQ2.more r3).more r4, hQ3.more r4, hQ4⟩
end Go.Proofs.YtnmaiokhndbicaaGreatDoor
end

section
/- The document's arena: what it is, New, Len. -/
set_option linter.unusedSimpArgs false
set_option linter.unusedVariables false
namespace Go.Proofs.YtnmaiokhndbicaaGreatDoor
open Go.RowKit Go.Maps

def ArR (F : Nat → Prop) (w : World) (p : Value) (ds : List Nd) : Prop := ArG 80 keyR F w p ds

theorem newR_any (w : World) : Calls Tryz.prog 17 #[] w fun e w' => ∃ (F : Nat → Prop) (p : Value), e = .returned p ∧ ArR F w' p [] ∧ Kept w w' ∧ (∀ b, F b → w.heap.size ≤ b) ∧ p = .pointer (some ⟨w.heap.size + 1, 0, none⟩) := by
  have hmm := @run_makeMap Tryz.prog
  go_enter Tryz.func17, Tryz.ntmps17
  go_wp2
  go_ret
  exact ⟨fun b => b = w.heap.size ∨ b = w.heap.size + 1, .pointer (some ⟨w.heap.size + 1, 0, none⟩), rfl, arg_new w, ((Kept.refl w).alloc _).alloc _, fun b hb => (by omega), rfl⟩
theorem lenR {F : Nat → Prop} {w : World} {p : Value} {ds : List Nd} (h : ArR F w p ds) :
    Calls Tryz.prog 20 #[p] w fun e w' => e = .returned (.int .i64 ds.length) ∧ w = w' := by
  obtain ⟨pb, mb, nv, rfl, c0, c1, hr⟩ := ArG.nodes h
  obtain ⟨a, cap, rfl, _, _, _⟩ := hr.len
  go_enter Tryz.func20, Tryz.ntmps20
  go_wp2
  go_ret
  exact ⟨rfl, rfl⟩
end Go.Proofs.YtnmaiokhndbicaaGreatDoor
end

section
/- The document's layer 9: Terms (written by gen_terms.py). -/
set_option linter.unusedSimpArgs false
set_option linter.unusedVariables false
namespace Go.Proofs.YtnmaiokhndbicaaGreatDoor
open Go.RowKit
open Rt

/-- A number is one of m terms. -/
def Tm (m : Nat) (x : Int) : Prop := 0 ≤ x ∧ x < (m : Int)
/-- The terms of a node are so. -/
def TnTm (m : Nat) (d : TN) : Prop := d.kd ≠ 0 → (Tm m d.enc ∧ Tm m d.hash) ∧ (d.kd = 1 → Tm m d.id ∧ Tm m d.sig)
def TermsOk (t : List TN) (m : Nat) : Prop := ∀ x, x < t.length → TnTm m (nd t x)
def TermsPost (w : World) (t : List TN) (m : Nat) (e : Ending) (w' : World) : Prop := ∃ b : Bool, e = .returned (.bool b) ∧ (b = true → chkB t = true ∧ TermsOk t m) ∧ Kept w w'
theorem OwnI.lit2' (w : World) (a b : Int) : OwnI w.heap.size (w.alloc (.cells #[.int .i64 a, .int .i64 b] 3)) (.slice (some ⟨w.heap.size, 0, none⟩) 2 2) [a, b] :=
  Ownv.lit (B := w.heap.size) 3 (w := w) [.int .i64 a, .int .i64 b] (Nat.le_refl _) (by unfold maxLen; simp)
set_option maxHeartbeats 8000000 in
set_option maxRecDepth 100000 in
theorem rterms_any {w : World} {tv p : Value} {t : List TN} {F : Nat → Prop} {ds : List Nd} (ht : RdTs w tv t) (hok : ∀ d ∈ t, TnOk d) (ha : ArR F w p ds) :
    Calls Tryz.prog 8 #[p, tv] w (TermsPost w t ds.length) := by
  have HC := Lib.hid (rcheck_any ht hok)
  cases hc : chkB t with
  | false =>
    rw [hc] at HC
    have HC : Hid (Calls Tryz.prog 6 #[tv] w fun e w' => e = .returned (.int .i64 1) ∧ Kept w w') := HC
    obtain ⟨ta, tc, rfl, t1, t2, t3⟩ := ht.len
    go_enter Tryz.func8, Tryz.ntmps8
    go_wp2_with fail
    (with_reducible refine HC.out.mono ?_); rintro e w1 ⟨rfl, k1⟩
    go_wp2
    go_ret
    exact ⟨false, rfl, (fun h => by cases h), k1⟩
  | true =>
    rw [hc] at HC
    have HC : Hid (Calls Tryz.prog 6 #[tv] w fun e w' => e = .returned (.int .i64 0) ∧ Kept w w') := HC
    have HLn := Lib.hid (fun W (k : Kept w W) => lenR (ArG.kept ha k))
    have hf := ha.few
    obtain ⟨ta, tc, rfl, t1, t2, t3⟩ := ht.len
    have t63 : ((t.length : Nat) : Int) ≤ 9223372036854775807 := by unfold maxLen at t2; omega
    have HX := Shut.mk hc
    clear hc ha
    generalize ds.length = m at HLn hf ⊢
    have m0 : (0 : Int) ≤ (m : Int) := by omega
    have m1 : (m : Int) ≤ 100000 := by omega
    go_enter Tryz.func8, Tryz.ntmps8
    go_wp2_with fail
    (with_reducible refine HC.out.mono ?_); rintro e w1 ⟨rfl, k1⟩
    go_wp2
    go_loopw [15] (fun c wr => ∃ k : Nat, k ≤ t.length ∧ c = .int .i64 k ∧ (∀ i, i < k → TnTm m (nd t i)) ∧ Kept w wr) (fun c _ => t.length - (intOf c).toNat)
    case atStart => exact ⟨0, Nat.zero_le _, rfl, fun i hi => absurd hi (Nat.not_lt_zero _), k1⟩
    case round =>
      obtain ⟨k, hk, rfl, hall, hkw⟩ := hrel
      have HAll := Shut.mk hall
      clear hall
      by_cases hlt : k < t.length
      · obtain ⟨zb, zo, zc, za, zcc, hzv, hzat, hzun⟩ := ht.at (k := k) hlt
        simp only [Value.slice.injEq] at hzv
        obtain ⟨rfl, -, rfl⟩ := hzv
        obtain ⟨g0, g1, g2, g3, g4, g5⟩ := hzat _ hkw
        have k0 : (0 : Int) ≤ (k : Int) := by omega
        have k1 : (k : Int) < (t.length : Int) := by omega
        have HQ := Shut.mk (show ∀ i, i < k + 1 → i = k ∨ i < k from fun i hi => by omega)
        clear hzat hzun
        generalize hd : nd t k = d at g0 g1 g2 g3 g4 g5
        have HD := Shut.mk hd
        clear hd
        generalize d.un.length = ul at g5
        have bX : Blk (wr.alloc (.cells #[.int .i64 d.kd, .int .i64 d.id, .int .i64 d.enc, .int .i64 d.sig, .int .i64 d.hash, .slice za ul zcc] 29)) wr.heap.size 29 [.int .i64 d.kd, .int .i64 d.id, .int .i64 d.enc, .int .i64 d.sig, .int .i64 d.hash, .slice za ul zcc] := Blk.new _ _ _
        have kX : Kept w (wr.alloc (.cells #[.int .i64 d.kd, .int .i64 d.id, .int .i64 d.enc, .int .i64 d.sig, .int .i64 d.hash, .slice za ul zcc] 29)) := hkw.alloc _
        have oX := OwnI.lit2' (wr.alloc (.cells #[.int .i64 d.kd, .int .i64 d.id, .int .i64 d.enc, .int .i64 d.sig, .int .i64 d.hash, .slice za ul zcc] 29)) d.enc d.hash
        have kY := (Kept.refl (wr.alloc (.cells #[.int .i64 d.kd, .int .i64 d.id, .int .i64 d.enc, .int .i64 d.sig, .int .i64 d.hash, .slice za ul zcc] 29))).alloc (.cells #[.int .i64 d.enc, .int .i64 d.hash] 3)
        have bY := bX.kept kY
        have kY' := kX.trans kY
        have sX : (wr.alloc (.cells #[.int .i64 d.kd, .int .i64 d.id, .int .i64 d.enc, .int .i64 d.sig, .int .i64 d.hash, .slice za ul zcc] 29)).heap.size = wr.heap.size + 1 := alloc_size _ _
        rw [sX] at oX
        have y0 := bY.cell 0
        have y1 := bY.cell 1
        have y3 := bY.cell 3
        simp only [List.getElem?_cons_succ, List.getElem?_cons_zero] at y0 y1 y3
        clear sX bX kX kY
        by_cases e1 : d.kd = 1
        · have E1 := Shut.mk e1
          have z1 : (d.kd == 1) = true := by rw [e1]; rfl
          clear e1
          have hs5 : w.heap.size ≤ wr.heap.size := hkw.size
          have s4 : ((wr.alloc (.cells #[.int .i64 d.kd, .int .i64 d.id, .int .i64 d.enc, .int .i64 d.sig, .int .i64 d.hash, .slice za ul zcc] 29)).alloc (.cells #[.int .i64 d.enc, .int .i64 d.hash] 3)).heap.size = wr.heap.size + 1 + 1 := by rw [alloc_size, alloc_size]
          have oZ := OwnI.rd (OwnI.lit2' ((wr.alloc (.cells #[.int .i64 d.kd, .int .i64 d.id, .int .i64 d.enc, .int .i64 d.sig, .int .i64 d.hash, .slice za ul zcc] 29)).alloc (.cells #[.int .i64 d.enc, .int .i64 d.hash] 3)) d.id d.sig)
          rw [s4] at oZ
          have kZ := (Kept.refl ((wr.alloc (.cells #[.int .i64 d.kd, .int .i64 d.id, .int .i64 d.enc, .int .i64 d.sig, .int .i64 d.hash, .slice za ul zcc] 29)).alloc (.cells #[.int .i64 d.enc, .int .i64 d.hash] 3))).alloc (.cells #[.int .i64 d.id, .int .i64 d.sig] 3)
          have oX' := Ownv.kept (Ownv.mono oX (Nat.le_succ _)) kZ
          have bZ := bY.kept kZ
          have kZ' := kY'.trans kZ
          have hsz : wr.heap.size ≤ (((wr.alloc (.cells #[.int .i64 d.kd, .int .i64 d.id, .int .i64 d.enc, .int .i64 d.sig, .int .i64 d.hash, .slice za ul zcc] 29)).alloc (.cells #[.int .i64 d.enc, .int .i64 d.hash] 3)).alloc (.cells #[.int .i64 d.id, .int .i64 d.sig] 3)).heap.size := Nat.le_trans (Nat.le_of_lt bY.lt) kZ.size
          clear s4 oX bY kY' y0 kZ
          go_wp2_with (at_builtin; refine go_appi wr.heap.size _ [d.enc, d.hash] rfl oX' _ [d.id, d.sig] rfl oZ (by simp) hsz ?_; intro v5 w5 o5 t5 l5; have k5 : Kept w w5 := Turn.keptOf kZ' t5 (fun b hb => Nat.le_trans hs5 (Ownv.lt oX' hb).2); have b5 := bZ.turn t5 (fun hb => Ownv.notBlk oX' bZ (by decide) hb); have HZS := Shut.mk (show (d.kd ≠ 0 → ∀ i, i < ([d.enc, d.hash] ++ [d.id, d.sig]).length → Tm m (([d.enc, d.hash] ++ [d.id, d.sig]).getD i 0)) → TnTm m d from fun H h => ⟨⟨H h 0 (by simp), H h 1 (by simp)⟩, fun _ => ⟨H h 2 (by simp), H h 3 (by simp)⟩⟩); have hzl : ([d.enc, d.hash] ++ [d.id, d.sig]).length ≤ 4 := (by simp); generalize ([d.enc, d.hash] ++ [d.id, d.sig]) = zs at o5 HZS hzl; obtain ⟨va, vc, rfl, v1, v2, v3⟩ := (OwnI.rd o5).len)
          go_loopw [36] (fun c w2 => ∃ j : Nat, j ≤ zs.length ∧ c = .int .i64 j ∧ (d.kd ≠ 0 → ∀ i, i < j → Tm m (zs.getD i 0)) ∧ Kept w5 w2) (fun c _ => zs.length - (intOf c).toNat)
          case atStart => exact ⟨0, Nat.zero_le _, rfl, fun _ i hi => absurd hi (Nat.not_lt_zero _), Kept.refl _⟩
          case round =>
            obtain ⟨j, hj, rfl, hal2, hk2⟩ := hrel
            have HA2 := Shut.mk hal2
            clear hal2
            have kq := k5.trans hk2
            have q0 := (b5.kept hk2).cell 0
            simp only [List.getElem?_cons_succ, List.getElem?_cons_zero] at q0
            by_cases hjl : j < zs.length
            · obtain ⟨rb, ro, rc, hrv, _, _, hrb, hcl⟩ := (OwnI.rd o5).addr (by omega)
              simp only [Value.slice.injEq] at hrv
              obtain ⟨rfl, _, rfl⟩ := hrv
              have hcw := (hk2.cell (p := ⟨rb, ro + j, none⟩) hrb).trans (hcl j hjl)
              clear hcl
              have j0 : (0 : Int) ≤ (j : Int) := by omega
              have j1 : (j : Int) < (zs.length : Int) := by omega
              have HQ2 := Shut.mk (show ∀ i, i < j + 1 → i = j ∨ i < j from fun i hi => by omega)
              generalize hz : zs.getD j 0 = z at hcw
              have HZ := Shut.mk hz
              clear hz
              have HL2 := Lib.hid (HLn.out _ kq)
              by_cases e0 : d.kd = 0
              · have z0 : (d.kd != 0) = false := by rw [e0]; rfl
                have E0 := Shut.mk e0
                clear e0
                go_wp2
                go_roundw
                case rel => exact ⟨j + 1, hjl, by go_num, fun h => absurd E0.out h, hk2⟩
                case measure => simp [intOf]; omega
              · have z0 : (d.kd != 0) = true := by rw [bne_iff_ne]; exact e0
                have E0 := Shut.mk e0
                clear e0
                by_cases c0 : z < 0
                · go_wp2_with ((with_reducible refine HL2.out.mono ?_); rintro e w6 ⟨rfl, rfl⟩)
                  go_ret
                  exact ⟨false, rfl, (fun h => by cases h), kq⟩
                · by_cases c1 : (m : Int) ≤ z
                  · go_wp2_with ((with_reducible refine HL2.out.mono ?_); rintro e w6 ⟨rfl, rfl⟩)
                    go_ret
                    exact ⟨false, rfl, (fun h => by cases h), kq⟩
                  · have HT := Shut.mk (show Tm m z from ⟨by omega, by omega⟩)
                    go_wp2_with ((with_reducible refine HL2.out.mono ?_); rintro e w6 ⟨rfl, rfl⟩)
                    go_roundw
                    case rel => exact ⟨j + 1, hjl, by go_num, fun h i hi => by
                      rcases HQ2.out i hi with rfl | c
                      · rw [HZ.out]; exact HT.out
                      · exact HA2.out h i c, hk2⟩
                    case measure => simp [intOf]; omega
            · have hjn : ¬ (j : Int) < (zs.length : Int) := by omega
              have hje : j = zs.length := by omega
              have HJe := Shut.mk hje
              clear hje
              go_wp2
              go_roundw
              case rel => exact ⟨k + 1, hlt, by go_num, fun i hi => by
                rcases HQ.out i hi with rfl | c
                · rw [HD.out]; exact HZS.out fun h i hi => HA2.out h i (by rw [HJe.out]; exact hi)
                · exact HAll.out i c, kq⟩
              case measure => simp [intOf]; omega
        · have E1 := Shut.mk e1
          have z1 : (d.kd == 1) = false := by rw [beq_eq_false_iff_ne]; exact e1
          clear e1
          have hs5 : w.heap.size ≤ wr.heap.size := hkw.size
          go_wp2_with fail
          generalize (wr.alloc (.cells #[.int .i64 d.kd, .int .i64 d.id, .int .i64 d.enc, .int .i64 d.sig, .int .i64 d.hash, .slice za ul zcc] 29)).alloc (.cells #[.int .i64 d.enc, .int .i64 d.hash] 3) = w5 at *
          have HZS := Shut.mk (show (d.kd ≠ 0 → ∀ i, i < ([d.enc, d.hash] : List Int).length → Tm m (([d.enc, d.hash] : List Int).getD i 0)) → TnTm m d from fun H h => ⟨⟨H h 0 (by simp), H h 1 (by simp)⟩, fun h1 => absurd h1 E1.out⟩)
          have hzl : ([d.enc, d.hash] : List Int).length ≤ 4 := by simp
          have hz2 : ([d.enc, d.hash] : List Int).length = 2 := rfl
          have o5 := oX
          have k5 := kY'
          have b5 := bY
          have HZ2 := Shut.mk hz2
          clear hz2
          have o5 : OwnI (wr.heap.size + 1) w5 (.slice (some ⟨wr.heap.size + 1, 0, none⟩) 2 2) [d.enc, d.hash] := o5
          clear y0 y1 y3 bY oX hs5
          generalize wr.heap.size + 1 = sz at *
          go_wp2
          go_loopw [36] (fun c w2 => ∃ j : Nat, j ≤ 2 ∧ c = .int .i64 j ∧ (d.kd ≠ 0 → ∀ i, i < j → Tm m (([d.enc, d.hash] : List Int).getD i 0)) ∧ Kept w5 w2) (fun c _ => 2 - (intOf c).toNat)
          case atStart => exact ⟨0, Nat.zero_le _, rfl, fun _ i hi => absurd hi (Nat.not_lt_zero _), Kept.refl _⟩
          case round =>
            obtain ⟨j, hj, rfl, hal2, hk2⟩ := hrel
            have HA2 := Shut.mk hal2
            clear hal2
            have kq := k5.trans hk2
            have q0 := (b5.kept hk2).cell 0
            simp only [List.getElem?_cons_succ, List.getElem?_cons_zero] at q0
            by_cases hjl : j < 2
            · obtain ⟨rb, ro, rc, hrv, _, _, hrb, hcl⟩ := (OwnI.rd o5).addr (by simp)
              simp only [Value.slice.injEq, Option.some.injEq, Addr.mk.injEq] at hrv
              obtain ⟨⟨rfl, rfl, _⟩, _, rfl⟩ := hrv
              have hcw := (hk2.cell (p := ⟨sz, 0 + j, none⟩) hrb).trans (hcl j (by simp; omega))
              rw [Nat.zero_add] at hcw
              clear hcl
              have j0 : (0 : Int) ≤ (j : Int) := by omega
              have j1 : (j : Int) < (2 : Int) := by omega
              have HQ2 := Shut.mk (show ∀ i, i < j + 1 → i = j ∨ i < j from fun i hi => by omega)
              generalize hz : ([d.enc, d.hash] : List Int).getD j 0 = z at hcw
              have HZ := Shut.mk hz
              clear hz
              have HL2 := Lib.hid (HLn.out _ kq)
              by_cases e0 : d.kd = 0
              · have z0 : (d.kd != 0) = false := by rw [e0]; rfl
                have E0 := Shut.mk e0
                clear e0
                go_wp2
                go_roundw
                case rel => exact ⟨j + 1, hjl, by go_num, fun h => absurd E0.out h, hk2⟩
                case measure => simp [intOf]; omega
              · have z0 : (d.kd != 0) = true := by rw [bne_iff_ne]; exact e0
                have E0 := Shut.mk e0
                clear e0
                by_cases c0 : z < 0
                · go_wp2_with ((with_reducible refine HL2.out.mono ?_); rintro e w6 ⟨rfl, rfl⟩)
                  go_ret
                  exact ⟨false, rfl, (fun h => by cases h), kq⟩
                · by_cases c1 : (m : Int) ≤ z
                  · go_wp2_with ((with_reducible refine HL2.out.mono ?_); rintro e w6 ⟨rfl, rfl⟩)
                    go_ret
                    exact ⟨false, rfl, (fun h => by cases h), kq⟩
                  · have HT := Shut.mk (show Tm m z from ⟨by omega, by omega⟩)
                    go_wp2_with ((with_reducible refine HL2.out.mono ?_); rintro e w6 ⟨rfl, rfl⟩)
                    go_roundw
                    case rel => exact ⟨j + 1, hjl, by go_num, fun h i hi => by
                      rcases HQ2.out i hi with rfl | c
                      · rw [HZ.out]; exact HT.out
                      · exact HA2.out h i c, hk2⟩
                    case measure => simp [intOf]; omega
            · have hjn : ¬ (j : Int) < (2 : Int) := by omega
              have hje : j = 2 := by omega
              have HJe := Shut.mk hje
              clear hje
              go_wp2
              go_roundw
              case rel => exact ⟨k + 1, hlt, by go_num, fun i hi => by
                rcases HQ.out i hi with rfl | c
                · rw [HD.out]; exact HZS.out fun h i hi => HA2.out h i (by rw [HJe.out]; exact hi)
                · exact HAll.out i c, kq⟩
              case measure => simp [intOf]; omega
      · have hkn : ¬ (k : Int) < (t.length : Int) := by omega
        have hke : k = t.length := by omega
        have HKe := Shut.mk hke
        clear hke
        go_wp2
        go_ret
        exact ⟨true, rfl, fun _ => ⟨HX.out, fun i hi => HAll.out i (by rw [HKe.out]; exact hi)⟩, hkw⟩
end Go.Proofs.YtnmaiokhndbicaaGreatDoor
end

section
/- Walks of package treehash: hash of any node. -/
set_option linter.unusedSimpArgs false
set_option linter.unusedVariables false
namespace Go.Proofs.YtnmaiokhndbicaaGreatDoor
open Go.RowKit Go.Maps

/-- No more terms are made for a node of level k. -/
def cN : Nat → Nat
  | 0 => 6
  | k + 1 => 48 + 2 * cN k
theorem Tm.isT {m : Nat} {x : Int} (h : Tm m x) {ds : List Nd} (hm : m ≤ ds.length) : IsT ds x := ⟨h.1, by have := h.2; omega⟩

theorem hparent_ok {w0 : World} {S U : Nat → Prop} {w : World} {hb : Nat} {p tv : Value} {ts : List Rt.TN} {ds : List Nd} (h : Hs w0 S U w hb p tv ts ds) {v : Value} {d : Rt.TN} (f : Nat → Bool) (hv : RdTn w v d) (he : d.kd ≠ 0 → IsT ds d.enc ∧ IsT ds d.hash)
    (hun : d.un.length ≤ 40) (hz : ∀ z ∈ d.un, 0 ≤ z ∧ z < 256) (hl : ds.length + 45 < 100000) :
    Calls Tryz.prog 53 #[.pointer (some ⟨hb, 0, none⟩), v, offV f] w (HMk w0 S U w hb p tv ts ds 45 IsT) := by
  by_cases c : d.kd = 0
  · exact (hparent_no h hv c (by omega)).mono fun e w' h => h.mono (by omega) (fun _ _ h => h)
  · exact hparent_yes h hv c (he c).1 (he c).2 hun hz hl

/-- What the region of hash reads: the tree, the node, the array. -/
def HoldN (hb tb o g : Nat) (tv : Value) (d : Rt.TN) (lv : Value) (L : List Value) (w' : World) : Prop :=
  w'.cell? ⟨hb, 1, none⟩ = some tv ∧ w'.cell? ⟨tb, o, none⟩ = some (.int .i64 d.kd) ∧ w'.cell? ⟨tb, o + 1, none⟩ = some (.int .i64 d.id) ∧ w'.cell? ⟨tb, o + 2, none⟩ = some (.int .i64 d.enc) ∧
  w'.cell? ⟨tb, o + 3, none⟩ = some (.int .i64 d.sig) ∧ w'.cell? ⟨tb, o + 4, none⟩ = some (.int .i64 d.hash) ∧ w'.cell? ⟨tb, o + 5, none⟩ = some lv ∧ w'.rangeAt g 0 L
theorem Hs.holdN {w0 : World} {S U : Nat → Prop} {w2 w4 : World} {hb tb o g : Nat} {p tv lv : Value} {ts : List Rt.TN} {es : List Nd} {d : Rt.TN} {L : List Value}
    (hc : ∀ w', Turn (fun b => ¬ U b) w2 w' → TnAt w' tb o d lv ∧ RdI w' lv d.un) (bo : Blk w2 g 58 L) (hg : S g ∧ g ≠ hb) (h4 : Hs w0 S U w4 hb p tv ts es) (t : Turn (Wk S hb) w2 w4) : HoldN hb tb o g tv d lv L w4 := by
  obtain ⟨c0, c1, c2, c3, c4, c5⟩ := (hc w4 (t.mono fun b hw hu => by
    rcases hw with hw | hw
    · exact hw (h4.sub b hu).1
    · exact (h4.sub b hu).2 hw)).1
  refine ⟨h4.blk.cell 1, c0, c1, c2, c3, c4, c5, fun j v hv => ?_⟩
  have b4 := bo.turn t (fun c => c.elim (fun c => c hg.1) (fun c => hg.2 c))
  rw [Nat.zero_add]
  exact (b4.cell j).trans hv
theorem HoldN.kept {hb tb o g : Nat} {tv lv : Value} {d : Rt.TN} {L : List Value} {w w' : World} (h : HoldN hb tb o g tv d lv L w) (k : Kept w w') : HoldN hb tb o g tv d lv L w' := by
  obtain ⟨h0, h1, h2, h3, h4, h5, h6, h7⟩ := h
  exact ⟨(k.cell (p := ⟨hb, 1, none⟩) (World.block_lt_of_cell? _ _ h0)).trans h0, (k.cell (p := ⟨tb, o, none⟩) (World.block_lt_of_cell? _ _ h1)).trans h1, (k.cell (p := ⟨tb, o + 1, none⟩) (World.block_lt_of_cell? _ _ h2)).trans h2, (k.cell (p := ⟨tb, o + 2, none⟩) (World.block_lt_of_cell? _ _ h3)).trans h3,
    (k.cell (p := ⟨tb, o + 3, none⟩) (World.block_lt_of_cell? _ _ h4)).trans h4, (k.cell (p := ⟨tb, o + 4, none⟩) (World.block_lt_of_cell? _ _ h5)).trans h5, (k.cell (p := ⟨tb, o + 5, none⟩) (World.block_lt_of_cell? _ _ h6)).trans h6, fun j v hv => (k.cell (p := ⟨g, 0 + j, none⟩) (World.block_lt_of_cell? _ _ (h7 j v hv))).trans (h7 j v hv)⟩
theorem RdI.lit4' (w : World) (a b c d : Int) : RdI (w.alloc (.cells #[.int .i64 a, .int .i64 b, .int .i64 c, .int .i64 d] 3)) (.slice (some ⟨w.heap.size, 0, none⟩) 4 4) [a, b, c, d] :=
  OwnI.rd (show OwnI w.heap.size _ _ [a, b, c, d] from Ownv.lit (B := w.heap.size) 3 (w := w) [.int .i64 a, .int .i64 b, .int .i64 c, .int .i64 d] (Nat.le_refl _) (by unfold maxLen; simp))

/-- Number i of a list first. -/
theorem wpAnyH_takeL {P : Program} {md : Region.Mode} {Q : Exit → Act → World → Prop} {S : World → Prop} {l : List Oper} {i : Nat} {oi : Oper} {v : Value} {fuel : Nat} {listed : Array Bool} {a : Act} {w : World} (hi : l[i]? = some oi)
    (hs : Region.noSelect l.toArray = true) (hf : Region.free md l.toArray listed i = true) (hr : (Region.ready md l.toArray listed).contains i = true)
    (hQ : ∀ c a w, Q (.panic c) (a.put oi.dst v) w → Q (.panic c) a w) (hy : YieldsIf P l.toArray S oi v a) (hS : S w)
    (h : wpAnyH P md l.toArray Q S fuel (listed.setIfInBounds i true) (a.put oi.dst v) w) : wpAnyH P md l.toArray Q S (fuel + 1) listed a w :=
  wpAnyH_take (by rw [List.getElem?_toArray]; exact hi) hs hf hr hQ hy hS h
theorem AllReadyH_consL {P : Program} {md : Region.Mode} {Q : Exit → Act → World → Prop} {S : World → Prop} {l : List Oper} {fuel : Nat} {listed : Array Bool} {a : Act} {w : World} {i : Nat} {o : Oper} {rs : List Nat} (ho : l[i]? = some o)
    (h : ∀ K' : Act → World → Prop, Go.Shut (∀ a w, S w → (S w → wpAnyH P md l.toArray Q S fuel (listed.setIfInBounds i true) a w) → K' a w) → if Region.wanted o (yielded l.toArray a.tmps) = true then Oper.wp P o a w K' Q else K' (a.put o.dst undef) w)
    (hs : AllReadyH P md l.toArray Q S fuel listed a w rs) : AllReadyH P md l.toArray Q S fuel listed a w (i :: rs) :=
  AllReadyH.cons (by rw [List.getElem?_toArray]; exact ho) h hs

set_option maxHeartbeats 16000000 in
set_option maxRecDepth 100000 in
theorem hhash_any {w0 : World} {U : Nat → Prop} {hb : Nat} {p tv : Value} {ts : List Rt.TN} {n m : Nat} {f : Nat → Bool} (hn : FewTree ts n) (hT : TabsM w0) (hm : TermsOk ts m) :
    ∀ (k x : Nat), Mth.lvl x = k → x < 2 * n - 1 → ∀ (S : Nat → Prop) (w : World) (ds : List Nd), Hs w0 S U w hb p tv ts ds → m ≤ ds.length → ds.length + cN k < 100000 →
    Calls Tryz.prog 28 #[.pointer (some ⟨hb, 0, none⟩), .int .i64 (x : Int), offV f] w (HMk w0 S U w hb p tv ts ds (cN k) IsT) := by
  intro k
  induction k with
  | zero =>
    intro x hk hx S w ds h hmd hl
    have hev := (Rt.even_node (x := x) (by have := hn.bd; omega)).1.2 hk
    have hxl : x < ts.length := by rw [hn.mn.len]; exact hx
    refine (hhash_leaf hn hT h (x := x) (j := x / 2) (by omega) hx hk (fun h0 => ?_) (by unfold cN at hl; omega)).mono fun e w' h => h.mono (Nat.le_refl _) (fun _ _ h => h.isT)
    have h1 := (hn.mn.leaf x hx h0 hev).1
    obtain ⟨⟨e1, e2⟩, e3⟩ := hm x hxl h0
    exact ⟨(e3 h1).1.isT hmd, e1.isT hmd, (e3 h1).2.isT hmd, e2.isT hmd⟩
  | succ k ih =>
    intro x hk hx S w ds h hmd hl
    have hlen := hn.mn.len
    have hbd := hn.bd
    obtain ⟨c1, c2, c3, c4⟩ := Rt.kids_lvl (x := x) (by omega) (by omega)
    obtain ⟨d1, d2⟩ := Rt.kids_in hn.mn.hn hx (by omega)
    have k1 : Kept w (w.alloc (.cells (offL f).toArray 58)) := (Kept.refl w).alloc _
    have b1 := Blk.new w (offL f) 58
    have H1 := h.plus k1
    have HI1 := Lib.hid (fun W es hs h1 h2 => ih (Mth.left x) (by omega) d1 (Plus S w (w.alloc (.cells (offL f).toArray 58))) W es hs h1 h2)
    have HI2 := Lib.hid (fun W es hs h1 h2 => ih (Mth.right x) (by omega) d2 (Plus S w (w.alloc (.cells (offL f).toArray 58))) W es hs h1 h2)
    have HC := Lib.hid (hchildren_kid (w := w.alloc (.cells (offL f).toArray 58)) (x := x) (by omega) (by omega) ((hT.kept h.arena.kept).kept k1))
    obtain ⟨tb, to, tc, la, lc, htv, hat⟩ := H1.cells x (by omega)
    subst htv
    have x0 : (0 : Int) ≤ (x : Int) := by omega
    have x1 : (x : Int) < (ts.length : Int) := by omega
    have hsz : w.heap.size < (w.alloc (.cells (offL f).toArray 58)).heap.size := b1.lt
    have hbl := h.old hb h.inS
    have hg : (Plus S w (w.alloc (.cells (offL f).toArray 58))) w.heap.size ∧ w.heap.size ≠ hb := ⟨.inr ⟨Nat.le_refl _, hsz⟩, by omega⟩
    have HU := Shut.mk (hn.un x hx)
    have HZ := Shut.mk (hn.leaf hx)
    have HTM := Shut.mk (show ∀ es : List Nd, ds.length ≤ es.length → (Rt.nd ts x).kd ≠ 0 → IsT es (Rt.nd ts x).enc ∧ IsT es (Rt.nd ts x).hash from fun es he h0 => by
      obtain ⟨⟨e1, e2⟩, _⟩ := hm x (by omega) h0
      exact ⟨e1.isT (by omega), e2.isT (by omega)⟩)
    have HH := Lib.hid h
    have HL := Shut.mk (show ds.length + (48 + 2 * cN k) < 100000 from hl)
    have HM := Shut.mk hmd
    have EC := Shut.mk (show cN (k + 1) = 48 + 2 * cN k from rfl)
    have PO := Lib.hid (fun (W : World) (es : List Nd) (hs : Hs w0 (Plus S w (w.alloc (.cells (offL f).toArray 58))) U W hb p (.slice (some ⟨tb, to, none⟩) ts.length tc) ts es) (v : Value) (hv : RdTn W v (Rt.nd ts x)) he hl => hparent_ok hs f hv he (hn.un x hx) (hn.leaf hx) hl)
    have i58 : (Tryz.prog.info? 58).map (·.size) = some (offL f).length := by rw [Tryz.zero58.2, offL_len]
    have u58 := Tryz.underlying58
    clear ih hk hx hlen hbd c1 c2 c3 c4 d1 d2 hsz hbl h hl hmd
    generalize cN (k + 1) = ck1 at *
    generalize cN k = ck at *
    generalize Mth.left x = xl at *
    generalize Mth.right x = xr at *
    generalize Rt.nd ts x = d at *
    unfold offV at *
    generalize offL f = L at *
    go_enter Tryz.func28, Tryz.ntmps28
    go_wp2_with fail
    generalize w.alloc (.cells L.toArray 58) = w1 at *
    (with_reducible refine HC.out.mono ?_); rintro e w2 ⟨rfl, k2⟩
    go_wp2_with fail
    have k12 := k1.trans k2
    have B2 := Lib.hid (b1.kept k2)
    have H2 := Lib.hid (H1.step k2)
    have hat2 : ∀ w', Turn (fun b => ¬ U b) w2 w' → TnAt w' tb (to + x * 6) d (.slice la d.un.length lc) ∧ RdI w' (.slice la d.un.length lc) d.un := fun w' t => hat w' (Turn.trans (k2.turn _) t (fun x hx => .inl hx))
    have HAT := Lib.hid hat2
    have KP := Lib.hid (fun (w4 : World) (es : List Nd) (h4 : Hs w0 (Plus S w w1) U w4 hb p (.slice (some ⟨tb, to, none⟩) ts.length tc) ts es) (t : Turn (Wk (Plus S w w1) hb) w2 w4) => Hs.holdN (w4 := w4) (es := es) HAT.out B2.out hg h4 t)
    have kp := KP.out _ _ H2.out (Turn.refl _ _)
    have kd : Kept w2 w2.drew := (Kept.refl w2).drew
    have kpd := kp.kept kd
    have C1 := Lib.hid (htext_ok (H2.out.step kd) nodeS (by decide) (by have := HL.out; omega))
    rw [show strB nodeS = ⟨#[110, 111, 100, 101]⟩ from rfl] at C1
    clear hat hat2 HC H1 B2 kp b1
    unfold HoldN at kpd
    refine wp_region_held_drew (S := (fun w' => w'.cell? ⟨hb, 1, none⟩ = some (.slice (some ⟨tb, to, none⟩) ts.length tc) ∧ w'.cell? ⟨tb, to + x * 6, none⟩ = some (.int .i64 d.kd) ∧ w'.cell? ⟨tb, to + x * 6 + 1, none⟩ = some (.int .i64 d.id) ∧ w'.cell? ⟨tb, to + x * 6 + 2, none⟩ = some (.int .i64 d.enc) ∧
        w'.cell? ⟨tb, to + x * 6 + 3, none⟩ = some (.int .i64 d.sig) ∧ w'.cell? ⟨tb, to + x * 6 + 4, none⟩ = some (.int .i64 d.hash) ∧ w'.cell? ⟨tb, to + x * 6 + 5, none⟩ = some (.slice la d.un.length lc) ∧ w'.rangeAt w.heap.size 0 L)) (by kernel_rfl) kpd (fun hHeld => ?_)
    have HS := Lib.hid hHeld
    refine wpAnyH_takeL (i := 0) (v := .pointer (some ⟨hb, 0, none⟩)) rfl (by kernel_rfl) (by kernel_rfl) (by kernel_rfl) (fun _ _ _ h => h) (Or.inl ⟨by rfl, ?_⟩) hHeld ?_
    · intro w hSw; (try dsimp only at hSw); go_simp
    try simp only [Act.put, List.setIfInBounds_toArray, List.set_cons_zero, List.set_cons_succ]
    refine wpAnyH_takeL (i := 1) (v := .pointer (some ⟨hb, 0, none⟩)) rfl (by kernel_rfl) (by kernel_rfl) (by kernel_rfl) (fun _ _ _ h => h) (Or.inl ⟨by rfl, ?_⟩) hHeld ?_
    · intro w hSw; (try dsimp only at hSw); go_simp
    try simp only [Act.put, List.setIfInBounds_toArray, List.set_cons_zero, List.set_cons_succ]
    refine wpAnyH_takeL (i := 3) (v := .pointer (some ⟨hb, 0, none⟩)) rfl (by kernel_rfl) (by kernel_rfl) (by kernel_rfl) (fun _ _ _ h => h) (Or.inl ⟨by rfl, ?_⟩) hHeld ?_
    · intro w hSw; (try dsimp only at hSw); go_simp
    try simp only [Act.put, List.setIfInBounds_toArray, List.set_cons_zero, List.set_cons_succ]
    refine wpAnyH_takeL (i := 4) (v := .pointer (some ⟨hb, 0, none⟩)) rfl (by kernel_rfl) (by kernel_rfl) (by kernel_rfl) (fun _ _ _ h => h) (Or.inl ⟨by rfl, ?_⟩) hHeld ?_
    · intro w hSw; (try dsimp only at hSw); go_simp
    try simp only [Act.put, List.setIfInBounds_toArray, List.set_cons_zero, List.set_cons_succ]
    refine wpAnyH_takeL (i := 5) (v := .pointer (some ⟨hb, 0, none⟩)) rfl (by kernel_rfl) (by kernel_rfl) (by kernel_rfl) (fun _ _ _ h => h) (Or.inl ⟨by rfl, ?_⟩) hHeld ?_
    · intro w hSw; (try dsimp only at hSw); go_simp
    try simp only [Act.put, List.setIfInBounds_toArray, List.set_cons_zero, List.set_cons_succ]
    refine wpAnyH_takeL (i := 6) (v := .pointer (some ⟨hb, 1, none⟩)) rfl (by kernel_rfl) (by kernel_rfl) (by kernel_rfl) (fun _ _ _ h => h) (Or.inl ⟨by rfl, ?_⟩) hHeld ?_
    · intro w hSw; (try dsimp only at hSw); go_simp
    try simp only [Act.put, List.setIfInBounds_toArray, List.set_cons_zero, List.set_cons_succ]
    refine wpAnyH_takeL (i := 7) (v := .slice (some ⟨tb, to, none⟩) ts.length tc) rfl (by kernel_rfl) (by kernel_rfl) (by kernel_rfl) (fun _ _ _ h => h) (Or.inl ⟨by rfl, ?_⟩) hHeld ?_
    · intro w hSw; (try dsimp only at hSw); go_simp
    try simp only [Act.put, List.setIfInBounds_toArray, List.set_cons_zero, List.set_cons_succ]
    refine wpAnyH_takeL (i := 8) (v := .int .i64 (x : Int)) rfl (by kernel_rfl) (by kernel_rfl) (by kernel_rfl) (fun _ _ _ h => h) (Or.inl ⟨by rfl, ?_⟩) hHeld ?_
    · intro w hSw; (try dsimp only at hSw); go_simp
    try simp only [Act.put, List.setIfInBounds_toArray, List.set_cons_zero, List.set_cons_succ]
    refine wpAnyH_takeL (i := 9) (v := .pointer (some ⟨tb, to + x * 6, none⟩)) rfl (by kernel_rfl) (by kernel_rfl) (by kernel_rfl) (fun _ _ _ h => h) (Or.inl ⟨by rfl, ?_⟩) hHeld ?_
    · intro w hSw; (try dsimp only at hSw); go_simp
    try simp only [Act.put, List.setIfInBounds_toArray, List.set_cons_zero, List.set_cons_succ]
    refine wpAnyH_takeL (i := 10) (v := .agg #[.int .i64 d.kd, .int .i64 d.id, .int .i64 d.enc, .int .i64 d.sig, .int .i64 d.hash, .slice la d.un.length lc]) rfl (by kernel_rfl) (by kernel_rfl) (by kernel_rfl) (fun _ _ _ h => h) (Or.inl ⟨by rfl, ?_⟩) hHeld ?_
    · intro w hSw; (try dsimp only at hSw); go_simp
    try simp only [Act.put, List.setIfInBounds_toArray, List.set_cons_zero, List.set_cons_succ]
    refine wpAnyH_takeL (i := 11) (v := .agg L.toArray) rfl (by kernel_rfl) (by kernel_rfl) (by kernel_rfl) (fun _ _ _ h => h) (yieldsIf_load_mid (by rfl) _ _ rfl w.heap.size 0 rfl L _ (fun w' h => h.2.2.2.2.2.2.2) u58 rfl i58) hHeld ?_
    try simp only [Act.put, List.setIfInBounds_toArray, List.set_cons_zero, List.set_cons_succ]
    refine wpAnyH_takeL (i := 13) (v := .pointer (some ⟨hb, 0, none⟩)) rfl (by kernel_rfl) (by kernel_rfl) (by kernel_rfl) (fun _ _ _ h => h) (Or.inl ⟨by rfl, ?_⟩) hHeld ?_
    · intro w hSw; (try dsimp only at hSw); go_simp
    try simp only [Act.put, List.setIfInBounds_toArray, List.set_cons_zero, List.set_cons_succ]
    refine wpAnyH_takeL (i := 14) (v := .int .i64 (xl : Int)) rfl (by kernel_rfl) (by kernel_rfl) (by kernel_rfl) (fun _ _ _ h => h) (Or.inl ⟨by rfl, ?_⟩) hHeld ?_
    · intro w hSw; (try dsimp only at hSw); go_simp
    try simp only [Act.put, List.setIfInBounds_toArray, List.set_cons_zero, List.set_cons_succ]
    refine wpAnyH_takeL (i := 15) (v := .agg L.toArray) rfl (by kernel_rfl) (by kernel_rfl) (by kernel_rfl) (fun _ _ _ h => h) (yieldsIf_load_mid (by rfl) _ _ rfl w.heap.size 0 rfl L _ (fun w' h => h.2.2.2.2.2.2.2) u58 rfl i58) hHeld ?_
    try simp only [Act.put, List.setIfInBounds_toArray, List.set_cons_zero, List.set_cons_succ]
    refine wpAnyH_takeL (i := 17) (v := .pointer (some ⟨hb, 0, none⟩)) rfl (by kernel_rfl) (by kernel_rfl) (by kernel_rfl) (fun _ _ _ h => h) (Or.inl ⟨by rfl, ?_⟩) hHeld ?_
    · intro w hSw; (try dsimp only at hSw); go_simp
    try simp only [Act.put, List.setIfInBounds_toArray, List.set_cons_zero, List.set_cons_succ]
    refine wpAnyH_takeL (i := 18) (v := .int .i64 (xr : Int)) rfl (by kernel_rfl) (by kernel_rfl) (by kernel_rfl) (fun _ _ _ h => h) (Or.inl ⟨by rfl, ?_⟩) hHeld ?_
    · intro w hSw; (try dsimp only at hSw); go_simp
    try simp only [Act.put, List.setIfInBounds_toArray, List.set_cons_zero, List.set_cons_succ]
    refine wpAnyH_takeL (i := 19) (v := .agg L.toArray) rfl (by kernel_rfl) (by kernel_rfl) (by kernel_rfl) (fun _ _ _ h => h) (yieldsIf_load_mid (by rfl) _ _ rfl w.heap.size 0 rfl L _ (fun w' h => h.2.2.2.2.2.2.2) u58 rfl i58) hHeld ?_
    try simp only [Act.put, List.setIfInBounds_toArray, List.set_cons_zero, List.set_cons_succ]
    refine wpAnyH_ready (rs := [2]) (by kernel_rfl) (by simp) ?_
    refine AllReadyH_consL (i := 2) rfl (fun K hK => ?_) AllReadyH.nil
    go_simp
    (with_reducible refine C1.out.mono ?_); rintro e w4 ⟨r1, t1, rfl, h4, hr1, hQ1, tt1⟩
    have tu1 := Turn.trans (kd.turn (Wk (Plus S w w1) hb)) tt1 (fun b hw => .inl hw)
    have kp4 := KP.out _ _ h4 tu1
    have C2 := Lib.hid (PO.out _ _ h4 (.agg #[.int .i64 d.kd, .int .i64 d.id, .int .i64 d.enc, .int .i64 d.sig, .int .i64 d.hash, .slice la d.un.length lc]) ⟨_, rfl, Hs.holdR HAT.out h4 tu1⟩ (HTM.out _ (by simp only [List.length_append]; omega)) (by have := HL.out; simp only [List.length_append]; omega))
    refine hK.out _ _ kp4 (fun hHeld2 => ?_)
    clear hK K hHeld
    have hHeld := hHeld2
    clear hHeld2
    try simp only [Act.put, List.setIfInBounds_toArray, List.set_cons_zero, List.set_cons_succ]
    refine wpAnyH_ready (rs := [12]) (by kernel_rfl) (by simp) ?_
    refine AllReadyH_consL (i := 12) rfl (fun K hK => ?_) AllReadyH.nil
    go_simp
    (with_reducible refine C2.out.mono ?_); rintro e w5 ⟨r2, t2, rfl, h5, hr2, hQ2, tt2⟩
    have tu2 := Turn.trans tu1 tt2 (fun b hw => .inl hw)
    have kp5 := KP.out _ _ h5 tu2
    have C3 := Lib.hid (HI1.out _ _ h5 (by have := HM.out; simp only [List.length_append]; omega) (by have := HL.out; simp only [List.length_append]; omega))
    refine hK.out _ _ kp5 (fun hHeld2 => ?_)
    clear hK K hHeld
    have hHeld := hHeld2
    clear hHeld2
    try simp only [Act.put, List.setIfInBounds_toArray, List.set_cons_zero, List.set_cons_succ]
    refine wpAnyH_ready (rs := [16]) (by kernel_rfl) (by simp) ?_
    refine AllReadyH_consL (i := 16) rfl (fun K hK => ?_) AllReadyH.nil
    go_simp
    (with_reducible refine C3.out.mono ?_); rintro e w6 ⟨r3, t3, rfl, h6, hr3, hQ3, tt3⟩
    have tu3 := Turn.trans tu2 tt3 (fun b hw => .inl hw)
    have kp6 := KP.out _ _ h6 tu3
    have C4 := Lib.hid (HI2.out _ _ h6 (by have := HM.out; simp only [List.length_append]; omega) (by have := HL.out; simp only [List.length_append]; omega))
    refine hK.out _ _ kp6 (fun hHeld2 => ?_)
    clear hK K hHeld
    have hHeld := hHeld2
    clear hHeld2
    try simp only [Act.put, List.setIfInBounds_toArray, List.set_cons_zero, List.set_cons_succ]
    refine wpAnyH_ready (rs := [20]) (by kernel_rfl) (by simp) ?_
    refine AllReadyH_consL (i := 20) rfl (fun K hK => ?_) AllReadyH.nil
    go_simp
    (with_reducible refine C4.out.mono ?_); rintro e w7 ⟨r4, t4, rfl, h7, hr4, hQ4, tt4⟩
    have tu4 := Turn.trans tu3 tt4 (fun b hw => .inl hw)
    have kp7 := KP.out _ _ h7 tu4
    have k8 : Kept w7 (w7.alloc (.cells #[.int .i64 t1, .int .i64 t2, .int .i64 t3, .int .i64 t4] 3)) := (Kept.refl w7).alloc _
    have kp8 := kp7.kept k8
    have C5 := Lib.hid (hashOf_ok (h7.step k8) (RdI.lit4' w7 t1 t2 t3 t4) (by simp) (all4 (((hQ1.isT.more r2).more r3).more r4) ((hQ2.more r3).more r4) (hQ3.more r4) hQ4) (by have := HL.out; simp only [List.length_append]; omega))
    refine hK.out _ _ kp7 (fun hHeld2 => ?_)
    clear hK K hHeld
    have hHeld := hHeld2
    clear hHeld2
    try simp only [Act.put, List.setIfInBounds_toArray, List.set_cons_zero, List.set_cons_succ]
    refine wpAnyH_ready (rs := [21]) (by kernel_rfl) (by simp) ?_
    refine AllReadyH_consL (i := 21) rfl (fun K hK => ?_) AllReadyH.nil
    go_simp
    refine hK.out _ _ kp8 (fun hHeld2 => ?_)
    clear hK K hHeld
    have hHeld := hHeld2
    clear hHeld2
    try simp only [Act.put, List.setIfInBounds_toArray, List.set_cons_zero, List.set_cons_succ]
    refine wpAnyH_ready (rs := [22]) (by kernel_rfl) (by simp) ?_
    refine AllReadyH_consL (i := 22) rfl (fun K hK => ?_) AllReadyH.nil
    go_simp
    (with_reducible refine C5.out.mono ?_); rintro e w9 ⟨r5, t5, rfl, h9, hr5, hQ5, tt5⟩
    have tu5 := Turn.trans (tu4.kept k8) tt5 (fun b hw => .inl hw)
    have kp9 := KP.out _ _ h9 tu5
    refine hK.out _ _ kp9 (fun hHeld2 => ?_)
    clear hK K hHeld
    have hHeld := hHeld2
    clear hHeld2
    try simp only [Act.put, List.setIfInBounds_toArray, List.set_cons_zero, List.set_cons_succ]
    refine wpAnyH_takeL (i := 23) (v := .int .i64 t5) rfl (by kernel_rfl) (by kernel_rfl) (by kernel_rfl) (fun _ _ _ h => h) (Or.inl ⟨by rfl, ?_⟩) hHeld ?_
    · intro w hSw; (try dsimp only at hSw); go_simp
    try simp only [Act.put, List.setIfInBounds_toArray, List.set_cons_zero, List.set_cons_succ]
    refine wpAnyH_done (by kernel_rfl) ?_ _
    all_goals
      have ea : ds ++ (r1 ++ r2 ++ r3 ++ r4 ++ r5) = ds ++ r1 ++ r2 ++ r3 ++ r4 ++ r5 := by simp
      have EA := Shut.mk ea
      clear ea
      go_wp2
      go_ret
      refine ⟨r1 ++ r2 ++ r3 ++ r4 ++ r5, t5, rfl, ?_, ?_, ?_, Turn.trans (k12.turn _) tu5 (fun b hw => .inl (Wk.mono (fun b hb => .inl hb) b hw))⟩
      · rw [EA.out]
        exact h9.fewer (fun b hb => .inl hb) (fun b hb => HH.out.arena.base b hb) HH.out.inS (fun b hu => (HH.out.sub b hu).1)
      · have := EC.out
        simp only [List.length_append]; omega
      · rw [EA.out]
        exact hQ5.isT
end Go.Proofs.YtnmaiokhndbicaaGreatDoor
end

section
/- Rows of numbers, numbers as keys. -/
set_option linter.unusedSimpArgs false
set_option linter.unusedVariables false
namespace Go.Proofs.YtnmaiokhndbicaaGreatDoor
open Go.RowKit Go.Maps

theorem i64_wf {x : Int} (h : I64 x) : (Lit.int .i64 x).wf = true := WalkArith.wf_i64 h
theorem keyInt {x : Int} (h : I64 x) : keyOf Tryz.prog 3 (.int .i64 x) = some (.int .i64 x) := keyOf_int_mk Tryz.underlying3 (i64_wf h)
theorem isKeyInt {x : Int} (h : I64 x) : WideAt.IsKeyLit (.int .i64 x) := by first | trivial | exact i64_wf h | simpa [WideAt.IsKeyLit] using i64_wf h
end Go.Proofs.YtnmaiokhndbicaaGreatDoor
end

section
/- What a term is made of: plain facts. Nothing here names a program. -/
set_option linter.unusedSimpArgs false
set_option linter.unusedVariables false
namespace Go.Proofs.YtnmaiokhndbicaaGreatDoor
open Go

/-- x is in t. -/
inductive Reach (ds : List Nd) (t : Int) : Int → Prop
  | refl : 0 ≤ t → t < ds.length → Reach ds t t
  | step {x y : Int} : Reach ds t x → y ∈ (ds.getD x.toNat nd0).l → Reach ds t y

theorem Reach.bound {ds : List Nd} (hg : Good ds) {t x : Int} (h : Reach ds t x) : 0 ≤ x ∧ x ≤ t ∧ t < ds.length ∧ 0 ≤ t := by
  induction h with
  | refl h0 h1 => exact ⟨h0, Int.le_refl _, h1, h0⟩
  | step h1 h2 ih =>
    obtain ⟨a, b, c, d⟩ := ih
    have := hg.lesser (i := _) (by omega) _ h2
    omega
theorem Reach.trans {ds : List Nd} {t x y : Int} (h : Reach ds t x) (k : Reach ds x y) : Reach ds t y := by
  induction k with
  | refl _ _ => exact h
  | step _ h2 ih => exact .step ih h2

/-- The numbers of a list are all that t is made of, each once. -/
def Parts (ds : List Nd) (t : Int) (ks : List Int) : Prop := ks.Nodup ∧ ∀ x, x ∈ ks ↔ Reach ds t x
theorem Parts.length {ds : List Nd} {t : Int} {ks ls : List Int} (h : Parts ds t ks) (k : Parts ds t ls) : ks.length = ls.length :=
  ((List.perm_ext_iff_of_nodup h.1 k.1).2 fun x => (h.2 x).trans (k.2 x).symm).length_eq

theorem mem_getD {l : List Int} {k : Nat} (h : k < l.length) : l.getD k 0 ∈ l := by
  rw [List.getD_eq_getElem?_getD, List.getElem?_eq_getElem h]
  exact List.getElem_mem _
/-- What the search has: what is still to be gone through, and what was met. -/
structure Dfs (ds : List Nd) (t : Int) (zs ks : List Int) : Prop where
  met : ∀ z ∈ zs, z ∈ ks
  in' : ∀ x ∈ ks, Reach ds t x
  all : ∀ x ∈ ks, x ∉ zs → ∀ y ∈ (ds.getD x.toNat nd0).l, y ∈ ks
  top : t ∈ ks
  once : ks.Nodup
theorem Dfs.start {ds : List Nd} {t : Int} (h0 : 0 ≤ t) (h1 : t < ds.length) : Dfs ds t [t] [t] :=
  ⟨fun z hz => hz, fun x hx => by rw [List.mem_singleton.1 hx]; exact .refl h0 h1, fun x hx hn => absurd hx hn, by simp, by simp⟩
theorem Dfs.done {ds : List Nd} {t : Int} {ks : List Int} (h : Dfs ds t [] ks) : Parts ds t ks := by
  refine ⟨h.once, fun x => ⟨h.in' x, fun hr => ?_⟩⟩
  induction hr with
  | refl _ _ => exact h.top
  | step h1 h2 ih => exact h.all _ ih (by simp) _ h2
/-- .. while the parts of x are gone through: so many of them. -/
structure Dfs2 (ds : List Nd) (t x : Int) (k : Nat) (zs ks : List Int) : Prop where
  met : ∀ z ∈ zs, z ∈ ks
  in' : ∀ x ∈ ks, Reach ds t x
  all : ∀ u ∈ ks, u ∉ zs → u ≠ x → ∀ y ∈ (ds.getD u.toNat nd0).l, y ∈ ks
  own : ∀ i, i < k → (ds.getD x.toNat nd0).l.getD i 0 ∈ ks
  top : t ∈ ks
  x : x ∈ ks
  once : ks.Nodup
theorem Dfs.pop {ds : List Nd} {t : Int} {zs ks : List Int} (h : Dfs ds t zs ks) (hp : 0 < zs.length) : Dfs2 ds t (zs.getD (zs.length - 1) 0) 0 (zs.take (zs.length - 1)) ks := by
  have hx : zs.getD (zs.length - 1) 0 ∈ zs := by
    rw [List.getD_eq_getElem?_getD, List.getElem?_eq_getElem (show zs.length - 1 < zs.length by omega)]
    exact List.getElem_mem _
  refine ⟨fun z hz => h.met z (List.mem_of_mem_take hz), h.in', fun u hu hn hne y hy => h.all u hu (fun hz => ?_) y hy, fun i hi => absurd hi (Nat.not_lt_zero _), h.top, h.met _ hx, h.once⟩
  have e : zs = zs.take (zs.length - 1) ++ [zs.getD (zs.length - 1) 0] := by
    rw [List.getD_eq_getElem?_getD, List.getElem?_eq_getElem (show zs.length - 1 < zs.length by omega), Option.getD_some]
    have := List.take_succ_eq_append_getElem (l := zs) (i := zs.length - 1) (by omega)
    rw [← this, Nat.sub_add_cancel hp, List.take_length]
  rw [e] at hz
  rcases List.mem_append.1 hz with c | c
  · exact hn c
  · exact hne (List.mem_singleton.1 c)
theorem Dfs2.old {ds : List Nd} {t x : Int} {k : Nat} {zs ks : List Int} (h : Dfs2 ds t x k zs ks) (hm : (ds.getD x.toNat nd0).l.getD k 0 ∈ ks) : Dfs2 ds t x (k + 1) zs ks :=
  ⟨h.met, h.in', h.all, fun i hi => by
    by_cases c : i < k
    · exact h.own i c
    · obtain rfl : i = k := by omega
      exact hm, h.top, h.x, h.once⟩
theorem Dfs2.new {ds : List Nd} {t x : Int} {k : Nat} {zs ks : List Int} (h : Dfs2 ds t x k zs ks) (hk : k < (ds.getD x.toNat nd0).l.length) (hm : (ds.getD x.toNat nd0).l.getD k 0 ∉ ks) :
    Dfs2 ds t x (k + 1) (zs ++ [(ds.getD x.toNat nd0).l.getD k 0]) ((ds.getD x.toNat nd0).l.getD k 0 :: ks) := by
  have hmem : (ds.getD x.toNat nd0).l.getD k 0 ∈ (ds.getD x.toNat nd0).l := mem_getD hk
  refine ⟨fun z hz => ?_, fun u hu => ?_, fun u hu hn hne y hy => ?_, fun i hi => ?_, List.mem_cons_of_mem _ h.top, List.mem_cons_of_mem _ h.x, List.nodup_cons.2 ⟨hm, h.once⟩⟩
  · rcases List.mem_append.1 hz with c | c
    · exact List.mem_cons_of_mem _ (h.met z c)
    · rw [List.mem_singleton.1 c]; exact List.mem_cons_self
  · rcases List.mem_cons.1 hu with c | c
    · rw [c]; exact .step (h.in' x h.x) hmem
    · exact h.in' u c
  · rcases List.mem_cons.1 hu with c | c
    · exact absurd (List.mem_append.2 (.inr (List.mem_singleton.2 c))) hn
    · exact List.mem_cons_of_mem _ (h.all u c (fun hz => hn (List.mem_append.2 (.inl hz))) hne y hy)
  · by_cases c : i < k
    · exact List.mem_cons_of_mem _ (h.own i c)
    · obtain rfl : i = k := by omega
      exact List.mem_cons_self
theorem Dfs2.done {ds : List Nd} {t x : Int} {zs ks : List Int} (h : Dfs2 ds t x (ds.getD x.toNat nd0).l.length zs ks) : Dfs ds t zs ks :=
  ⟨h.met, h.in', fun u hu hn y hy => by
    by_cases c : u = x
    · subst c
      obtain ⟨i, hi, e⟩ := List.mem_iff_getElem.1 hy
      have := h.own i hi
      rwa [List.getD_eq_getElem?_getD, List.getElem?_eq_getElem hi, Option.getD_some, e] at this
    · exact h.all u hu hn c y hy, h.top, h.once⟩

theorem nodup_le (n : Nat) : ∀ ks : List Int, ks.Nodup → (∀ x ∈ ks, 0 ≤ x ∧ x < n) → ks.length ≤ n := by
  induction n with
  | zero =>
    intro ks _ hb
    cases ks with
    | nil => simp
    | cons x ks => have := hb x List.mem_cons_self; omega
  | succ n ih =>
    intro ks h hb
    have h1 := ih (ks.erase (n : Int)) (h.erase _) (fun x hx => by
      obtain ⟨a, b⟩ := (List.Nodup.mem_erase_iff h).1 hx
      have := hb x b
      omega)
    by_cases c : (n : Int) ∈ ks
    · rw [List.length_erase_of_mem c] at h1; omega
    · rw [List.erase_of_not_mem c] at h1; omega

/-! ## atoms -/
/-- The numbers of all atoms in t, rising. -/
def Atoms (ds : List Nd) (t : Int) (l : List Int) : Prop := l.Pairwise (· < ·) ∧ ∀ n, n ∈ l ↔ ∃ x, Reach ds t x ∧ (ds.getD x.toNat nd0).op = 1 ∧ (ds.getD x.toNat nd0).n = n
theorem sorted_unique {l m : List Int} (hl : l.Pairwise (· < ·)) (hm : m.Pairwise (· < ·)) (h : ∀ x, x ∈ l ↔ x ∈ m) : l = m := by
  induction l generalizing m with
  | nil =>
    cases m with
    | nil => rfl
    | cons y m => exact absurd ((h y).2 List.mem_cons_self) (by simp)
  | cons x l ih =>
    cases m with
    | nil => exact absurd ((h x).1 List.mem_cons_self) (by simp)
    | cons y m =>
      obtain ⟨hl1, hl2⟩ := List.pairwise_cons.1 hl
      obtain ⟨hm1, hm2⟩ := List.pairwise_cons.1 hm
      have e : x = y := by
        rcases List.mem_cons.1 ((h x).1 List.mem_cons_self) with c | c
        · exact c
        · rcases List.mem_cons.1 ((h y).2 List.mem_cons_self) with c' | c'
          · exact c'.symm
          · have := hm1 x c; have := hl1 y c'; omega
      subst e
      rw [ih hl2 hm2 fun z => ⟨fun hz => ?_, fun hz => ?_⟩]
      · rcases List.mem_cons.1 ((h z).1 (List.mem_cons_of_mem _ hz)) with c | c
        · subst c; have := hl1 z hz; omega
        · exact c
      · rcases List.mem_cons.1 ((h z).2 (List.mem_cons_of_mem _ hz)) with c | c
        · subst c; have := hm1 z hz; omega
        · exact c
theorem Atoms.unique {ds : List Nd} {t : Int} {l m : List Int} (h : Atoms ds t l) (k : Atoms ds t m) : l = m :=
  sorted_unique h.1 k.1 fun x => (h.2 x).trans (k.2 x).symm
end Go.Proofs.YtnmaiokhndbicaaGreatDoor
end

section
/- The document's Rising. -/
set_option linter.unusedSimpArgs false
set_option linter.unusedVariables false
namespace Go.Proofs.YtnmaiokhndbicaaGreatDoor
open Go.RowKit Go.Maps

/-- append to numbers of the call's own, at an operation: what is appended may be none. -/
theorem wp_appi {w : World} {o : Oper} {a : Act} {K : Act → World → Prop} {Q : Exit → Act → World → Prop} (s x : Operand)
    (ho : o.op = .call { callee := .builtin .append, args := #[s, x], argTypes := #[27, 27] })
    (B : Nat) (v : Value) (zs : List Int) (hs : a.eval s = v) (hw : OwnI B w v zs) (u : Value) (news : List Int) (hx : a.eval x = u) (hr : RdI w u news)
    (hl : zs.length + news.length ≤ 10000000000) (hB : B ≤ w.heap.size)
    (hK : ∀ v' w', OwnI B w' v' (zs ++ news) → Turn (Blks v) w w' → (∀ b, Blks v' b → Blks v b ∨ w.heap.size ≤ b) → K (a.put o.dst v') w') : o.wp Tryz.prog a w K Q := by
  obtain ⟨i0, hi, hz0, hz1, hz2⟩ := info_parts Tryz.infoInt
  obtain ⟨ao, cap, hu, hl', hc, hm, hno, hcell⟩ := hr
  cases ao with
  | none =>
    have e0 := hno rfl
    have em : news.length = 0 := by omega
    obtain rfl : news = [] := List.eq_nil_of_length_eq_zero em
    subst e0
    have hrun := run_append_owned_none (P := Tryz.prog) (w := w) B 27 o.type 3 i0 1 Tryz.underlying27 hi v zs.length (zs.map (Value.int .i64)) hw
    have hx' : a.eval x = .slice none 0 0 := hx.trans hu
    unfold Oper.wp
    simp [execOp, ho, resolve, invoke, builtin, hs, hx', hrun, Result.andThen]
    exact hK v w (by simpa using hw) (Turn.refl _ _) (fun b hb => .inl hb)
  | some ad =>
    obtain ⟨v', w', hrun, h2, h3, h4, h5⟩ := run_append_own_at (P := Tryz.prog) w B 27 o.type 3 i0 (.int .i64 0) 1 8 Tryz.underlying27 hi hz0 hz1 hz2 rfl (by decide) v zs.length (zs.map (Value.int .i64)) hw ad news.length cap (news.map (Value.int .i64)) hl' (hcell ad rfl) (ones_int .i64 news) (by unfold maxLen; omega) (by omega) hB
    have hx' : a.eval x = .slice (some ad) news.length cap := hx.trans hu
    unfold Oper.wp execOp
    simp only [ho, resolve, invoke, builtin, Sem.run_bind, Sem.run_pure, Result.andThen_ok, List.map_toArray, List.map_cons, List.map_nil, hs, hx', hrun]
    refine hK v' w' (by unfold OwnI; rw [List.length_append, List.map_append]; exact h2) ((Grown.turn h3).mono fun b hb => hb.symm) (fun b hb => ?_)
    rcases h5 with h | h
    · exact .inl (h.symm.trans hb)
    · rw [Blks, h] at hb
      simp only [Option.some.injEq] at hb
      exact .inr (by omega)

theorem mem_take_at {us : List Int} {k : Nat} {x : Int} (h : x ∈ us.take k) : ∃ j, j < k ∧ j < us.length ∧ us.getD j 0 = x := by
  obtain ⟨j, hj, e⟩ := List.mem_iff_getElem.1 h
  rw [List.length_take] at hj
  refine ⟨j, by omega, by omega, ?_⟩
  rw [← e, List.getElem_take, List.getD_eq_getElem?_getD, List.getElem?_eq_getElem (by omega)]
  rfl
theorem mem_drop_at {us : List Int} {k : Nat} {x : Int} (h : x ∈ us.drop k) : ∃ j, k ≤ j ∧ j < us.length ∧ us.getD j 0 = x := by
  obtain ⟨j, hj, e⟩ := List.mem_iff_getElem.1 h
  rw [List.length_drop] at hj
  refine ⟨k + j, by omega, by omega, ?_⟩
  rw [← e, List.getElem_drop, List.getD_eq_getElem?_getD, List.getElem?_eq_getElem (by omega)]
  rfl
theorem ins_sorted {us : List Int} {n : Int} {k : Nat} (hs : us.Pairwise (· < ·)) (ha : ∀ j, k ≤ j → j < us.length → n < us.getD j 0) (hb : ∀ j, j < k → j < us.length → us.getD j 0 < n) :
    (us.take k ++ [n] ++ us.drop k).Pairwise (· < ·) := by
  have ht : (us.take k).Pairwise (· < ·) := hs.sublist (List.take_sublist _ _)
  have hd : (us.drop k).Pairwise (· < ·) := hs.sublist (List.drop_sublist _ _)
  have l1 : ∀ x ∈ us.take k, x < n := fun x hx => by
    obtain ⟨j, a, b, c⟩ := mem_take_at hx
    rw [← c]; exact hb j a b
  have l2 : ∀ x ∈ us.drop k, n < x := fun x hx => by
    obtain ⟨j, a, b, c⟩ := mem_drop_at hx
    rw [← c]; exact ha j a b
  rw [List.pairwise_append]
  refine ⟨?_, hd, fun x hx y hy => ?_⟩
  · rw [List.pairwise_append]
    exact ⟨ht, List.pairwise_singleton _ _, fun x hx y hy => by rw [List.mem_singleton.1 hy]; exact l1 x hx⟩
  · rcases List.mem_append.1 hx with h | h
    · exact Int.lt_trans (l1 x h) (l2 y hy)
    · rw [List.mem_singleton.1 h]; exact l2 y hy
theorem ins_mem {us zs : List Int} {n : Int} {k m : Nat} (hm : ∀ x, x ∈ us ↔ x ∈ zs.take m) (hml : m < zs.length) (hn : zs.getD m 0 = n) (x : Int) : x ∈ us.take k ++ [n] ++ us.drop k ↔ x ∈ zs.take (m + 1) := by
  have e : zs[m] = n := by rw [← hn, List.getD_eq_getElem?_getD, List.getElem?_eq_getElem hml]; rfl
  have e2 : x ∈ zs.take (m + 1) ↔ x ∈ us ∨ x = n := by rw [List.take_succ_eq_append_getElem hml, List.mem_append, ← hm x, e, List.mem_singleton]
  rw [e2]
  have : x ∈ us ↔ x ∈ us.take k ∨ x ∈ us.drop k := by
    rw [← List.mem_append, List.take_append_drop]
  rw [this]
  simp only [List.mem_append, List.mem_singleton]
  constructor
  · rintro ((h | h) | h)
    · exact .inl (.inl h)
    · exact .inr h
    · exact .inl (.inr h)
  · rintro ((h | h) | h)
    · exact .inl (.inl h)
    · exact .inr h
    · exact .inl (.inr h)
theorem ins_len {us : List Int} {n : Int} {k : Nat} : (us.take k ++ [n] ++ us.drop k).length = us.length + 1 := by
  simp only [List.length_append, List.length_take, List.length_drop, List.length_singleton]; omega
theorem below_at {us : List Int} {n : Int} {q : Nat} (hs : us.Pairwise (· < ·)) (hq : q < us.length) (h : us.getD q 0 < n) : ∀ j, j < q + 1 → j < us.length → us.getD j 0 < n := fun j h1 h2 => by
  by_cases c : j = q
  · rw [c]; exact h
  · have := List.pairwise_iff_getElem.1 hs j q h2 hq (by omega)
    rw [List.getD_eq_getElem?_getD, List.getElem?_eq_getElem hq] at h
    rw [List.getD_eq_getElem?_getD, List.getElem?_eq_getElem h2]
    simp only [Option.getD_some] at h ⊢
    omega
theorem RdI.take {w : World} {g o c n : Nat} {us : List Int} (h : RdI w (.slice (some ⟨g, o, none⟩) n c) us) (k : Nat) (hk : k ≤ us.length) : RdI w (.slice (some ⟨g, o, none⟩) k c) (us.take k) := by
  obtain ⟨a, cap, hv, h1, h2, h3, h4, h5⟩ := h
  simp only [Value.slice.injEq] at hv
  obtain ⟨rfl, rfl, rfl⟩ := hv
  have hl : (us.take k).length = k := by rw [List.length_take]; omega
  unfold RdI
  rw [hl]
  refine ⟨_, _, rfl, by rw [List.length_map, hl, Nat.mul_one], by omega, h3, h4, fun ad had j u hj => h5 ad had j u ?_⟩
  have hjk : j < k := by
    have := (List.getElem?_eq_some_iff.1 hj).1
    simp at this; omega
  rw [← hj, List.getElem?_map, List.getElem?_map, List.getElem?_take, if_pos hjk]
theorem RdI.drop {w : World} {g o c n : Nat} {us : List Int} (h : RdI w (.slice (some ⟨g, o, none⟩) n c) us) (k : Nat) (hk : k ≤ us.length) : RdI w (.slice (some ⟨g, o + k, none⟩) (us.length - k) (c - k)) (us.drop k) := by
  obtain ⟨a, cap, hv, h1, h2, h3, h4, h5⟩ := h
  simp only [Value.slice.injEq] at hv
  obtain ⟨rfl, rfl, rfl⟩ := hv
  have hl : (us.drop k).length = us.length - k := List.length_drop
  unfold RdI
  rw [hl]
  refine ⟨_, _, rfl, by rw [List.length_map, hl, Nat.mul_one], by omega, by omega, (fun e => by cases e), fun ad had j u hj => ?_⟩
  cases had
  have := h5 ⟨g, o, none⟩ rfl (k + j) u (by rw [← hj, List.getElem?_map, List.getElem?_map, List.getElem?_drop])
  rw [Addr.add_lit] at this ⊢
  rw [← this, Nat.add_assoc]

theorem RdI.dropIf {w : World} {g c n : Nat} {us : List Int} (h : RdI w (.slice (some ⟨g, 0, none⟩) n c) us) (k : Nat) (hk : k ≤ us.length) (hc : us.length ≤ c) :
    RdI w (.slice (if c = k then some ⟨g, 0, none⟩ else some ⟨g, k, none⟩) (us.length - k) (c - k)) (us.drop k) := by
  by_cases e : c = k
  · rw [if_pos e]
    have hd : us.drop k = [] := List.drop_eq_nil_of_le (by omega)
    have hm := h.len
    obtain ⟨_, _, hv, _, h2, _⟩ := hm
    simp only [Value.slice.injEq] at hv
    rw [hd]
    refine ⟨_, _, by rw [show us.length - k = 0 by omega]; rfl, rfl, Nat.zero_le _, by omega, (fun e => by cases e), fun ad had j u hj => by cases hj⟩
  · rw [if_neg e]
    have := h.drop k hk
    rwa [Nat.zero_add] at this

theorem OwnI.form {B : Nat} {w : World} {v : Value} {us : List Int} (h : OwnI B w v us) : (us = [] ∧ v = .slice none 0 0) ∨ ∃ g c, v = .slice (some ⟨g, 0, none⟩) us.length c ∧ us.length ≤ c ∧ c ≤ maxLen := by
  obtain ⟨h1, h2⟩ := h
  rcases h2 with ⟨e, h3⟩ | ⟨g, c, cur, hv, _, _, hn, hm, _⟩
  · exact .inl ⟨List.eq_nil_of_length_eq_zero h3, e⟩
  · exact .inr ⟨g, c, hv, hn, hm⟩

theorem step_appi {w : World} {ops : Array Oper} {o : Oper} {a : Act} {K : Act → World → Prop} {Q : Exit → Act → World → Prop} {E : Prop} (s x : Operand) (hgd : o.guard = none)
    (ho : o.op = .call { callee := .builtin .append, args := #[s, x], argTypes := #[27, 27] })
    (B : Nat) (v : Value) (zs : List Int) (hs : a.eval s = v) (hw : OwnI B w v zs) (u : Value) (news : List Int) (hx : a.eval x = u) (hr : RdI w u news)
    (hl : zs.length + news.length ≤ 10000000000) (hB : B ≤ w.heap.size)
    (hK : ∀ v' w', OwnI B w' v' (zs ++ news) → Turn (Blks v) w w' → (∀ b, Blks v' b → Blks v b ∨ w.heap.size ≤ b) → K (a.put o.dst v') w') :
    if Region.wanted o (yielded ops a.tmps) = true then Oper.wp Tryz.prog o a w K Q else E := by
  have hw' : Region.wanted o (yielded ops a.tmps) = true := by simp [Region.wanted, hgd]
  rw [if_pos hw']
  exact wp_appi s x ho B v zs hs hw u news hx hr hl hB hK

end Go.Proofs.YtnmaiokhndbicaaGreatDoor
end
