/- A strings.Builder that is the first field of term's writer: its methods. -/
import Derived.Test.YtdhdgbihalfgeaaDoorTermE
import Derived.Lib.Builder
import Derived.Lib.UnsafeStr
import Derived.Laws.Externs
set_option linter.unusedSimpArgs false
set_option linter.unusedVariables false
namespace Go.Proofs.YtdhdgbihalfgeaaDoor
open Go.RowKit Go.Maps

theorem Tryd.sizeBuilder : (Tryd.prog.info? 64).map (·.size) = some 2 := by kernel_rfl
theorem Tryd.liesBuilder : liesAt Tryd.prog Tryd.prog.depth 66 (3 / Tryd.prog.cellsOf 66) 0 64 1 = true := by kernel_rfl
theorem Tryd.cellsByte : Tryd.prog.cellsOf 5 = 1 := by kernel_rfl

/-- b is a writer of the call's own (blocks from B on, none of N), with the bytes bs, over the nodes nv. -/
def BldN (N : Nat → Prop) (B b : Nat) (nv : Value) (bs : List UInt8) (w : World) : Prop :=
  B ≤ b ∧ ∃ av bv, Blk w b 66 [av, bv, nv] ∧ (av = .pointer none ∨ av = .pointer (some ⟨b, 0, none⟩)) ∧ OwnU B w bv bs ∧ ¬ N b ∧ ∀ x, Blks bv x → ¬ N x
def No : Nat → Prop := fun _ => False
/-- The same, where nothing is to be kept. -/
def Bld (B b : Nat) (nv : Value) (bs : List UInt8) (w : World) : Prop := BldN No B b nv bs w
theorem BldN.no {N : Nat → Prop} {B b : Nat} {nv : Value} {bs : List UInt8} {w : World} (h : BldN N B b nv bs w) : Bld B b nv bs w := by
  obtain ⟨h1, av, bv, h2, h3, h4, _, _⟩ := h
  exact ⟨h1, av, bv, h2, h3, h4, fun x => x, fun _ _ x => x⟩
theorem Bld.new {B b : Nat} {nv : Value} {bs : List UInt8} {w : World} (h : Bld B b nv bs w) : BldN (fun x => w.heap.size ≤ x) B b nv bs w := by
  obtain ⟨h1, av, bv, h2, h3, h4, _, _⟩ := h
  refine ⟨h1, av, bv, h2, h3, h4, fun x => ?_, fun x hx c => ?_⟩
  · have := h2.lt; omega
  · have := (Ownv.lt h4 hx).1; omega
theorem BldN.mono {N M : Nat → Prop} {B b : Nat} {nv : Value} {bs : List UInt8} {w : World} (h : BldN N B b nv bs w) (hs : ∀ x, M x → N x) : BldN M B b nv bs w := by
  obtain ⟨h1, av, bv, h2, h3, h4, h5, h6⟩ := h
  exact ⟨h1, av, bv, h2, h3, h4, fun x => h5 (hs _ x), fun x hx c => h6 x hx (hs x c)⟩
theorem BldN.kept {N : Nat → Prop} {B b : Nat} {nv : Value} {bs : List UInt8} {w w' : World} (h : BldN N B b nv bs w) (k : Kept w w') : BldN N B b nv bs w' := by
  obtain ⟨h1, av, bv, h2, h3, h4, h5, h6⟩ := h
  exact ⟨h1, av, bv, h2.kept k, h3, Own.kept h4 k, h5, h6⟩

theorem Blk.shape {w : World} {g : Nat} {e : TypeId} {xs : List Value} (h : Blk w g e xs) : w.shape? g = some (e, xs.length) := by
  unfold Blk at h
  simp [World.shape?, h]

theorem Bld.kept {B b : Nat} {nv : Value} {bs : List UInt8} {w w' : World} (h : Bld B b nv bs w) (k : Kept w w') : Bld B b nv bs w' := BldN.kept h k
theorem Bld.lt {B b : Nat} {nv : Value} {bs : List UInt8} {w : World} (h : Bld B b nv bs w) : b < w.heap.size := by
  obtain ⟨h1, av, bv, h2, h3, h4, _, _⟩ := h
  exact h2.lt
theorem Bld.cell2 {B b : Nat} {nv : Value} {bs : List UInt8} {w : World} (h : Bld B b nv bs w) : w.cell? ⟨b, 2, none⟩ = some nv := by
  obtain ⟨h1, av, bv, h2, h3, h4, _, _⟩ := h
  exact h2.cell 2

set_option maxHeartbeats 1000000 in
set_option maxRecDepth 100000 in
theorem copyCheck_used (b : Nat) (w : World) (h0 : w.cell? ⟨b, 0, none⟩ = some (.pointer (some ⟨b, 0, none⟩))) :
    Calls Tryd.prog 57 #[.pointer (some ⟨b, 0, none⟩)] w fun e w' => e = .returned (.tuple #[]) ∧ w' = w := by
  obtain ⟨j, hj, _⟩ := Option.map_eq_some_iff.1 Tryd.sizeBuilder
  go_enter Tryd.func57, Tryd.ntmps57
  go_wp2
  rw [Lib.run_neq_ptr_same w _ Tryd.underlying61 hj]
  go_wp2
  go_end0
  exact ⟨rfl, rfl⟩

set_option maxHeartbeats 1000000 in
set_option maxRecDepth 100000 in
theorem copyCheck_fresh (b : Nat) (w : World) (h0 : w.cell? ⟨b, 0, none⟩ = some (.pointer none)) (hsh : w.shape? b = some (66, 3)) (hfz : w.frozen? ⟨b, 0, none⟩ = false) :
    Calls Tryd.prog 57 #[.pointer (some ⟨b, 0, none⟩)] w fun e w' => e = .returned (.tuple #[]) ∧ w' = w.setCell ⟨b, 0, none⟩ (.pointer (some ⟨b, 0, none⟩)) := by
  obtain ⟨j, hj, hjs⟩ := Option.map_eq_some_iff.1 Tryd.sizeBuilder
  go_enter Tryd.func57, Tryd.ntmps57
  go_wp2
  rw [Lib.run_to_unsafe w ⟨b, 0, none⟩ Tryd.underlying61 Tryd.underlying108 hj (by rw [hjs]; decide) hsh (by show 0 < 3; decide)]
  simp only [Result.andThen]
  rw [Oper.upon_value]
  go_wp2
  rw [run_callFunc_extern Tryd.func71 (by kernel_rfl) (by kernel_rfl) (by kernel_rfl) (e := Extern.AbiNoEscape.same) (by kernel_rfl)]
  rw [Lib.run_noEscape]
  simp only [Result.andThen]
  rw [Oper.upon_value]
  go_wp2
  rw [Lib.run_from_unsafe w ⟨b, 0, none⟩ Tryd.underlying108 Tryd.underlying61 hj hsh Tryd.liesBuilder]
  simp only [Result.andThen]
  rw [Oper.upon_value]
  go_wp2
  go_end0
  exact ⟨rfl, rfl⟩

theorem copyCheck_any {N : Nat → Prop} {B b : Nat} {nv : Value} {bs : List UInt8} {w : World} (h : BldN N B b nv bs w) :
    Calls Tryd.prog 57 #[.pointer (some ⟨b, 0, none⟩)] w fun e w' => e = .returned (.tuple #[]) ∧ (∃ bv, Blk w' b 66 [.pointer (some ⟨b, 0, none⟩), bv, nv] ∧ OwnU B w' bv bs ∧ ∀ x, Blks bv x → ¬ N x) ∧ Turn (fun x => B ≤ x ∧ ¬ N x) w w' := by
  obtain ⟨h1, av, bv, h2, h3, h4, h5, h6⟩ := h
  rcases h3 with rfl | rfl
  · refine (copyCheck_fresh b w (h2.cell 0) h2.shape (h2.frozen 0)).mono ?_
    rintro e w' ⟨rfl, rfl⟩
    exact ⟨rfl, ⟨bv, h2.set 0 _, Ownv.setCell h4 (Ownv.notBlk h4 h2 (by decide)) _, h6⟩, (turn_setCell w _ _).mono fun x hx => by
      subst hx
      exact ⟨h1, h5⟩⟩
  · refine (copyCheck_used b w (h2.cell 0)).mono ?_
    rintro e w' ⟨rfl, rfl⟩
    exact ⟨rfl, ⟨bv, h2, h4, h6⟩, Turn.refl _ _⟩

theorem blen_any {B b : Nat} {nv : Value} {bs : List UInt8} {w : World} (h : Bld B b nv bs w) :
    Calls Tryd.prog 38 #[.pointer (some ⟨b, 0, none⟩)] w fun e w' => e = .returned (.int .i64 bs.length) ∧ w = w' := by
  obtain ⟨h1, av, bv, h2, h3, h4, _, _⟩ := h
  obtain ⟨ao, cap, rfl, _, _, _⟩ := (Own.rd h4).len
  have c1 := h2.cell 1
  rw [toI_length] at c1
  simp only [List.getElem?_cons_succ, List.getElem?_cons_zero] at c1
  go_enter Tryd.func38, Tryd.ntmps38
  go_wp2
  go_ret
  exact ⟨rfl, rfl⟩

theorem Turn.toBelow {N : Nat → Prop} {B : Nat} {w w' : World} (h : Turn (fun x => B ≤ x ∧ ¬ N x) w w') (hB : B ≤ w.heap.size) : Below B w w' :=
  Turn.below (Below.refl B w) h (fun b hb => hb.1) hB

set_option maxHeartbeats 2000000 in
set_option maxRecDepth 100000 in
theorem bbyteN_any {N : Nat → Prop} {B b : Nat} {nv : Value} {bs : List UInt8} {w : World} (h : BldN N B b nv bs w) (hB : B ≤ w.heap.size) (hN : ∀ x, N x → x < w.heap.size) (hl : bs.length ≤ 1000000) (c : UInt8) (z : Int) (hz : z = c.toNat) :
    Calls Tryd.prog 48 #[.pointer (some ⟨b, 0, none⟩), .int .u8 z] w fun e w' => e = .returned .nilIface ∧ BldN N B b nv (bs ++ [c]) w' ∧ Turn (fun x => B ≤ x ∧ ¬ N x) w w' := by
  have hBb := h.1
  have hNb : ¬ N b := by
    obtain ⟨_, _, _, _, _, _, h5, _⟩ := h
    exact h5
  subst hz
  go_enter Tryd.func48, Tryd.ntmps48
  go_wp2_with fail
  refine (copyCheck_any h).mono ?_
  rintro e w1 ⟨rfl, ⟨bv, hk, ho, hnb⟩, hb1⟩
  have hB1 : B ≤ w1.heap.size := Nat.le_trans hB hb1.size
  have c1 := hk.cell 1
  simp only [List.getElem?_cons_succ, List.getElem?_cons_zero] at c1
  go_wp2_with (at_builtin; refine go_app1 B bv bs rfl w1 c c.toNat rfl rfl ho rfl hl hB1 ?_; intro v2 w2 ho2 ht2 hb2 hloc; refine Hid.out ?_)
  refine Lib.hid ?_
  have hk2 : Blk w2 b 66 [.pointer (some ⟨b, 0, none⟩), bv, nv] := hk.turn ht2 (Ownv.notBlk ho hk (by decide))
  have hnv : ∀ x, Blks v2 x → ¬ N x := fun x hx c => by
    rcases hloc x hx with hh | hh
    · exact hnb x hh c
    · have := hN x c
      have := hb1.size
      omega
  obtain ⟨ao, cap, rfl, _, _, _⟩ := (Own.rd ho2).len
  have d1 := hk2.cell 1
  have f1 := hk2.frozen 1
  simp only [List.getElem?_cons_succ, List.getElem?_cons_zero] at d1
  have hfin : BldN N B b nv (bs ++ [c]) (w2.setCell ⟨b, 1, none⟩ (.slice ao (toI (bs ++ [c])).length cap)) := ⟨hBb, _, _, hk2.set 1 _, .inr rfl, Ownv.setCell ho2 (Ownv.notBlk ho2 hk2 (by decide)) _, hNb, hnv⟩
  have hbel : Turn (fun x => B ≤ x ∧ ¬ N x) w (w2.setCell ⟨b, 1, none⟩ (.slice ao (toI (bs ++ [c])).length cap)) := (hb1.trans (ht2.mono fun x hx => ⟨(Ownv.lt ho hx).2, hnb x hx⟩) (fun x hx => .inl hx)).trans (turn_setCell w2 _ _) (fun x hx => .inl (by subst hx; exact ⟨hBb, hNb⟩))
  generalize (toI (bs ++ [c])).length = len at hfin hbel d1 f1 ⊢
  clear ho2 hnv hloc
  go_wp2
  go_ret
  exact ⟨rfl, hfin, hbel⟩
theorem bbyte_any {B b : Nat} {nv : Value} {bs : List UInt8} {w : World} (h : Bld B b nv bs w) (hB : B ≤ w.heap.size) (hl : bs.length ≤ 1000000) (c : UInt8) (z : Int) (hz : z = c.toNat) :
    Calls Tryd.prog 48 #[.pointer (some ⟨b, 0, none⟩), .int .u8 z] w fun e w' => e = .returned .nilIface ∧ Bld B b nv (bs ++ [c]) w' ∧ Below B w w' :=
  (bbyteN_any h hB (fun _ x => x.elim) hl c z hz).mono fun e w' ⟨a, b, c⟩ => ⟨a, b, c.toBelow hB⟩

set_option maxHeartbeats 2000000 in
set_option maxRecDepth 100000 in
theorem bstrN_any {N : Nat → Prop} {B b : Nat} {nv : Value} {bs : List UInt8} {w : World} (h : BldN N B b nv bs w) (hB : B ≤ w.heap.size) (hN : ∀ x, N x → ∃ e cs, Blk w x e cs ∧ 5 ≠ e) (hl : bs.length ≤ 1000000) (s : List UInt8) (hs : s.length ≤ 1000000) :
    Calls Tryd.prog 49 #[.pointer (some ⟨b, 0, none⟩), .string (strB s)] w fun e w' => e = .returned (.tuple #[.int .i64 s.length, .nilIface]) ∧ BldN N B b nv (bs ++ s) w' ∧ Turn (fun x => B ≤ x ∧ ¬ N x) w w' := by
  have hBb := h.1
  have hNb : ¬ N b := by
    obtain ⟨_, _, _, _, _, _, h5, _⟩ := h
    exact h5
  obtain ⟨i0, hi, hz0, hz1, hz2⟩ := info_parts Tryd.info5
  have e1 := strB_size s
  have hcs : Lib.strCells (strB s) = Lib.byteCells s := rfl
  generalize strB s = S at e1 hcs
  go_enter Tryd.func49, Tryd.ntmps49
  go_wp2_with fail
  refine (copyCheck_any h).mono ?_
  rintro e w1 ⟨rfl, ⟨bv, hk, ho, hnb⟩, hb1⟩
  have hB1 : B ≤ w1.heap.size := Nat.le_trans hB hb1.size
  have c1 := hk.cell 1
  simp only [List.getElem?_cons_succ, List.getElem?_cons_zero] at c1
  go_wp2_with (at_builtin; refine Lib.wpList_append_own_string _ rfl _ _ 62 9 rfl B 5 i0 Tryd.underlying62 Tryd.underlying9 hi hz0 hz1 hz2 bv (toI bs).length _ rfl ho S rfl (by rw [e1, toI_length]; unfold maxLen; omega) (by rw [e1, toI_length]; omega) hB1 ?_; intro v2 w2 ho2 hg2 _; refine Hid.out ?_)
  refine Lib.hid ?_
  have ht2 : Turn (Blks bv) w1 w2 := (Grown.turn hg2).mono fun b hb => hb.symm
  have ho3 : OwnU B w2 v2 (bs ++ s) := by
    unfold OwnU Own Ownv
    rw [toI_cells, toI_length, List.length_append]
    rw [hcs, toI_cells, e1, toI_length] at ho2
    simpa [Lib.byteCells] using ho2
  have hb2 : Turn (fun x => B ≤ x ∧ ¬ N x) w1 w2 := ht2.mono fun x hx => ⟨(Ownv.lt ho hx).2, hnb x hx⟩
  have hk2 : Blk w2 b 66 [.pointer (some ⟨b, 0, none⟩), bv, nv] := hk.turn ht2 (Ownv.notBlk ho hk (by decide))
  have hnv : ∀ x, Blks v2 x → ¬ N x := fun x hx c => by
    obtain ⟨e, cs, hb, hne⟩ := hN x c
    exact Ownv.notBlk ho3 ((hb.turn hb1 (fun y => y.2 c)).turn hb2 (fun y => y.2 c)) hne hx
  clear ho2 hg2
  obtain ⟨ao, cap, rfl, _, _, _⟩ := (Own.rd ho3).len
  have d1 := hk2.cell 1
  have f1 := hk2.frozen 1
  simp only [List.getElem?_cons_succ, List.getElem?_cons_zero] at d1
  have hfin : BldN N B b nv (bs ++ s) (w2.setCell ⟨b, 1, none⟩ (.slice ao (toI (bs ++ s)).length cap)) := ⟨hBb, _, _, hk2.set 1 _, .inr rfl, Ownv.setCell ho3 (Ownv.notBlk ho3 hk2 (by decide)) _, hNb, hnv⟩
  have hbel : Turn (fun x => B ≤ x ∧ ¬ N x) w (w2.setCell ⟨b, 1, none⟩ (.slice ao (toI (bs ++ s)).length cap)) := (hb1.trans hb2 (fun x hx => .inl hx)).trans (turn_setCell w2 _ _) (fun x hx => .inl (by subst hx; exact ⟨hBb, hNb⟩))
  generalize (toI (bs ++ s)).length = len at hfin hbel d1 f1 ⊢
  clear ho3 hcs hnv
  go_wp2
  go_ret2
  exact ⟨rfl, hfin, hbel⟩
theorem bstr_any {B b : Nat} {nv : Value} {bs : List UInt8} {w : World} (h : Bld B b nv bs w) (hB : B ≤ w.heap.size) (hl : bs.length ≤ 1000000) (s : List UInt8) (hs : s.length ≤ 1000000) :
    Calls Tryd.prog 49 #[.pointer (some ⟨b, 0, none⟩), .string (strB s)] w fun e w' => e = .returned (.tuple #[.int .i64 s.length, .nilIface]) ∧ Bld B b nv (bs ++ s) w' ∧ Below B w w' :=
  (bstrN_any h hB (fun _ x => x.elim) hl s hs).mono fun e w' ⟨a, b, c⟩ => ⟨a, b, c.toBelow hB⟩

set_option maxHeartbeats 2000000 in
set_option maxRecDepth 100000 in
theorem bstring_any {B b : Nat} {nv : Value} {bs : List UInt8} {w : World} (h : Bld B b nv bs w) (hne : bs ≠ []) :
    Calls Tryd.prog 39 #[.pointer (some ⟨b, 0, none⟩)] w fun e w' => e = .returned (.string (strB bs)) ∧ Below B w w' := by
  obtain ⟨hB, av, bv, hbk, _, ho, _, _⟩ := h
  have hl0 : bs.length ≠ 0 := by simpa using hne
  unfold OwnU Own Ownv at ho
  rw [toI_cells, toI_length] at ho
  obtain ⟨g, cap, cur, rfl, hbg, hg, hnc, hcm, hcs, htake⟩ : ∃ g cap cur, bv = .slice (some ⟨g, 0, none⟩) bs.length cap ∧ B ≤ g ∧ w.heap[g]? = some (.cells cur 5 (0, 0)) ∧ bs.length ≤ cap ∧ cap ≤ maxLen ∧ cur.size = cap * 1 ∧ cur.toList.take (bs.length * 1) = Lib.byteCells bs := by
    rcases ho.2 with ⟨_, hz⟩ | ⟨g, cap, cur, hv, r⟩
    · exact absurd hz hl0
    · exact ⟨g, cap, cur, hv, r⟩
  have c1 : w.drew.cell? ⟨b, 1, none⟩ = some (.slice (some ⟨g, 0, none⟩) bs.length cap) := hbk.cell 1
  have hSD : (Builtin.unsafeSliceData_ #[62] 87 #[.slice (some ⟨g, 0, none⟩) bs.length cap]).run Tryd.prog w.drew = .ok (.pointer (some ⟨g, 0, none⟩)) w.drew :=
    Lib.run_unsafeSliceData_row _ _ _ _ _ _ (by omega)
  have hUS : (Builtin.unsafeString_ #[87, 3] 9 #[.pointer (some ⟨g, 0, none⟩), .int .i64 bs.length]).run Tryd.prog w.drew = .ok (.string (strB bs)) (w.drew.freeze ⟨g, 0, none⟩ bs.length) := by
    refine Lib.run_unsafeString_row w.drew 87 3 9 5 Tryd.underlying87 Tryd.cellsByte g cur.size (by have hg' : w.drew.heap[g]? = some (.cells cur 5 (0, 0)) := hg; simp [World.shape?, hg']) bs hne (by omega) (by unfold maxLen at hcm; omega) ?_
    intro j x hx
    have := ho.cells (g := g) rfl j (.int .u8 x.toNat) (by simp [Lib.byteCells, hx])
    exact this
  generalize strB bs = S at hUS ⊢
  go_enter Tryd.func39, Tryd.ntmps39
  go_wp2
  go_region
  all_goals (go_wp2; go_ret; exact ⟨rfl, Lib.below_freeze (Below.drew (Below.refl B w)) (p := ⟨g, 0, none⟩) hbg _⟩)
end Go.Proofs.YtdhdgbihalfgeaaDoor
