/- Walks of package term: Atoms. -/
import Derived.Test.YtdhdgbihalfgeaaDoorTermK
import Derived.Test.YtdhdgbihalfgeaaDoorShelf
import Derived.Lib.SortBridge
import Derived.Lib.AppendIntMem
set_option linter.unusedSimpArgs false
set_option linter.unusedVariables false
namespace Go.Proofs.YtdhdgbihalfgeaaDoor
open Go.RowKit Go.Maps

def sortI (zs : List Int) : List Int := zs.mergeSort fun x y => decide (x ≤ y)
theorem sortI_perm (zs : List Int) : (sortI zs).Perm zs := List.mergeSort_perm _ _
theorem sortI_sorted {zs : List Int} (h : zs.Nodup) : (sortI zs).Pairwise (· < ·) := by
  have h1 : (sortI zs).Pairwise fun x y => decide (x ≤ y) = true := List.pairwise_mergeSort (fun a b c h1 h2 => by simp at *; omega) (fun a b => by simp; omega) zs
  have h2 : (sortI zs).Nodup := (sortI_perm zs).nodup_iff.2 h
  have h3 := h1.and h2
  exact h3.imp fun {a b} h => by
    obtain ⟨p, q⟩ := h
    simp at p
    omega

theorem grow_kept (w : World) (os : Array Obj) : Kept w (Sort.grow w os) := Lib.below_grow w.heap.size w (Nat.le_refl _) 0 os

theorem sort_any {B : Nat} {w : World} {v : Value} {zs : List Int} (h : OwnI B w v zs) (hl : zs.length ≤ 10000000000) :
    Calls Tryd.prog 43 #[v] w fun e w' => e = .returned (.tuple #[]) ∧ RdI w' v (sortI zs) ∧ Turn (Blks v) w w' := by
  have hsl : (sortI zs).length = zs.length := (sortI_perm zs).length_eq
  by_cases hp : 0 < zs.length
  · obtain ⟨g, cap, rfl, _, hg⟩ := World.ownsRow.form h hp
    have hcell : ∀ j, j < zs.length → w.cell? ⟨g, 0 + j, none⟩ = some (.int .i64 (zs.getD j 0)) := fun j hj => by
      have := World.ownsRow.cells h rfl j (.int .i64 (zs.getD j 0)) (by simp [List.getD, List.getElem?_eq_getElem hj])
      rwa [Addr.add_lit] at this
    have hH : Sort.Holds (Value.int .i64) w g 0 zs.toArray := by
      intro j hj
      have hj' : j < zs.length := by simpa using hj
      refine ⟨?_, ?_⟩
      · rw [hcell j hj']
        simp [List.getD, List.getElem?_eq_getElem hj', getElem!_pos, hj']
      · obtain ⟨cur, hc⟩ := Ownv.obj h (b := g) rfl
        simp [World.frozen?, hc]
    refine (Tryd.slices_Sort_int g 0 cap zs w hH hg (by omega)).mono ?_
    rintro e w' ⟨rfl, q, os, rfl⟩
    rw [show (zs.mergeSort fun x y => decide (x ≤ y)) = sortI zs from rfl, Lib.sorted_world (Value.int .i64) w g 0 q zs.toArray (sortI zs) os hH (by simp [hsl])]
    have hc2 := Lib.cells_sorted_ints (W := w) (b := g) (off := 0) (n := zs.length) (q := q) (zs := zs) (ys := sortI zs) (os := os) (Nat.le_refl _) hsl hcell
    obtain ⟨_, _, hv, _, hcap, hcm, _⟩ := Ownv.rdv h
    simp only [Value.slice.injEq] at hv
    refine ⟨rfl, ?_, ?_⟩
    · unfold RdI
      rw [hsl]
      refine ⟨some ⟨g, 0, none⟩, cap, rfl, by simp [hsl], by omega, by omega, (fun e => by cases e), fun ad had j u hj => ?_⟩
      cases had
      have hj' : j < (sortI zs).length := by
        have := (List.getElem?_eq_some_iff.1 hj).1
        simpa using this
      have := hc2 j (by rw [List.length_append]; omega)
      rw [Addr.add_lit, this, ← hj]
      simp [List.getD, List.getElem?_append_left hj', List.getElem?_eq_getElem hj']
    · have t1 : Turn (Blks (.slice (some ⟨g, 0, none⟩) zs.length cap)) w ((w.drewN q).setCells g 0 ((sortI zs).map (Value.int .i64))) :=
        (((Kept.refl w).drewN q).turn _).trans ((turn_setCells (w.drewN q) g 0 _).mono fun b hb => by subst hb; rfl) (fun x hx => .inl hx)
      exact t1.kept (grow_kept _ _)
  · obtain rfl : zs = [] := List.eq_nil_of_length_eq_zero (by omega)
    obtain ⟨a, cap, rfl, h1, h2, h3⟩ := (OwnI.rd h).len
    refine (Tryd.slices_Sort_int_none a cap w).mono ?_
    rintro e w' ⟨rfl, rfl⟩
    exact ⟨rfl, by simpa [sortI] using OwnI.rd h, Turn.refl _ _⟩

/-- Block mb is a set of numbers that is gone through by the iterator r; these are still to come. -/
def Rng (w : World) (mb r : Nat) (todo : List Int) : Prop :=
  ∃ (D : DataW Unit) (n : Nat) (left : Lit → Bool) (cnt : Nat), w.ranges Tryd.prog 3 unitElem mb r n D left cnt ∧ todo.Nodup ∧ ∀ x, left (.int .i64 x) = true ↔ x ∈ todo
theorem Rng.turn {w w' : World} {mb r : Nat} {todo : List Int} {F : Nat → Prop} (h : Rng w mb r todo) (t : Turn F w w') (h1 : ¬ F mb) (h2 : ¬ F r) : Rng w' mb r todo := by
  obtain ⟨D, n, left, cnt, hr, hn, hl⟩ := h
  refine ⟨D, n, left, cnt, ?_, hn, hl⟩
  have l1 := hr.owns.lt
  have l2 := hr.lt
  obtain ⟨es, clock, since, seen, c0, hb, F', hs, hD, hr', rest⟩ := hr
  exact ⟨es, clock, since, seen, c0, (t.block mb l1 h1).trans hb, F', hs, hD, (t.block r l2 h2).trans hr', rest⟩
theorem Rng.notBlk {w : World} {mb r : Nat} {todo : List Int} (h : Rng w mb r todo) {B : Nat} {e : TypeId} {size m : Nat} {v : Value} {xs : List Value} (h' : Ownv B e size w v m xs) : ¬ Blks v mb ∧ ¬ Blks v r := by
  obtain ⟨D, n, left, cnt, hr, hn, hl⟩ := h
  refine ⟨ownsMap_notBlk hr.owns h', fun hb => ?_⟩
  obtain ⟨c, hc⟩ := h'.obj hb
  obtain ⟨es, clock, since, seen, c0, _, _, _, _, hr', _⟩ := hr
  rw [hc] at hr'
  simp at hr'
theorem Rng.left {w : World} {mb r : Nat} {todo : List Int} (h : Rng w mb r todo) : ∃ cnt, w.rangeLeft mb r = cnt := ⟨_, rfl⟩
theorem rangeLeft_turn {w w' : World} {mb r : Nat} {todo : List Int} {F : Nat → Prop} (h : Rng w mb r todo) (t : Turn F w w') (h1 : ¬ F mb) (h2 : ¬ F r) : w'.rangeLeft mb r = w.rangeLeft mb r := by
  obtain ⟨D, n, left, cnt, hr, hn, hl⟩ := h
  unfold World.rangeLeft
  rw [t.block mb hr.owns.lt h1, t.block r hr.lt h2]

theorem go_set_range {w : World} {ops : Array Oper} {rest : List Oper} {o : Oper} {a : Act} {Q : Exit → Act → World → Prop} (hg : o.guard = none) (m : Operand) (hop : o.op = Op.range 71 m)
    (mb : Nat) (ks : List Int) (hm : a.eval m = .map (some mb)) (h : MapSet w mb ks) (hn : ks.Nodup)
    (hK : ∀ w', Rng w' mb w.heap.size ks → Kept w w' → wpList Tryd.prog ops Q rest (a.put o.dst (.pointer (some ⟨w.heap.size, 0, none⟩))) w') : wpList Tryd.prog ops Q (o :: rest) a w := by
  obtain ⟨D, n, h1, h2, h3, h4⟩ := h
  refine wpList_range_own w hg m 71 hop 3 89 (int_keyed Tryd.underlying3) Tryd.underlying71 unitElem mb n D hm h1 ?_
  intro w' hr hgr _
  exact hK w' ⟨D, n, _, _, hr, hn, h4⟩ ⟨hgr.os, hgr.tape, hgr.output, hgr.size, fun k hk => hgr.block k hk (by simp)⟩

theorem sameKey_int {x y : Int} (hx : I64 x) : (Lit.int .i64 y).sameKey (.int .i64 x) = decide (y = x) := by
  by_cases c : y = x
  · subst c
    rw [WideAt.sameKey_self (isKeyInt hx)]; simp
  · rw [Maps.sameKey_ne (fun e => c (by injection e)), decide_eq_false c]

theorem go_set_next {w : World} {ops : Array Oper} {rest : List Oper} {o : Oper} {a : Act} {Q : Exit → Act → World → Prop} (hg : o.guard = none) (it : Operand) (hop : o.op = Op.next it false)
    (mb r : Nat) (todo : List Int) (hit : a.eval it = .pointer (some ⟨r, 0, none⟩)) (h : Rng w mb r todo)
    (hDone : todo = [] → wpList Tryd.prog ops Q rest (a.put o.dst (.tuple #[.bool false])) w)
    (hMore : ∀ (x : Int) (w' : World), x ∈ todo → Rng w' mb r (todo.erase x) → Turn (fun b => b = r) w w' → w'.rangeLeft mb r < w.rangeLeft mb r → (Instr.entry (.pointer (some ⟨r, 0, none⟩))).run Tryd.prog w' = .ok (.tuple #[.int .i64 x, .agg #[]]) w' →
      wpList Tryd.prog ops Q rest (a.put o.dst (.tuple #[.bool true, .int .i64 x, .agg #[]])) w') : wpList Tryd.prog ops Q (o :: rest) a w := by
  obtain ⟨D, n, left, cnt, hr, hn, hl⟩ := h
  refine wpList_next_ranges (α := Int) (β := Unit) w hg it hop 3 (int_keyed Tryd.underlying3) unitElem (Value.int .i64) (fun _ => .agg #[]) (fun key kl hkey => by obtain ⟨x, rfl, _⟩ := Maps.keyOf_int_inv Tryd.underlying3 hkey; exact ⟨x, rfl⟩) (fun v y hv => ⟨(), (unitElem_inv hv).1⟩)
    mb r n D left cnt hit hr (fun h0 hl0 => hDone ?_) (fun x c kl y w' cnt' hkey hlk hv hat hrg hlt hgr hsz hen => ?_)
  · cases htodo : todo with
    | nil => rfl
    | cons z r =>
      have := (hl z).2 (by rw [htodo]; exact List.mem_cons_self)
      rw [hl0] at this
      cases this
  · obtain ⟨x', ex, rfl, hwx⟩ := Maps.keyOf_int_inv Tryd.underlying3 hkey
    cases ex
    have hx64 : I64 x := by
      exact bounds_i64 hwx
    refine hMore x w' ((hl x).1 hlk) ⟨D, n, _, cnt', hrg, hn.erase _, fun z => ?_⟩ ((Grown.turn hgr).mono fun b hb => by simpa using hb) (by rw [hrg.left_eq, hr.left_eq]; exact hlt) hen
    rw [sameKey_int hx64, List.Nodup.mem_erase_iff hn, Bool.and_eq_true, hl z]
    simp
    exact ⟨fun ⟨a, b⟩ => ⟨b, a⟩, fun ⟨a, b⟩ => ⟨b, a⟩⟩

/-- What has been gathered of the atoms. -/
structure AtomInv (ds : List Nd) (ks todo zs : List Int) : Prop where
  sub : ∀ x ∈ todo, x ∈ ks
  has : ∀ n, n ∈ zs ↔ ∃ x ∈ ks, x ∉ todo ∧ (ds.getD x.toNat nd0).op = 1 ∧ (ds.getD x.toNat nd0).n = n
  once : zs.Nodup
theorem AtomInv.start (ds : List Nd) (ks : List Int) : AtomInv ds ks ks [] :=
  ⟨fun x h => h, fun n => ⟨(fun h => by cases h), fun ⟨x, h1, h2, _⟩ => absurd h1 h2⟩, by simp⟩
theorem AtomInv.skip {ds : List Nd} {ks todo zs : List Int} (h : AtomInv ds ks todo zs) (hn : todo.Nodup) {x : Int} (hx : x ∈ todo) (ho : (ds.getD x.toNat nd0).op ≠ 1) : AtomInv ds ks (todo.erase x) zs :=
  ⟨fun y hy => h.sub y (List.mem_of_mem_erase hy), fun n => by
    rw [h.has n]
    refine ⟨fun ⟨y, h1, h2, h3, h4⟩ => ⟨y, h1, fun hy => h2 (List.mem_of_mem_erase hy), h3, h4⟩, fun ⟨y, h1, h2, h3, h4⟩ => ⟨y, h1, fun hy => ?_, h3, h4⟩⟩
    by_cases c : y = x
    · subst c; exact ho h3
    · exact h2 ((List.Nodup.mem_erase_iff hn).2 ⟨c, hy⟩), h.once⟩
theorem atom_once {ds : List Nd} (hg : Good ds) {x y : Int} (hx : 0 ≤ x ∧ x < ds.length) (hy : 0 ≤ y ∧ y < ds.length) (ox : (ds.getD x.toNat nd0).op = 1) (oy : (ds.getD y.toNat nd0).op = 1) (h : (ds.getD x.toNat nd0).n = (ds.getD y.toNat nd0).n) : x = y := by
  have mx := hg.may' (i := x.toNat) (by omega)
  have my := hg.may' (i := y.toNat) (by omega)
  have e := hg.once x.toNat y.toNat (by omega) (by omega) (nd_ext (ox.trans oy.symm) h ((mx.s1.resolve_right (by omega)).trans (my.s1.resolve_right (by omega)).symm) ((mx.nol (.inl ox)).trans (my.nol (.inl oy)).symm))
  omega
theorem AtomInv.add {ds : List Nd} (hg : Good ds) {ks todo zs : List Int} (h : AtomInv ds ks todo zs) (hn : todo.Nodup) (hks : ∀ x ∈ ks, 0 ≤ x ∧ x < ds.length) {x : Int} (hx : x ∈ todo) (ho : (ds.getD x.toNat nd0).op = 1) : AtomInv ds ks (todo.erase x) (zs ++ [(ds.getD x.toNat nd0).n]) := by
  refine ⟨fun y hy => h.sub y (List.mem_of_mem_erase hy), fun n => ?_, ?_⟩
  · rw [List.mem_append, h.has n]
    refine ⟨fun hh => ?_, fun ⟨y, h1, h2, h3, h4⟩ => ?_⟩
    · rcases hh with ⟨y, h1, h2, h3, h4⟩ | hh
      · exact ⟨y, h1, fun hy => h2 (List.mem_of_mem_erase hy), h3, h4⟩
      · exact ⟨x, h.sub x hx, fun hy => ((List.Nodup.mem_erase_iff hn).1 hy).1 rfl, ho, (List.mem_singleton.1 hh).symm⟩
    · by_cases c : y = x
      · subst c; exact .inr (by rw [h4]; simp)
      · exact .inl ⟨y, h1, fun hy => h2 ((List.Nodup.mem_erase_iff hn).2 ⟨c, hy⟩), h3, h4⟩
  · refine List.nodup_append.2 ⟨h.once, by simp, fun a ha b hb => ?_⟩
    rw [List.mem_singleton] at hb
    subst hb
    intro e
    subst e
    obtain ⟨y, h1, h2, h3, h4⟩ := (h.has _).1 ha
    exact h2 (atom_once hg (hks y h1) (hks x (h.sub x hx)) h3 ho h4 ▸ hx)
theorem nodup_sub {α : Type} [DecidableEq α] : ∀ (l m : List α), l.Nodup → (∀ x ∈ l, x ∈ m) → l.length ≤ m.length
  | [], m, _, _ => by simp
  | x :: l, m, hn, hs => by
    obtain ⟨h1, h2⟩ := List.nodup_cons.1 hn
    have hx := hs x List.mem_cons_self
    have := nodup_sub l (m.erase x) h2 (fun y hy => by
      have hne : y ≠ x := fun e => h1 (e ▸ hy)
      exact (List.mem_erase_of_ne hne).2 (hs y (List.mem_cons_of_mem _ hy)))
    rw [List.length_erase_of_mem hx] at this
    have := List.length_pos_of_mem hx
    simp
    omega
theorem AtomInv.len {ds : List Nd} {ks todo zs : List Int} (h : AtomInv ds ks todo zs) : zs.length ≤ ks.length := by
  have := nodup_sub zs (ks.map fun x => (ds.getD x.toNat nd0).n) h.once (fun n hn => by
    obtain ⟨x, h1, _, _, h4⟩ := (h.has n).1 hn
    exact List.mem_map.2 ⟨x, h1, h4⟩)
  simpa using this
theorem AtomInv.done {ds : List Nd} {t : Int} {ks zs : List Int} (h : AtomInv ds ks [] zs) (hp : Parts ds t ks) : Atoms ds t (sortI zs) := by
  refine ⟨sortI_sorted h.once, fun n => ?_⟩
  rw [(sortI_perm zs).mem_iff, h.has n]
  exact ⟨fun ⟨x, h1, _, h3, h4⟩ => ⟨x, (hp.2 x).1 h1, h3, h4⟩, fun ⟨x, h1, h3, h4⟩ => ⟨x, (hp.2 x).2 h1, by simp, h3, h4⟩⟩

set_option maxHeartbeats 4000000 in
set_option maxRecDepth 100000 in
theorem atoms_any {F : Nat → Prop} {w : World} {p : Value} {ds : List Nd} (h : Ar F w p ds) {t : Int} (ht : I64 t) :
    Calls Tryd.prog 25 #[p, .int .i64 t] w fun e w' => ∃ (v : Value) (l : List Int), e = .returned v ∧ RdI w' v l ∧ Atoms ds t l ∧ Kept w w' ∧ (∀ b, Blks v b → w.heap.size ≤ b) := by
  have hwi := within_any h ht
  obtain ⟨pb, mb0, nv, rfl, q0, q1, hns⟩ := ArG.nodes h
  obtain ⟨na, ncap, rfl, _, _, _⟩ := hns.len
  have hq := World.block_lt_of_cell? _ _ q0
  have HG := Shut.mk h.good
  have HF := Shut.mk h.few
  clear h
  go_enter Tryd.func25, Tryd.ntmps25
  go_wp2_with fail
  refine hwi.mono ?_
  rintro e w1 ⟨mb, ks, rfl, m1, hp, k1, hmb⟩
  go_wp2_with (at_range; refine go_set_range rfl _ rfl mb ks rfl m1 hp.1 ?_; intro w2 r2 k2)
  go_frame
  have hks : ∀ x ∈ ks, 0 ≤ x ∧ x < ds.length := fun x hx => by have := ((hp.2 x).1 hx).bound HG.out; omega
  have HKS := Shut.mk hks
  clear hks
  go_loopw [5] (fun v wr => ∃ (todo zs : List Int), Rng wr mb w1.heap.size todo ∧ OwnI 0 wr v zs ∧ (∀ b, Blks v b → w.heap.size ≤ b) ∧ AtomInv ds ks todo zs ∧ Kept w wr) (fun _ wr => wr.rangeLeft mb w1.heap.size)
  case atStart => exact ⟨ks, [], r2, OwnI.nil _ _, (fun b hb => by cases hb), AtomInv.start ds ks, k1.trans k2⟩
  case round =>
    obtain ⟨todo, zs, hr, ho, hb, hi, hk⟩ := hrel
    have hz0 : zs.length ≤ 100000 := by
      have a1 := hi.len
      have a2 := nodup_le ds.length ks hp.1 HKS.out
      have a3 := HF.out
      omega
    have HZ := Shut.mk hz0
    clear hz0
    have HI := Shut.mk hi
    clear hi
    go_wp2_with (at_next; refine go_set_next rfl _ rfl mb w1.heap.size todo rfl hr ?_ ?_ <;> refine Hid.out ?_)
    · refine Lib.hid ?_
      intro htodo
      subst htodo
      have hz : zs.length ≤ 10000000000 := by have := HZ.out; omega
      go_wp2_with fail
      refine (sort_any ho hz).mono ?_
      rintro e w4 ⟨rfl, hs, ts⟩
      obtain ⟨a5, c5, rfl, _, _, _⟩ := hs.len
      go_wp2
      go_ret
      exact ⟨_, sortI zs, rfl, hs, HI.out.done hp, Turn.keptOf hk ts hb, hb⟩
    · refine Lib.hid ?_
      intro x w3 hx r3 t3 hlt hen
      have hr2 : w1.heap.size ≠ mb := by
        obtain ⟨_, _, _, _, hrr, _⟩ := hr
        exact hrr.ne
      have hk3 : Kept w w3 := Turn.keptOf hk t3 (fun b hbb => by have := k1.size; omega)
      have hxk := HKS.out x (HI.out.sub x hx)
      have hX := Shut.mk hx
      clear hx
      obtain ⟨j, rfl⟩ := Int.eq_ofNat_of_zero_le hxk.1
      have hjl : j < ds.length := by omega
      have j0 : (0 : Int) ≤ (j : Int) := by omega
      have j1 : (j : Int) < (ds.length : Int) := by omega
      obtain ⟨nb, noff, ncap2, lvs, hnv, _, _, hnb, hnc, hnl⟩ := hns.addr (by omega)
      simp only [Value.slice.injEq] at hnv
      obtain ⟨rfl, _, rfl⟩ := hnv
      obtain ⟨y0, y1, _, _⟩ := hnc j hjl
      have z0 := hk3.cell (p := ⟨nb, noff + j * 4, none⟩) hnb |>.trans y0
      have z1 := hk3.cell (p := ⟨nb, noff + j * 4 + 1, none⟩) hnb |>.trans y1
      have zq := hk3.cell (p := ⟨pb, 0, none⟩) hq |>.trans q0
      clear hnc y0 y1
      have o3 : OwnI 0 w3 u5 zs := Ownv.turn ho t3 (fun b hb1 hb2 => by subst hb2; exact (Rng.notBlk hr ho).2 hb1)
      have HN := Shut.mk (show ∃ d, d = ds.getD j nd0 from ⟨_, rfl⟩)
      generalize hop : (ds.getD j nd0).op = op at z0
      generalize hnn : (ds.getD j nd0).n = nn at z1
      have HOP := Shut.mk hop
      have HNN := Shut.mk hnn
      clear hop hnn hxk
      have htn := Shut.mk (show todo.Nodup by obtain ⟨_, _, _, _, _, hn, _⟩ := hr; exact hn)
      by_cases c1 : op = 1
      · subst c1
        go_wp2_with (at_builtin; refine go_appi 0 u5 zs rfl (Ownv.kept o3 ((Kept.refl w3).alloc _)) _ [nn] rfl (OwnI.rd (OwnI.lit1 w3 nn)) (by have := HZ.out; simp; omega) (Nat.zero_le _) ?_; intro v6 w6 o6 t6 l6)
        have ka : Kept w3 (w3.alloc (.cells #[.int .i64 nn] 3)) := (Kept.refl w3).alloc _
        have r4 : Rng (w3.alloc (.cells #[.int .i64 nn] 3)) mb w1.heap.size (todo.erase j) := r3.turn (ka.turn (fun _ => False)) (fun x => x) (fun x => x)
        have o4 : OwnI 0 (w3.alloc (.cells #[.int .i64 nn] 3)) u5 zs := Ownv.kept o3 ka
        have r6 := r4.turn t6 (Rng.notBlk r4 o4).1 (Rng.notBlk r4 o4).2
        have e6 := rangeLeft_turn r4 t6 (Rng.notBlk r4 o4).1 (Rng.notBlk r4 o4).2
        have e4 := rangeLeft_turn r3 (ka.turn (fun _ => False)) (fun x => x) (fun x => x)
        go_roundw
        case rel =>
          refine ⟨_, zs ++ [nn], r6, o6, fun b hb1 => ?_, ?_, Turn.keptOf (hk3.trans ka) t6 hb⟩
          · rcases l6 b hb1 with c | c
            · exact hb b c
            · have := (hk3.trans ka).size; omega
          · have := HI.out.add HG.out htn.out HKS.out hX.out HOP.out
            rw [show (ds.getD (Int.toNat (j : Int)) nd0).n = nn from HNN.out] at this
            exact this
        case measure =>
          show World.rangeLeft _ mb w1.heap.size < World.rangeLeft _ mb w1.heap.size
          rw [e6, e4]; exact hlt
      · have hb1 : (op == 1) = false := by simpa using c1
        have HC := Shut.mk c1
        clear c1
        go_wp2
        go_roundw
        case rel => exact ⟨_, zs, r3, o3, hb, HI.out.skip htn.out hX.out (by rw [show (ds.getD (Int.toNat (j : Int)) nd0).op = op from HOP.out]; exact HC.out), hk3⟩
        case measure => exact hlt
end Go.Proofs.YtdhdgbihalfgeaaDoor
