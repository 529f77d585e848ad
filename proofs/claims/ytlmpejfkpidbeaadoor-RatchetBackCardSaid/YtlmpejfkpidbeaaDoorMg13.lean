/- Texts of one proof, put together: RpW, RpX, RpY, RpZ. -/
import Derived.Test.YtlmpejfkpidbeaaDoorMg09
import Derived.Test.YtlmpejfkpidbeaaDoorMg11
import Derived.Defers
import Derived.Recover
import Derived.Test.YtlmpejfkpidbeaaDoorMg12
import Derived.Deep.RegionHeld3
import Derived.Deep.Cut
import Derived.BigQuiet
section
/- Walks of the program's ratchet: the two changes that RatchetBack makes, done. -/
set_option linter.unusedSimpArgs false
set_option linter.unusedVariables false
namespace Go.Proofs.YtlmpejfkpidbeaaDoor
open Go.RowKit
open Rt

theorem RdI.over {w : World} {v : Value} {zs : List Int} {a : Addr} {x y : Value} (h : RdI w v zs) (hc : w.cell? a = some y) (hy : y = x ∨ ∀ z, y ≠ .int .i64 z) : RdI (w.setCell a x) v zs := by
  obtain ⟨ao, cap, rfl, hl, h1, h2, h3, h4⟩ := h
  refine ⟨ao, cap, rfl, hl, h1, h2, h3, fun ad hd j u hj => ?_⟩
  have h5 := h4 ad hd j u hj
  by_cases e : ad.add j = a
  · rw [e] at h5 ⊢
    have e1 : u = y := Option.some.inj (h5.symm.trans hc)
    rcases hy with rfl | hy
    · subst e1
      exact World.cell?_setCell_same' _ _ _ (by rw [h5]; rfl)
    · rw [List.getElem?_map] at hj
      cases hz : zs[j]? with
      | none => rw [hz] at hj; cases hj
      | some z =>
        rw [hz] at hj
        exact absurd ((Option.some.inj hj).trans e1).symm (hy z)
  · rw [World.cell?_setCell_other _ _ _ _ (fun h => by first | exact e h | exact e h.symm)]
    exact h5
theorem add_blk (a : Addr) (i : Nat) : (a.add i).block = a.block := by unfold Addr.add; split <;> rfl
theorem RdTs.over {w : World} {v : Value} {ds : List TN} {B n b : Nat} {x y : Value} (h : RdTs w v ds) (o : Row0 B w v n) (hb : b < B) (hc : w.cell? ⟨b, 0, none⟩ = some y) (hy : y = x ∨ ∀ z, y ≠ .int .i64 z) : RdTs (w.setCell ⟨b, 0, none⟩ x) v ds := by
  obtain ⟨lvs, hl, ⟨ao, cap, hv, h0, h1, h2, h3, h4⟩, hr⟩ := h
  refine ⟨lvs, hl, ⟨ao, cap, hv, h0, h1, h2, h3, fun ad hd j u hj => ?_⟩, fun i hi => (hr i hi).over hc hy⟩
  have h5 := h4 ad hd j u hj
  rcases o with ⟨o, -⟩ | ⟨g, c, cur, o, hg, -⟩
  · rw [hv, hd] at o; cases o
  · rw [hv, hd] at o
    simp only [Value.slice.injEq, Option.some.injEq] at o
    obtain ⟨rfl, -, -⟩ := o
    rw [World.cell?_setCell_other _ _ _ _ (fun h => by have := congrArg Addr.block h; rw [add_blk] at this; exact absurd this (by show ¬ b = g; omega))]
    exact h5
theorem Row0.over {B n b : Nat} {w : World} {v x : Value} (h : Row0 B w v n) (hb : b < B) : Row0 B (w.setCell ⟨b, 0, none⟩ x) v n := by
  rcases h with h | ⟨g, cap, cur, h1, h2, h3, h4⟩
  · exact .inl h
  · exact .inr ⟨g, cap, cur, h1, h2, by rw [Below.heap_setCell _ _ _ _ (by show g ≠ b; omega)]; exact h3, h4⟩
theorem idle_any (p q : Addr) (w : World) :
    CallsD Tryd.prog 81 #[.pointer (some p), .pointer (some q)] .returning w fun e u' w' => e = .returned (.tuple #[]) ∧ u' = .returning ∧ w' = w := by
  refine callsD_of_wpS Tryd.func81 rfl fun c₀ cs hu => ?_
  apply wpS_seq
  apply wpS_region
  simp [wpOpsS, go_sem, recoverD, hu, Tryd.ntmps81, Exit.thenS]
  refine wpS_cond (t := false) (by simp [Act.eval, Array.replicate]) ?_
  simp only [Bool.false_eq_true, if_false]
  refine wpS_of_wp ?_
  go_wp2
  cases c₀
  simp_all [bodyPostS, results, Tryd.results81, Exit.thenS]
set_option maxHeartbeats 4000000 in
set_option maxRecDepth 100000 in
theorem back1_any {W : World} {tv : Value} {t : List TN} {l : TN} {b : Nat} {lv : Value} (ht : RdTs W tv t) (hf : FitT t) (hT : Tabs W)
    (hb : Blk W b 32 [.int .i64 l.kd, .int .i64 l.id, .int .i64 l.enc, .int .i64 l.sig, .int .i64 l.hash, lv]) (hu : RdI W lv l.un) (hlu : l.un.length ≤ 1000) :
    Calls Tryd.prog 30 #[tv, .pointer (some ⟨b, 0, none⟩)] W (PTree W (addT t l) (addE t l)) := by
  have HA := Lib.hid (padd_any (lv := .agg #[.int .i64 l.kd, .int .i64 l.id, .int .i64 l.enc, .int .i64 l.sig, .int .i64 l.hash, lv]) ht hf.ok hf.len hf.un hT ⟨_, rfl, hu⟩ hlu)
  unfold PAdd at HA
  unfold PTree
  have c0 := hb.cell 0
  have c1 := hb.cell 1
  have c2 := hb.cell 2
  have c3 := hb.cell 3
  have c4 := hb.cell 4
  have c5 := hb.cell 5
  simp only [List.getElem?_cons_zero, List.getElem?_cons_succ] at c0 c1 c2 c3 c4 c5
  go_enter Tryd.func30, Tryd.ntmps30
  go_wp2_with fail
  (with_reducible refine HA.out.mono ?_); rintro e w1 ⟨v, rfl, r, o, q⟩
  go_wp2
  go_ret2
  exact ⟨v, rfl, r, o, q⟩
set_option maxHeartbeats 4000000 in
set_option maxRecDepth 100000 in
theorem back2_any {W : World} {tv : Value} {t : List TN} {k : Int} {b : Nat} (ht : RdTs W tv t) (hf : FitT t) (hT : Tabs W) (hk : I64 k)
    (hb : Blk W b 3 [.int .i64 k]) :
    Calls Tryd.prog 31 #[tv, .pointer (some ⟨b, 0, none⟩)] W (PTree W (remT t k) (remE t k)) := by
  have HA := Lib.hid (premove_any ht hf.ok hf.len hf.un hT k hk)
  unfold PTree at HA ⊢
  have c0 := hb.cell 0
  simp only [List.getElem?_cons_zero, List.getElem?_cons_succ] at c0
  go_enter Tryd.func31, Tryd.ntmps31
  go_wp2_with fail
  (with_reducible refine HA.out.mono ?_); rintro e w1 ⟨v, rfl, r, o, q⟩
  go_wp2
  go_ret2
  exact ⟨v, rfl, r, o, q⟩
set_option maxHeartbeats 4000000 in
set_option maxRecDepth 100000 in
theorem done1_any {W : World} {tv : Value} {t : List TN} {l : TN} {b : Nat} {lv : Value} (ht : RdTs W tv t) (hf : FitT t) (hT : Tabs W)
    (hb : Blk W b 32 [.int .i64 l.kd, .int .i64 l.id, .int .i64 l.enc, .int .i64 l.sig, .int .i64 l.hash, lv]) (hu : RdI W lv l.un) (hlu : l.un.length ≤ 1000) (he : addE t l = 0) :
    Calls Tryd.prog 60 #[.func (.func 30) #[] #[.pointer (some ⟨b, 0, none⟩)], tv] W (PTree W (addT t l) (addE t l)) := by
  have HB := Lib.hid (fun W' (q : Kept W W') => back1_any (ht.kept q) hf (hT.kept q) (hb.kept q) (hu.kept q) hlu)
  unfold PTree at HB ⊢
  have hmf : ∀ (fn : Fn) (first cap : Array Value) (w : World), (Instr.makeFunc fn first cap).run Tryd.prog w = .ok (.func fn first cap) w := fun _ _ _ _ => rfl
  go_enter_defers Tryd.func60, Tryd.ntmps60
  have kA : Kept W ((W.alloc (.cells #[.slice none 0 0] 22)).alloc (.cells #[.int .i64 0] 25)) := ((Kept.refl W).alloc _).alloc _
  have b4 : Blk ((W.alloc (.cells #[.slice none 0 0] 22)).alloc (.cells #[.int .i64 0] 25)) W.heap.size 22 [.slice none 0 0] := (Blk.new W [.slice none 0 0] 22).kept ((Kept.refl _).alloc _)
  have b5 : Blk ((W.alloc (.cells #[.slice none 0 0] 22)).alloc (.cells #[.int .i64 0] 25)) (W.heap.size + 1) 25 [.int .i64 0] := by
    have := Blk.new (W.alloc (.cells #[.slice none 0 0] 22)) [.int .i64 0] 25
    rwa [alloc_size] at this
  have hsz : ((W.alloc (.cells #[.slice none 0 0] 22)).alloc (.cells #[.int .i64 0] 25)).heap.size = W.heap.size + 2 := by rw [alloc_size, alloc_size]
  go_wp2_with fail
  (with_reducible refine (HB.out _ kA).mono ?_); rintro e w1 ⟨v, rfl, r, o, q⟩
  rw [he]
  obtain ⟨va, vc, rfl, _, _, _⟩ := r.len
  have b4 := b4.kept q
  have b5 := b5.kept q
  rw [hsz] at o
  have k1 := kA.trans q
  have c4 := b4.cell 0
  have c5 := b5.cell 0
  have f4 := b4.frozen 0
  have f5 := b5.frozen 0
  simp only [List.getElem?_cons_zero] at c4 c5
  go_wp2
  have g4 : ((w1.setCell ⟨W.heap.size, 0, none⟩ (.slice va (addT t l).length vc)).setCell ⟨W.heap.size + 1, 0, none⟩ (.int .i64 0)).cell? ⟨W.heap.size, 0, none⟩ = some (.slice va (addT t l).length vc) := by
    rw [World.cell?_setCell_other _ _ _ _ (by simp)]
    exact World.cell?_setCell_same' _ _ _ (by rw [c4]; rfl)
  have h5 : (w1.setCell ⟨W.heap.size, 0, none⟩ (.slice va (addT t l).length vc)).cell? ⟨W.heap.size + 1, 0, none⟩ = some (.int .i64 0) := by
    rw [World.cell?_setCell_other _ _ _ _ (by simp)]
    exact c5
  have g5 : ((w1.setCell ⟨W.heap.size, 0, none⟩ (.slice va (addT t l).length vc)).setCell ⟨W.heap.size + 1, 0, none⟩ (.int .i64 0)).cell? ⟨W.heap.size + 1, 0, none⟩ = some (.int .i64 0) :=
    World.cell?_setCell_same' _ _ _ (by rw [h5]; rfl)
  have r2 := (r.over o (b := W.heap.size) (x := .slice va (addT t l).length vc) (by omega) c4 (.inr (fun z h => by cases h)))
  have o2 := o.over (b := W.heap.size) (x := .slice va (addT t l).length vc) (by omega)
  have r3 := r2.over o2 (b := W.heap.size + 1) (x := .int .i64 0) (by omega) h5 (.inl rfl)
  have o3 := o2.over (b := W.heap.size + 1) (x := .int .i64 0) (by omega)
  have k3 := (k1.setCell (ad := ⟨W.heap.size, 0, none⟩) (Nat.le_refl _) (.slice va (addT t l).length vc)).setCell (ad := ⟨W.heap.size + 1, 0, none⟩) (Nat.le_succ _) (.int .i64 0)
  generalize (w1.setCell ⟨W.heap.size, 0, none⟩ (.slice va (addT t l).length vc)).setCell ⟨W.heap.size + 1, 0, none⟩ (.int .i64 0) = w2 at g4 g5 r3 o3 k3 ⊢
  refine leaves_cons (f := 81) (args := #[.pointer (some ⟨W.heap.size, 0, none⟩), .pointer (some ⟨W.heap.size + 1, 0, none⟩)]) (by simp) (by simp [go_sem]) ?_
  refine (idle_any ⟨W.heap.size, 0, none⟩ ⟨W.heap.size + 1, 0, none⟩ _).mono ?_
  rintro e u' w'' ⟨rfl, rfl, rfl⟩
  refine ⟨.tuple #[.slice va (addT t l).length vc, .int .i64 0], ?_, _, by rw [he], r3, o3.mono (by omega), k3⟩
  simp [results, Tryd.results60, go_sem, g4, g5]
set_option maxHeartbeats 4000000 in
set_option maxRecDepth 100000 in
theorem done2_any {W : World} {tv : Value} {t : List TN} {k : Int} {b : Nat} (ht : RdTs W tv t) (hf : FitT t) (hT : Tabs W) (hk : I64 k)
    (hb : Blk W b 3 [.int .i64 k]) (he : remE t k = 0) :
    Calls Tryd.prog 60 #[.func (.func 31) #[] #[.pointer (some ⟨b, 0, none⟩)], tv] W (PTree W (remT t k) (remE t k)) := by
  have HB := Lib.hid (fun W' (q : Kept W W') => back2_any (ht.kept q) hf (hT.kept q) hk (hb.kept q))
  unfold PTree at HB ⊢
  have hmf : ∀ (fn : Fn) (first cap : Array Value) (w : World), (Instr.makeFunc fn first cap).run Tryd.prog w = .ok (.func fn first cap) w := fun _ _ _ _ => rfl
  go_enter_defers Tryd.func60, Tryd.ntmps60
  have kA : Kept W ((W.alloc (.cells #[.slice none 0 0] 22)).alloc (.cells #[.int .i64 0] 25)) := ((Kept.refl W).alloc _).alloc _
  have b4 : Blk ((W.alloc (.cells #[.slice none 0 0] 22)).alloc (.cells #[.int .i64 0] 25)) W.heap.size 22 [.slice none 0 0] := (Blk.new W [.slice none 0 0] 22).kept ((Kept.refl _).alloc _)
  have b5 : Blk ((W.alloc (.cells #[.slice none 0 0] 22)).alloc (.cells #[.int .i64 0] 25)) (W.heap.size + 1) 25 [.int .i64 0] := by
    have := Blk.new (W.alloc (.cells #[.slice none 0 0] 22)) [.int .i64 0] 25
    rwa [alloc_size] at this
  have hsz : ((W.alloc (.cells #[.slice none 0 0] 22)).alloc (.cells #[.int .i64 0] 25)).heap.size = W.heap.size + 2 := by rw [alloc_size, alloc_size]
  go_wp2_with fail
  (with_reducible refine (HB.out _ kA).mono ?_); rintro e w1 ⟨v, rfl, r, o, q⟩
  rw [he]
  obtain ⟨va, vc, rfl, _, _, _⟩ := r.len
  have b4 := b4.kept q
  have b5 := b5.kept q
  rw [hsz] at o
  have k1 := kA.trans q
  have c4 := b4.cell 0
  have c5 := b5.cell 0
  have f4 := b4.frozen 0
  have f5 := b5.frozen 0
  simp only [List.getElem?_cons_zero] at c4 c5
  go_wp2
  have g4 : ((w1.setCell ⟨W.heap.size, 0, none⟩ (.slice va (remT t k).length vc)).setCell ⟨W.heap.size + 1, 0, none⟩ (.int .i64 0)).cell? ⟨W.heap.size, 0, none⟩ = some (.slice va (remT t k).length vc) := by
    rw [World.cell?_setCell_other _ _ _ _ (by simp)]
    exact World.cell?_setCell_same' _ _ _ (by rw [c4]; rfl)
  have h5 : (w1.setCell ⟨W.heap.size, 0, none⟩ (.slice va (remT t k).length vc)).cell? ⟨W.heap.size + 1, 0, none⟩ = some (.int .i64 0) := by
    rw [World.cell?_setCell_other _ _ _ _ (by simp)]
    exact c5
  have g5 : ((w1.setCell ⟨W.heap.size, 0, none⟩ (.slice va (remT t k).length vc)).setCell ⟨W.heap.size + 1, 0, none⟩ (.int .i64 0)).cell? ⟨W.heap.size + 1, 0, none⟩ = some (.int .i64 0) :=
    World.cell?_setCell_same' _ _ _ (by rw [h5]; rfl)
  have r2 := (r.over o (b := W.heap.size) (x := .slice va (remT t k).length vc) (by omega) c4 (.inr (fun z h => by cases h)))
  have o2 := o.over (b := W.heap.size) (x := .slice va (remT t k).length vc) (by omega)
  have r3 := r2.over o2 (b := W.heap.size + 1) (x := .int .i64 0) (by omega) h5 (.inl rfl)
  have o3 := o2.over (b := W.heap.size + 1) (x := .int .i64 0) (by omega)
  have k3 := (k1.setCell (ad := ⟨W.heap.size, 0, none⟩) (Nat.le_refl _) (.slice va (remT t k).length vc)).setCell (ad := ⟨W.heap.size + 1, 0, none⟩) (Nat.le_succ _) (.int .i64 0)
  generalize (w1.setCell ⟨W.heap.size, 0, none⟩ (.slice va (remT t k).length vc)).setCell ⟨W.heap.size + 1, 0, none⟩ (.int .i64 0) = w2 at g4 g5 r3 o3 k3 ⊢
  refine leaves_cons (f := 81) (args := #[.pointer (some ⟨W.heap.size, 0, none⟩), .pointer (some ⟨W.heap.size + 1, 0, none⟩)]) (by simp) (by simp [go_sem]) ?_
  refine (idle_any ⟨W.heap.size, 0, none⟩ ⟨W.heap.size + 1, 0, none⟩ _).mono ?_
  rintro e u' w'' ⟨rfl, rfl, rfl⟩
  refine ⟨.tuple #[.slice va (remT t k).length vc, .int .i64 0], ?_, _, by rw [he], r3, o3.mono (by omega), k3⟩
  simp [results, Tryd.results60, go_sem, g4, g5]
set_option maxHeartbeats 4000000 in
set_option maxRecDepth 100000 in
theorem done3_any {W : World} {tv : Value} {t : List TN} {k : Int} {b : Nat} (ht : RdTs W tv t) (hf : FitT t) (hT : Tabs W) (hk : I64 k)
    (hb : Blk W b 3 [.int .i64 k]) {x : Int} (he : remE t k = x) :
    Calls Tryd.prog 60 #[.func (.func 31) #[] #[.pointer (some ⟨b, 0, none⟩)], tv] W (fun e w' => ∃ v, e = .returned (.tuple #[v, .int .i64 x]) ∧ Kept W w') := by
  have HB := Lib.hid (fun W' (q : Kept W W') => back2_any (ht.kept q) hf (hT.kept q) hk (hb.kept q))
  unfold PTree at HB
  have hmf : ∀ (fn : Fn) (first cap : Array Value) (w : World), (Instr.makeFunc fn first cap).run Tryd.prog w = .ok (.func fn first cap) w := fun _ _ _ _ => rfl
  go_enter_defers Tryd.func60, Tryd.ntmps60
  have kA : Kept W ((W.alloc (.cells #[.slice none 0 0] 22)).alloc (.cells #[.int .i64 0] 25)) := ((Kept.refl W).alloc _).alloc _
  have b4 : Blk ((W.alloc (.cells #[.slice none 0 0] 22)).alloc (.cells #[.int .i64 0] 25)) W.heap.size 22 [.slice none 0 0] := (Blk.new W [.slice none 0 0] 22).kept ((Kept.refl _).alloc _)
  have b5 : Blk ((W.alloc (.cells #[.slice none 0 0] 22)).alloc (.cells #[.int .i64 0] 25)) (W.heap.size + 1) 25 [.int .i64 0] := by
    have := Blk.new (W.alloc (.cells #[.slice none 0 0] 22)) [.int .i64 0] 25
    rwa [alloc_size] at this
  have hsz : ((W.alloc (.cells #[.slice none 0 0] 22)).alloc (.cells #[.int .i64 0] 25)).heap.size = W.heap.size + 2 := by rw [alloc_size, alloc_size]
  go_wp2_with fail
  (with_reducible refine (HB.out _ kA).mono ?_); rintro e w1 ⟨v, rfl, r, o, q⟩
  rw [he]
  obtain ⟨va, vc, rfl, _, _, _⟩ := r.len
  have b4 := b4.kept q
  have b5 := b5.kept q
  rw [hsz] at o
  have k1 := kA.trans q
  have c4 := b4.cell 0
  have c5 := b5.cell 0
  have f4 := b4.frozen 0
  have f5 := b5.frozen 0
  simp only [List.getElem?_cons_zero] at c4 c5
  go_wp2
  have g4 : ((w1.setCell ⟨W.heap.size, 0, none⟩ (.slice va (remT t k).length vc)).setCell ⟨W.heap.size + 1, 0, none⟩ (.int .i64 x)).cell? ⟨W.heap.size, 0, none⟩ = some (.slice va (remT t k).length vc) := by
    rw [World.cell?_setCell_other _ _ _ _ (by simp)]
    exact World.cell?_setCell_same' _ _ _ (by rw [c4]; rfl)
  have h5 : (w1.setCell ⟨W.heap.size, 0, none⟩ (.slice va (remT t k).length vc)).cell? ⟨W.heap.size + 1, 0, none⟩ = some (.int .i64 0) := by
    rw [World.cell?_setCell_other _ _ _ _ (by simp)]
    exact c5
  have g5 : ((w1.setCell ⟨W.heap.size, 0, none⟩ (.slice va (remT t k).length vc)).setCell ⟨W.heap.size + 1, 0, none⟩ (.int .i64 x)).cell? ⟨W.heap.size + 1, 0, none⟩ = some (.int .i64 x) :=
    World.cell?_setCell_same' _ _ _ (by rw [h5]; rfl)
  have k3 := (k1.setCell (ad := ⟨W.heap.size, 0, none⟩) (Nat.le_refl _) (.slice va (remT t k).length vc)).setCell (ad := ⟨W.heap.size + 1, 0, none⟩) (Nat.le_succ _) (.int .i64 x)
  generalize (w1.setCell ⟨W.heap.size, 0, none⟩ (.slice va (remT t k).length vc)).setCell ⟨W.heap.size + 1, 0, none⟩ (.int .i64 x) = w2 at g4 g5 k3 ⊢
  refine leaves_cons (f := 81) (args := #[.pointer (some ⟨W.heap.size, 0, none⟩), .pointer (some ⟨W.heap.size + 1, 0, none⟩)]) (by simp) (by simp [go_sem]) ?_
  refine (idle_any ⟨W.heap.size, 0, none⟩ ⟨W.heap.size + 1, 0, none⟩ _).mono ?_
  rintro e u' w'' ⟨rfl, rfl, rfl⟩
  refine ⟨.tuple #[.slice va (remT t k).length vc, .int .i64 x], ?_, _, rfl, k3⟩
  simp [results, Tryd.results60, go_sem, g4, g5]
end Go.Proofs.YtlmpejfkpidbeaaDoor
end

section
/- Walks of the program's ratchet: Apply with the two changes of RatchetBack (written by gen_apply.py). -/
set_option linter.unusedSimpArgs false
set_option linter.unusedVariables false
namespace Go.Proofs.YtlmpejfkpidbeaaDoor
open Go.RowKit
open Rt

theorem pcheck0 {w : World} {tv : Value} {t : List TN} (ht : RdTs w tv t) (hf : FitT t) (hT : Tabs w) (hc : chkB t = true) :
    Calls Tryd.prog 10 #[tv] w fun e w' => e = .returned (.int .i64 0) ∧ Kept w w' := by
  have h := pcheck_any ht hf.ok hf.len hf.un hT
  rw [hc] at h
  exact h
theorem powns_rd {w : World} {tv : Value} {t : List TN} (ht : RdTs w tv t) (hf : FitT t) (hc : chkB t = true) :
    Calls Tryd.prog 45 #[tv] w fun e w' => ∃ v, e = .returned v ∧ RdTs w' v t ∧ Kept w w' :=
  (powns_any ht (fitM hc) hf.un).mono fun e w' ⟨v, lvs, he, ho, hk⟩ => ⟨v, he, ho.rd, hk⟩
set_option maxHeartbeats 4000000 in
set_option maxRecDepth 100000 in
theorem apply_ok {W : World} {tv lv : Value} {t : List TN} {l : TN} {k : Int} {B b1 b2 T : Nat} (ht : RdTs W tv t) (hf : FitT t) (hT : Tabs W) (hc : chkB t = true) (hlok : TnOk l)
    (hb1 : Blk W b1 32 [.int .i64 l.kd, .int .i64 l.id, .int .i64 l.enc, .int .i64 l.sig, .int .i64 l.hash, lv]) (hu : RdI W lv l.un) (hlu : l.un.length ≤ 1000) (hk : I64 k) (hb2 : Blk W b2 3 [.int .i64 k])
    (he1 : addE t l = 0) (he2 : remE (addT t l) k = 0) (hB : Blk W B T [.func (.func 30) #[] #[.pointer (some ⟨b1, 0, none⟩)], .func (.func 31) #[] #[.pointer (some ⟨b2, 0, none⟩)]]) :
    Calls Tryd.prog 32 #[tv, .slice (some ⟨B, 0, none⟩) 2 2] W fun e w' => ∃ v, e = .returned (.tuple #[v, .int .i64 0]) ∧ RdTs w' v (remT (addT t l) k) ∧ Kept W w' := by
  have hf1 := addT_fit hf.ok hlok (l := l)
  have hf2 := remT_fit hf1.ok (i := k)
  have hc1 := (add_says he1).chk
  have hc2 := (rem_says he2).chk
  have HC := Lib.hid (fun W' (q : Kept W W') => pcheck0 (ht.kept q) hf (hT.kept q) hc)
  have HO := Lib.hid (fun W' (q : Kept W W') => powns_rd (ht.kept q) hf hc)
  have HO1 := Lib.hid (fun W' v (q : RdTs W' v (addT t l)) => powns_rd q hf1 hc1)
  have HO2 := Lib.hid (fun W' v (q : RdTs W' v (remT (addT t l) k)) => powns_rd q hf2 hc2)
  have HC2 := Lib.hid (fun W' v (q : RdTs W' v (remT (addT t l) k)) (k : Kept W W') => pcheck0 q hf2 (hT.kept k) hc2)
  have HD1 := Lib.hid (fun W' v (r : RdTs W' v t) (q : Kept W W') => done1_any r hf (hT.kept q) (hb1.kept q) (hu.kept q) hlu he1)
  have HD2 := Lib.hid (fun W' v (r : RdTs W' v (addT t l)) (q : Kept W W') => done2_any r hf1 (hT.kept q) hk (hb2.kept q) he2)
  unfold PTree at HD1 HD2
  rw [he1] at HD1
  rw [he2] at HD2
  clear he1 he2 hc hc1 hc2 hf hf1 hf2 hlok hT
  go_enter Tryd.func32, Tryd.ntmps32
  go_wp2_with fail
  (with_reducible refine (HC.out _ (Kept.refl _)).mono ?_); rintro e w1 ⟨rfl, q1⟩
  go_wp2_with fail
  (with_reducible refine (HO.out _ q1).mono ?_); rintro e w2 ⟨v, rfl, r2, q2⟩
  have k2 := q1.trans q2
  go_wp2
  go_loopw [6, 18] (fun u c wr => ∃ i : Nat, c = .int .i64 i ∧ ((i = 0 ∧ RdTs wr u t) ∨ (i = 1 ∧ RdTs wr u (addT t l)) ∨ (i = 2 ∧ RdTs wr u (remT (addT t l) k))) ∧ Kept W wr) (fun _ c _ => 2 - (intOf c).toNat)
  case atStart => exact ⟨0, rfl, .inl ⟨rfl, r2⟩, k2⟩
  case round =>
    obtain ⟨i, rfl, hr, hkw⟩ := hrel
    have bB := hB.kept hkw
    have c0 := bB.cell 0
    have c1 := bB.cell 1
    simp only [List.getElem?_cons_zero, List.getElem?_cons_succ] at c0 c1
    rcases hr with ⟨rfl, hr⟩ | ⟨rfl, hr⟩ | ⟨rfl, hr⟩
    · go_wp2_with fail
      (with_reducible refine (HD1.out _ _ hr hkw).mono ?_); rintro e w5 ⟨v5, rfl, r5, -, q5⟩
      go_wp2_with fail
      (with_reducible refine (HO1.out _ _ r5).mono ?_); rintro e w6 ⟨v6, rfl, r6, q6⟩
      have k6 := (hkw.trans q5).trans q6
      go_wp2
      go_roundw
      case rel => exact ⟨1, rfl, .inr (.inl ⟨rfl, r6⟩), k6⟩
      case measure => simp [intOf]
    · go_wp2_with fail
      (with_reducible refine (HD2.out _ _ hr hkw).mono ?_); rintro e w5 ⟨v5, rfl, r5, -, q5⟩
      go_wp2_with fail
      (with_reducible refine (HO2.out _ _ r5).mono ?_); rintro e w6 ⟨v6, rfl, r6, q6⟩
      have k6 := (hkw.trans q5).trans q6
      go_wp2
      go_roundw
      case rel => exact ⟨2, rfl, .inr (.inr ⟨rfl, r6⟩), k6⟩
      case measure => simp [intOf]
    · go_wp2_with fail
      (with_reducible refine (HC2.out _ _ hr hkw).mono ?_); rintro e w5 ⟨rfl, q5⟩
      have k6 := hkw.trans q5
      go_wp2
      go_ret2
      exact ⟨_, rfl, hr.kept q5, k6⟩
set_option maxHeartbeats 4000000 in
set_option maxRecDepth 100000 in
theorem apply_no {W : World} {tv : Value} {t : List TN} {k x : Int} {B b1 b2 T : Nat} (ht : RdTs W tv t) (hf : FitT t) (hT : Tabs W) (hc : chkB t = true) (hk : I64 k) (hb2 : Blk W b2 3 [.int .i64 k])
    (he : remE t k = x) (hx : x ≠ 0) (hB : Blk W B T [.func (.func 31) #[] #[.pointer (some ⟨b2, 0, none⟩)], .func (.func 30) #[] #[.pointer (some ⟨b1, 0, none⟩)]]) :
    Calls Tryd.prog 32 #[tv, .slice (some ⟨B, 0, none⟩) 2 2] W fun e w' => e = .returned (.tuple #[.slice none 0 0, .int .i64 x]) ∧ Kept W w' := by
  have HC := Lib.hid (fun W' (q : Kept W W') => pcheck0 (ht.kept q) hf (hT.kept q) hc)
  have HO := Lib.hid (fun W' (q : Kept W W') => powns_rd (ht.kept q) hf hc)
  have HD3 := Lib.hid (fun W' v (r : RdTs W' v t) (q : Kept W W') => done3_any r hf (hT.kept q) hk (hb2.kept q) he)
  have hx0 : (x == 0) = false := by rw [beq_eq_false_iff_ne]; exact hx
  clear he hc hf hT
  go_enter Tryd.func32, Tryd.ntmps32
  go_wp2_with fail
  (with_reducible refine (HC.out _ (Kept.refl _)).mono ?_); rintro e w1 ⟨rfl, q1⟩
  go_wp2_with fail
  (with_reducible refine (HO.out _ q1).mono ?_); rintro e w2 ⟨v, rfl, r2, q2⟩
  have k2 := q1.trans q2
  go_wp2
  go_loopw [6, 18] (fun u c wr => c = .int .i64 (0 : Nat) ∧ RdTs wr u t ∧ Kept W wr) (fun _ c _ => 2 - (intOf c).toNat)
  case atStart => exact ⟨rfl, r2, k2⟩
  case round =>
    obtain ⟨rfl, hr, hkw⟩ := hrel
    have bB := hB.kept hkw
    have c0 := bB.cell 0
    have c1 := bB.cell 1
    simp only [List.getElem?_cons_zero, List.getElem?_cons_succ] at c0 c1
    go_wp2_with fail
    (with_reducible refine (HD3.out _ _ hr hkw).mono ?_); rintro e w5 ⟨v5, rfl, q5⟩
    have k5 := hkw.trans q5
    go_wp2
    go_ret2
    exact ⟨rfl, k5⟩
end Go.Proofs.YtlmpejfkpidbeaaDoor
end

section
/- Plain facts for the statement RatchetBack (written by gen_back.py). -/
set_option linter.unusedSimpArgs false
set_option linter.unusedVariables false
namespace Go.Proofs.YtlmpejfkpidbeaaDoor
open Go.RowKit
open Rt

theorem lk_in {t : List TN} {j : Nat} (h : lk t j = true) : 2 * j < t.length := by
  rcases Nat.lt_or_ge (2 * j) t.length with c | c
  · exact c
  · exfalso
    have e : nd t (2 * j) = tn0 := nd_out c
    unfold lk at h
    rw [e] at h
    revert h
    decide
theorem lk_same {t u : List TN} {j : Nat} (h : nd u (2 * j) = nd t (2 * j)) : lk u j = lk t j := by unfold lk; rw [h]
theorem two_in {xs : List Int} {i j : Int} (hi : i ∈ xs) (hj : j ∈ xs) (hne : i ≠ j) : 1 < xs.length := by
  match xs, hi, hj with
  | [], hi, _ => cases hi
  | [x], hi, hj => exact absurd ((List.mem_singleton.1 hi).trans (List.mem_singleton.1 hj).symm) hne
  | x :: y :: r, _, _ => simp
theorem fulls_le : ∀ n ∈ Mth.fulls, ∀ m ∈ Mth.fulls, n / 2 < m → n ≤ m := by decide +kernel
theorem may_le {t u : List TN} {n m : Nat} (ht : Rt.May t n) (hu : Rt.May u m) (h : ∀ j, lk t j = true → lk u j = true) : n ≤ m := by
  rcases ht.right with e | ⟨i, h1, h2, h3⟩
  · have := (fulls_bd hu.mn.hn).1
    omega
  · have h4 := lk_in (h i h3)
    have h5 := hu.mn.len
    exact fulls_le n ht.mn.hn m hu.mn.hn (by omega)
structure BackSays (t : List TN) (l : TN) : Prop where
  rem : remE (addT t l) (addI t l) = 0
  no : remE t (addI t l) = 4
  others : ∀ j : Nat, (j : Int) ≠ addI t l → nd t (2 * j) = nd (remT (addT t l) (addI t l)) (2 * j)
  len : (remT (addT t l) (addI t l)).length = t.length
  i64 : I64 (addI t l)
theorem back_says {t : List TN} {l : TN} (h : addE t l = 0) (hl : leafB l = true) : BackSays t l := by
  have hs := add_says h
  obtain ⟨i, n, m, hi, ha⟩ := add_ok h
  have hma : (i : Int) ∈ memL (addT t l) := by
    rw [memL_may ha.may]
    refine mem_memK.2 ⟨i, ha.lt, rfl, ?_⟩
    unfold lk
    rw [ha.leaf]
    exact decide_eq_true (leafB_iff.1 hl).1
  obtain ⟨j, hj, hlj⟩ := ha.was.some'
  have hne : j ≠ i := fun e => by rw [e, ha.free] at hlj; cases hlj
  have hlj2 : lk (addT t l) j = true := (lk_same (ha.others j hne)).trans hlj
  have hmj : (j : Int) ∈ memL (addT t l) := by
    rw [memL_may ha.may]
    have := lk_in hlj2
    have := ha.may.mn.len
    exact mem_memK.2 ⟨j, by omega, rfl, hlj2⟩
  have h2 : 1 < (memL (addT t l)).length := two_in hma hmj (fun e => hne (by omega))
  have hr : remE (addT t l) (i : Int) = 0 := by
    rw [(rem_in ha.may).1 hma, decide_eq_true h2]; rfl
  have hrs := rem_says hr
  obtain ⟨i', n', m', hi', hrr⟩ := rem_ok hr
  obtain rfl : i = i' := by omega
  have hfr : addI t l ∉ memL t := hs.free
  have hsame : ∀ q, lk (remT (addT t l) (i : Int)) q = lk t q := fun q => by
    by_cases c : q = i
    · rw [c, hrr.gone, ha.free]
    · exact (lk_same (hrr.others q c)).trans (lk_same (ha.others q c))
  have e1 := may_le ha.was hrr.may (fun q hq => (hsame q).trans hq)
  have e2 := may_le hrr.may ha.was (fun q hq => (hsame q).symm.trans hq)
  have e3 := ha.was.mn.len
  have e4 := hrr.may.mn.len
  have hb := fulls_bd ha.may.mn.hn
  have hlt := ha.lt
  refine ⟨by rw [hi]; exact hr, (rem_in ha.was).2 hfr, fun q hq => (hs.others q hq).trans ?_, by rw [hi]; omega, by rw [hi]; exact ⟨by omega, by omega⟩⟩
  rw [hi] at hq ⊢
  exact hrs.others q hq
theorem addE_two {t : List TN} {l : TN} (hc : chkB t = true) (hl : leafB l = true) (h : ¬ addE t l = 0) : addE t l = 2 := by
  unfold addE at h ⊢
  rw [hc, hl] at h ⊢
  cases e : (Nat.beq (fr t (lvs t.length)) (lvs t.length) && Nat.beq (lvs t.length) 256) with
  | true => rfl
  | false => rw [e] at h; exact absurd rfl h
end Go.Proofs.YtlmpejfkpidbeaaDoor
end

section
/- The walk of the statement RatchetBack (written by gen_back.py). -/
set_option linter.unusedSimpArgs false
set_option linter.unusedVariables false
namespace Go.Proofs.YtlmpejfkpidbeaaDoor
open Go.RowKit
open Rt

set_option maxHeartbeats 32000000 in
set_option maxRecDepth 100000 in
theorem backw_ok {tv lv : Value} {t : List TN} {l : TN} {w : World} (ht : RdTs w tv t) (hok : ∀ d ∈ t, TnOk d) (hl : RdTn w lv l) (hlok : TnOk l) (hT : Tabs w) (hc : chkB t = true) (hz : l.un.length = 0) (hAe : addE t { l with kd := 1 } = 0) :
    Calls Tryd.prog 7 #[tv, lv] w fun e w' => e = .returned (.bool true) ∧ Kept w w' := by
  have HTb := Lib.hid hT
  have hmf : ∀ (fn : Fn) (first cap : Array Value) (w : World), (Instr.makeFunc fn first cap).run Tryd.prog w = .ok (.func fn first cap) w := fun _ _ _ _ => rfl
  have hlf := mk_leaf hz
  obtain ⟨hrem, hno, hoth, hlen, hi64⟩ := back_says hAe hlf
  have hAok := (addT_fit hok (mk_ok hlok)).ok
  have hAfit := addT_fit hok (mk_ok hlok)
  have hAc := (add_says hAe).chk
  have hBfit := remT_fit (i := addI t { l with kd := 1 }) hAok
  have hBc := (rem_says hrem).chk
  have hlu : ({ l with kd := 1 } : TN).un.length ≤ 1000 := by show l.un.length ≤ 1000; rw [hz]; omega
  generalize hki : addI t { l with kd := 1 } = ki at hrem hno hoth hlen hi64 hBfit hBc
  obtain ⟨yv, rfl, hrl⟩ := hl
  obtain ⟨ua, uc, rfl, _, _, _⟩ := hrl.len
  rw [hz] at hrl
  have hun0 : ({ l with kd := 1 } : TN).un.length = 0 := hz
  have k0 : Kept w (w.alloc (.cells #[.int .i64 l.kd, .int .i64 l.id, .int .i64 l.enc, .int .i64 l.sig, .int .i64 l.hash, .slice ua 0 uc] 32)) := (Kept.refl w).alloc _
  have bb0 : Blk (w.alloc (.cells #[.int .i64 l.kd, .int .i64 l.id, .int .i64 l.enc, .int .i64 l.sig, .int .i64 l.hash, .slice ua 0 uc] 32)) w.heap.size 32 [.int .i64 l.kd, .int .i64 l.id, .int .i64 l.enc, .int .i64 l.sig, .int .i64 l.hash, .slice ua 0 uc] := Blk.new _ _ _
  have hlf := mk_leaf hz
  have HL := Lib.hid (fun W (k : Kept w W) => live07_any W (hT.kept k))
  have HFw := Lib.hid (fun W (k : Kept w W) => few1_any (ht.kept k))
  have HC0 := Lib.hid (fun W (k : Kept w W) => rcheck0 (ht.kept k) hok hc)
  have HA := Lib.hid (fun (h : FewT t) W (k : Kept w W) => padd_any (l := { l with kd := 1 }) (lv := (.agg #[.int .i64 1, .int .i64 l.id, .int .i64 l.enc, .int .i64 l.sig, .int .i64 l.hash, .slice ua 0 uc])) (ht.kept k) hok (few_fit h hok).len (few_fit h hok).un (hT.kept k) ⟨_, rfl, hrl.kept k⟩ (by show l.un.length ≤ 1000; rw [hz]; omega))
  have HT := Lib.hid ht
  obtain ⟨ta, tc, htv, _, t9, _⟩ := ht.len
  subst htv
  unfold PAdd at HA
  go_enter Tryd.func7, Tryd.ntmps7
  go_wp2_with fail
  (with_reducible refine (HL.out _ k0).mono ?_); rintro e w1 ⟨rfl, q1⟩
  have k1 := k0.trans q1
  have bb := bb0.kept q1
  go_wp2_with fail
  (with_reducible refine (HFw.out _ k1).mono ?_); rintro e w2 ⟨r, rfl, hr, q2⟩
  have q2' := ((Kept.refl w1).alloc (.cells #[.slice ta t.length tc] 22)).trans q2
  have k2 := k1.trans q2'
  have bb := bb.kept q2'
  have c0 := bb.cell 0
  have c1 := bb.cell 1
  have c2 := bb.cell 2
  have c3 := bb.cell 3
  have c4 := bb.cell 4
  have c5 := bb.cell 5
  simp only [List.getElem?_cons_zero, List.getElem?_cons_succ] at c0 c1 c2 c3 c4 c5
  cases r with
  | false =>
    clear hr
    go_wp2
    go_ret
    exact ⟨rfl, k2⟩
  | true =>
    have hfw := hr rfl
    clear hr
    go_wp2_with fail
    (with_reducible refine (HC0.out _ k2).mono ?_); rintro e w3 ⟨rfl, q3⟩
    have k3 := k2.trans q3
    have bb := bb.kept q3
    have c0 := bb.cell 0
    have c1 := bb.cell 1
    have c2 := bb.cell 2
    have c3 := bb.cell 3
    have c4 := bb.cell 4
    have c5 := bb.cell 5
    simp only [List.getElem?_cons_zero, List.getElem?_cons_succ] at c0 c1 c2 c3 c4 c5
    have f0 := bb.frozen 0
    have HB3 := Lib.hid (bb.set 0 (.int .i64 1))
    have HK3 := Lib.hid (k3.setCell (ad := ⟨w.heap.size, 0, none⟩) (Nat.le_refl _) (.int .i64 1))
    clear bb
    go_upto_region 5 with fail
    clear c0 c1 c2 c3 c4 c5 f0
    have bb := HB3.out
    have k4 := HK3.out
    simp only [List.set_cons_zero] at bb
    generalize w3.setCell ⟨w.heap.size, 0, none⟩ (.int .i64 1) = w4 at bb k4 ⊢
    have c0 := bb.cell 0
    have c1 := bb.cell 1
    have c2 := bb.cell 2
    have c3 := bb.cell 3
    have c4 := bb.cell 4
    have c5 := bb.cell 5
    simp only [List.getElem?_cons_zero, List.getElem?_cons_succ] at c0 c1 c2 c3 c4 c5
    have HA2 := Lib.hid (HA.out hfw _ k4)
    rw [hAe, hki] at HA2
    go_wp2_with fail
    (with_reducible refine HA2.out.mono ?_); rintro e w5 ⟨vA, rfl, rA, _, q5⟩
    have k5 := k4.trans q5
    have bb := bb.kept q5
    obtain ⟨aA, cA, rfl, _, _, _⟩ := rA.len
    have HR2 := Lib.hid (fun W (q : Kept w5 W) => premove_any (rA.kept q) hAok hAfit.len hAfit.un ((hT.kept k5).kept q) ki hi64)
    unfold PTree at HR2
    rw [hrem] at HR2
    have qA := (Kept.refl w5).alloc (.cells #[.int .i64 ki] 3)
    have bk := Blk.new w5 [.int .i64 ki] 3
    go_wp2_with fail
    (with_reducible refine (HR2.out _ qA).mono ?_); rintro e w6 ⟨vB, rfl, rB, _, q6⟩
    have bk := bk.kept q6
    have qA := qA.trans q6
    have k6 := k5.trans qA
    have bb := bb.kept qA
    obtain ⟨aB, cB, rfl, _, _, _⟩ := rB.len
    rw [hlen] at rB
    have HAp := Lib.hid (fun (T : Nat) => apply_ok (l := { l with kd := 1 }) (T := T) (W := w6.alloc (.cells #[.func (.func 30) #[] #[.pointer (some ⟨w.heap.size, 0, none⟩)], .func (.func 31) #[] #[.pointer (some ⟨w5.heap.size, 0, none⟩)]] T)) (HT.out.kept (k6.alloc _)) (few_fit hfw hok) (HTb.out.kept (k6.alloc _)) hc (mk_ok hlok) (bb.kept ((Kept.refl w6).alloc _)) (hrl.kept (k6.alloc _)) hlu hi64 (bk.kept ((Kept.refl w6).alloc _)) hAe hrem (show Blk (w6.alloc (.cells #[.func (.func 30) #[] #[.pointer (some ⟨w.heap.size, 0, none⟩)], .func (.func 31) #[] #[.pointer (some ⟨w5.heap.size, 0, none⟩)]] T)) w6.heap.size T [.func (.func 30) #[] #[.pointer (some ⟨w.heap.size, 0, none⟩)], .func (.func 31) #[] #[.pointer (some ⟨w5.heap.size, 0, none⟩)]] from Blk.new w6 [.func (.func 30) #[] #[.pointer (some ⟨w.heap.size, 0, none⟩)], .func (.func 31) #[] #[.pointer (some ⟨w5.heap.size, 0, none⟩)]] T))
    go_wp2_with fail
    (with_reducible refine (HAp.out _).mono ?_); rintro e w7 ⟨vC, rfl, rC, q7⟩
    have q7' := ((Kept.refl w6).alloc _).trans q7
    have k7 := k6.trans q7'
    have bb := bb.kept q7'
    have bk := bk.kept q7'
    have rB := rB.kept q7'
    obtain ⟨aC, cC, rfl, _, _, _⟩ := rC.len
    rw [hlen] at rC
    have HAn := Lib.hid (fun (T : Nat) => apply_no (b1 := w.heap.size) (T := T) (W := w7.alloc (.cells #[.func (.func 31) #[] #[.pointer (some ⟨w5.heap.size, 0, none⟩)], .func (.func 30) #[] #[.pointer (some ⟨w.heap.size, 0, none⟩)]] T)) (HT.out.kept (k7.alloc _)) (few_fit hfw hok) (HTb.out.kept (k7.alloc _)) hc hi64 (bk.kept ((Kept.refl w7).alloc _)) hno (by decide) (show Blk (w7.alloc (.cells #[.func (.func 31) #[] #[.pointer (some ⟨w5.heap.size, 0, none⟩)], .func (.func 30) #[] #[.pointer (some ⟨w.heap.size, 0, none⟩)]] T)) w7.heap.size T [.func (.func 31) #[] #[.pointer (some ⟨w5.heap.size, 0, none⟩)], .func (.func 30) #[] #[.pointer (some ⟨w.heap.size, 0, none⟩)]] from Blk.new w7 [.func (.func 31) #[] #[.pointer (some ⟨w5.heap.size, 0, none⟩)], .func (.func 30) #[] #[.pointer (some ⟨w.heap.size, 0, none⟩)]] T))
    go_wp2_with fail
    (with_reducible refine (HAn.out _).mono ?_); rintro e w8 ⟨rfl, q8⟩
    have q8' := ((Kept.refl w7).alloc _).trans q8
    have k8 := k7.trans q8'
    have bk := bk.kept q8'
    have rB := rB.kept q8'
    have rC := rC.kept q8'
    have d0 := bk.cell 0
    simp only [List.getElem?_cons_zero] at d0
    have HOt := Lib.hid (others_any (x := ki) (HT.out.kept k8) rB (by have := hfw.1; omega) (fitM hBc) hi64 hoth)
    have HSm := Lib.hid (fun W (q : Kept w8 W) => rsameT_any (rB.kept q) (rC.kept q))
    rw [same_self] at HSm
    go_wp2_with fail
    (with_reducible refine HOt.out.mono ?_); rintro e w9 ⟨rfl, q9⟩
    go_wp2_with fail
    (with_reducible refine (HSm.out _ q9).mono ?_); rintro e w10 ⟨rfl, q10⟩
    have k10 := (k8.trans q9).trans q10
    go_wp2
    go_ret
    exact ⟨rfl, k10⟩
set_option maxHeartbeats 32000000 in
set_option maxRecDepth 100000 in
theorem backw_no {tv lv : Value} {t : List TN} {l : TN} {w : World} (ht : RdTs w tv t) (hok : ∀ d ∈ t, TnOk d) (hl : RdTn w lv l) (hlok : TnOk l) (hT : Tabs w) (hc : chkB t = true) (hz : l.un.length = 0) (hAe : ¬ addE t { l with kd := 1 } = 0) :
    Calls Tryd.prog 7 #[tv, lv] w fun e w' => e = .returned (.bool true) ∧ Kept w w' := by
  have hlf := mk_leaf hz
  have hA2 := addE_two hc hlf hAe
  obtain ⟨yv, rfl, hrl⟩ := hl
  obtain ⟨ua, uc, rfl, _, _, _⟩ := hrl.len
  rw [hz] at hrl
  have hun0 : ({ l with kd := 1 } : TN).un.length = 0 := hz
  have k0 : Kept w (w.alloc (.cells #[.int .i64 l.kd, .int .i64 l.id, .int .i64 l.enc, .int .i64 l.sig, .int .i64 l.hash, .slice ua 0 uc] 32)) := (Kept.refl w).alloc _
  have bb0 : Blk (w.alloc (.cells #[.int .i64 l.kd, .int .i64 l.id, .int .i64 l.enc, .int .i64 l.sig, .int .i64 l.hash, .slice ua 0 uc] 32)) w.heap.size 32 [.int .i64 l.kd, .int .i64 l.id, .int .i64 l.enc, .int .i64 l.sig, .int .i64 l.hash, .slice ua 0 uc] := Blk.new _ _ _
  have hlf := mk_leaf hz
  have HL := Lib.hid (fun W (k : Kept w W) => live07_any W (hT.kept k))
  have HFw := Lib.hid (fun W (k : Kept w W) => few1_any (ht.kept k))
  have HC0 := Lib.hid (fun W (k : Kept w W) => rcheck0 (ht.kept k) hok hc)
  have HA := Lib.hid (fun (h : FewT t) W (k : Kept w W) => padd_any (l := { l with kd := 1 }) (lv := (.agg #[.int .i64 1, .int .i64 l.id, .int .i64 l.enc, .int .i64 l.sig, .int .i64 l.hash, .slice ua 0 uc])) (ht.kept k) hok (few_fit h hok).len (few_fit h hok).un (hT.kept k) ⟨_, rfl, hrl.kept k⟩ (by show l.un.length ≤ 1000; rw [hz]; omega))
  have HT := Lib.hid ht
  obtain ⟨ta, tc, htv, _, t9, _⟩ := ht.len
  subst htv
  unfold PAdd at HA
  go_enter Tryd.func7, Tryd.ntmps7
  go_wp2_with fail
  (with_reducible refine (HL.out _ k0).mono ?_); rintro e w1 ⟨rfl, q1⟩
  have k1 := k0.trans q1
  have bb := bb0.kept q1
  go_wp2_with fail
  (with_reducible refine (HFw.out _ k1).mono ?_); rintro e w2 ⟨r, rfl, hr, q2⟩
  have q2' := ((Kept.refl w1).alloc (.cells #[.slice ta t.length tc] 22)).trans q2
  have k2 := k1.trans q2'
  have bb := bb.kept q2'
  have c0 := bb.cell 0
  have c1 := bb.cell 1
  have c2 := bb.cell 2
  have c3 := bb.cell 3
  have c4 := bb.cell 4
  have c5 := bb.cell 5
  simp only [List.getElem?_cons_zero, List.getElem?_cons_succ] at c0 c1 c2 c3 c4 c5
  cases r with
  | false =>
    clear hr
    go_wp2
    go_ret
    exact ⟨rfl, k2⟩
  | true =>
    have hfw := hr rfl
    clear hr
    go_wp2_with fail
    (with_reducible refine (HC0.out _ k2).mono ?_); rintro e w3 ⟨rfl, q3⟩
    have k3 := k2.trans q3
    have bb := bb.kept q3
    have c0 := bb.cell 0
    have c1 := bb.cell 1
    have c2 := bb.cell 2
    have c3 := bb.cell 3
    have c4 := bb.cell 4
    have c5 := bb.cell 5
    simp only [List.getElem?_cons_zero, List.getElem?_cons_succ] at c0 c1 c2 c3 c4 c5
    have f0 := bb.frozen 0
    have HB3 := Lib.hid (bb.set 0 (.int .i64 1))
    have HK3 := Lib.hid (k3.setCell (ad := ⟨w.heap.size, 0, none⟩) (Nat.le_refl _) (.int .i64 1))
    clear bb
    go_upto_region 5 with fail
    clear c0 c1 c2 c3 c4 c5 f0
    have bb := HB3.out
    have k4 := HK3.out
    simp only [List.set_cons_zero] at bb
    generalize w3.setCell ⟨w.heap.size, 0, none⟩ (.int .i64 1) = w4 at bb k4 ⊢
    have c0 := bb.cell 0
    have c1 := bb.cell 1
    have c2 := bb.cell 2
    have c3 := bb.cell 3
    have c4 := bb.cell 4
    have c5 := bb.cell 5
    simp only [List.getElem?_cons_zero, List.getElem?_cons_succ] at c0 c1 c2 c3 c4 c5
    have HA2 := Lib.hid (HA.out hfw _ k4)
    rw [hA2] at HA2
    go_wp2_with fail
    (with_reducible refine HA2.out.mono ?_); rintro e w5 ⟨vA, rfl, rA, _, q5⟩
    have k5 := k4.trans q5
    obtain ⟨aA, cA, rfl, _, _, _⟩ := rA.len
    go_wp2
    go_ret
    exact ⟨rfl, k5.alloc _⟩
set_option maxHeartbeats 32000000 in
set_option maxRecDepth 100000 in
theorem backw_long {tv lv : Value} {t : List TN} {l : TN} {w : World} (ht : RdTs w tv t) (hok : ∀ d ∈ t, TnOk d) (hl : RdTn w lv l) (hlok : TnOk l) (hT : Tabs w) (hz : ¬ l.un.length = 0) :
    Calls Tryd.prog 7 #[tv, lv] w fun e w' => e = .returned (.bool true) ∧ Kept w w' := by
  obtain ⟨yv, rfl, hrl⟩ := hl
  obtain ⟨ua, uc, rfl, _, _, _⟩ := hrl.len
  have hd0 : (0 : Int) < (l.un.length : Int) := by omega
  have hd1 : decide ((0 : Int) < (l.un.length : Int)) = true := decide_eq_true hd0
  have k0 : Kept w (w.alloc (.cells #[.int .i64 l.kd, .int .i64 l.id, .int .i64 l.enc, .int .i64 l.sig, .int .i64 l.hash, .slice ua l.un.length uc] 32)) := (Kept.refl w).alloc _
  have bb0 : Blk (w.alloc (.cells #[.int .i64 l.kd, .int .i64 l.id, .int .i64 l.enc, .int .i64 l.sig, .int .i64 l.hash, .slice ua l.un.length uc] 32)) w.heap.size 32 [.int .i64 l.kd, .int .i64 l.id, .int .i64 l.enc, .int .i64 l.sig, .int .i64 l.hash, .slice ua l.un.length uc] := Blk.new _ _ _
  have HL := Lib.hid (fun W (k : Kept w W) => live07_any W (hT.kept k))
  have HFw := Lib.hid (fun W (k : Kept w W) => few1_any (ht.kept k))
  have HC0 := Lib.hid (fun W (k : Kept w W) => rcheck_any (ht.kept k) hok)
  obtain ⟨ta, tc, htv, _, t9, _⟩ := ht.len
  subst htv
  go_enter Tryd.func7, Tryd.ntmps7
  go_wp2_with fail
  (with_reducible refine (HL.out _ k0).mono ?_); rintro e w1 ⟨rfl, q1⟩
  have k1 := k0.trans q1
  have bb := bb0.kept q1
  go_wp2_with fail
  (with_reducible refine (HFw.out _ k1).mono ?_); rintro e w2 ⟨r, rfl, hr, q2⟩
  have q2' := ((Kept.refl w1).alloc (.cells #[.slice ta t.length tc] 22)).trans q2
  have k2 := k1.trans q2'
  have bb := bb.kept q2'
  have c0 := bb.cell 0
  have c1 := bb.cell 1
  have c2 := bb.cell 2
  have c3 := bb.cell 3
  have c4 := bb.cell 4
  have c5 := bb.cell 5
  simp only [List.getElem?_cons_zero, List.getElem?_cons_succ] at c0 c1 c2 c3 c4 c5
  cases r with
  | false =>
    clear hr
    go_wp2
    go_ret
    exact ⟨rfl, k2⟩
  | true =>
    clear hr
    go_wp2
    go_ret
    exact ⟨rfl, k2⟩
set_option maxHeartbeats 32000000 in
set_option maxRecDepth 100000 in
theorem backw_bad {tv lv : Value} {t : List TN} {l : TN} {w : World} (ht : RdTs w tv t) (hok : ∀ d ∈ t, TnOk d) (hl : RdTn w lv l) (hlok : TnOk l) (hT : Tabs w) (hz : l.un.length = 0) (hc : chkB t = false) :
    Calls Tryd.prog 7 #[tv, lv] w fun e w' => e = .returned (.bool true) ∧ Kept w w' := by
  obtain ⟨yv, rfl, hrl⟩ := hl
  obtain ⟨ua, uc, rfl, _, _, _⟩ := hrl.len
  rw [hz] at hrl
  have k0 : Kept w (w.alloc (.cells #[.int .i64 l.kd, .int .i64 l.id, .int .i64 l.enc, .int .i64 l.sig, .int .i64 l.hash, .slice ua 0 uc] 32)) := (Kept.refl w).alloc _
  have bb0 : Blk (w.alloc (.cells #[.int .i64 l.kd, .int .i64 l.id, .int .i64 l.enc, .int .i64 l.sig, .int .i64 l.hash, .slice ua 0 uc] 32)) w.heap.size 32 [.int .i64 l.kd, .int .i64 l.id, .int .i64 l.enc, .int .i64 l.sig, .int .i64 l.hash, .slice ua 0 uc] := Blk.new _ _ _
  have HL := Lib.hid (fun W (k : Kept w W) => live07_any W (hT.kept k))
  have HFw := Lib.hid (fun W (k : Kept w W) => few1_any (ht.kept k))
  have HC0 := Lib.hid (fun W (k : Kept w W) => rcheck1 (ht.kept k) hok hc)
  obtain ⟨ta, tc, htv, _, t9, _⟩ := ht.len
  subst htv
  go_enter Tryd.func7, Tryd.ntmps7
  go_wp2_with fail
  (with_reducible refine (HL.out _ k0).mono ?_); rintro e w1 ⟨rfl, q1⟩
  have k1 := k0.trans q1
  have bb := bb0.kept q1
  go_wp2_with fail
  (with_reducible refine (HFw.out _ k1).mono ?_); rintro e w2 ⟨r, rfl, hr, q2⟩
  have q2' := ((Kept.refl w1).alloc (.cells #[.slice ta t.length tc] 22)).trans q2
  have k2 := k1.trans q2'
  have bb := bb.kept q2'
  have c0 := bb.cell 0
  have c1 := bb.cell 1
  have c2 := bb.cell 2
  have c3 := bb.cell 3
  have c4 := bb.cell 4
  have c5 := bb.cell 5
  simp only [List.getElem?_cons_zero, List.getElem?_cons_succ] at c0 c1 c2 c3 c4 c5
  cases r with
  | false =>
    clear hr
    go_wp2
    go_ret
    exact ⟨rfl, k2⟩
  | true =>
    clear hr
    go_wp2_with fail
    (with_reducible refine (HC0.out _ k2).mono ?_); rintro e w3 ⟨rfl, q3⟩
    have k3 := k2.trans q3
    go_wp2
    go_ret
    exact ⟨rfl, k3⟩
theorem back_any {tv lv : Value} {t : List TN} {l : TN} {w : World} (ht : RdTs w tv t) (hok : ∀ d ∈ t, TnOk d) (hl : RdTn w lv l) (hlok : TnOk l) (hT : Tabs w) :
    Calls Tryd.prog 7 #[tv, lv] w fun e w' => e = .returned (.bool true) ∧ Kept w w' := by
  by_cases hz : l.un.length = 0
  · cases hc : chkB t with
    | false => exact backw_bad ht hok hl hlok hT hz hc
    | true =>
      by_cases hAe : addE t { l with kd := 1 } = 0
      · exact backw_ok ht hok hl hlok hT hc hz hAe
      · exact backw_no ht hok hl hlok hT hc hz hAe
  · exact backw_long ht hok hl hlok hT hz
end Go.Proofs.YtlmpejfkpidbeaaDoor
end
