/- Texts of one proof, put together: TsHn, TsHo, TsIa. -/
import Derived.Test.YtdjfdobcjakmhaaDoorMg07
import Derived.Test.YtdjfdobcjakmhaaDoorMg13
import Derived.Test.YtdjfdobcjakmhaaDoorMg08
import Derived.Test.YtdjfdobcjakmhaaDoorMg02
section
/- The program's transcript: only, said. -/
set_option linter.unusedSimpArgs false
set_option linter.unusedVariables false
namespace Go.Proofs.YtdjfdobcjakmhaaDoor
open Go.RowKit Go.Maps

/-- What was no term when there were n is none any more. -/
def cutI (n x : Int) : Int := if n ≤ x then -1 else x
def arr3v (m : Msg) : Value := .agg #[.int .i64 m.content, .int .i64 m.sig, .int .i64 m.secret]
def cutM (n : Int) (m : Msg) : Msg := ⟨cutI n m.content, cutI n m.sig, cutI n m.secret⟩
def onL (j : Nat) (x y z a b c : Int) : List Value := match j with
  | 0 => [.int .i64 x, .int .i64 y, .int .i64 z]
  | 1 => [.int .i64 a, .int .i64 y, .int .i64 z]
  | 2 => [.int .i64 a, .int .i64 b, .int .i64 z]
  | _ => [.int .i64 a, .int .i64 b, .int .i64 c]
set_option maxHeartbeats 4000000 in
set_option maxRecDepth 100000 in
theorem only_any {w : World} (m : Msg) (n : Int) : Calls Tryd.prog 54 #[arr3v m, .int .i64 n] w fun e w' => e = .returned (arr3v (cutM n m)) ∧ Kept w w' := by
  obtain ⟨x, y, z⟩ := m
  unfold arr3v cutM
  simp only
  obtain ⟨cx, hcx⟩ : ∃ c, c = cutI n x := ⟨_, rfl⟩
  obtain ⟨cy, hcy⟩ : ∃ c, c = cutI n y := ⟨_, rfl⟩
  obtain ⟨cz, hcz⟩ : ∃ c, c = cutI n z := ⟨_, rfl⟩
  rw [← hcx, ← hcy, ← hcz]
  have HX := Shut.mk hcx
  have HY := Shut.mk hcy
  have HZ := Shut.mk hcz
  clear hcx hcy hcz
  have k1 : Kept w (w.alloc (.cells #[.int .i64 x, .int .i64 y, .int .i64 z] 50)) := (Kept.refl w).alloc _
  have k2 : Kept (w.alloc (.cells #[.int .i64 x, .int .i64 y, .int .i64 z] 50)) ((w.alloc (.cells #[.int .i64 x, .int .i64 y, .int .i64 z] 50)).alloc (.cells #[.int .i64 0, .int .i64 0, .int .i64 0] 50)) := (Kept.refl _).alloc _
  have b1 := (Blk.new w [.int .i64 x, .int .i64 y, .int .i64 z] 50).kept k2
  have b2 := Blk.new (w.alloc (.cells #[.int .i64 x, .int .i64 y, .int .i64 z] 50)) [.int .i64 0, .int .i64 0, .int .i64 0] 50
  rw [show (w.alloc (.cells #[.int .i64 x, .int .i64 y, .int .i64 z] 50)).heap.size = w.heap.size + 1 from World.size_alloc _ _] at b2
  have x0 : ∀ w : World, (Instr.index 50 (.agg #[.int .i64 x, .int .i64 y, .int .i64 z]) (.int .i64 0)).run Tryd.prog w = .ok (.int .i64 x) w := fun _ => by kernel_rfl
  have x1 : ∀ w : World, (Instr.index 50 (.agg #[.int .i64 x, .int .i64 y, .int .i64 z]) (.int .i64 1)).run Tryd.prog w = .ok (.int .i64 y) w := fun _ => by kernel_rfl
  have x2 : ∀ w : World, (Instr.index 50 (.agg #[.int .i64 x, .int .i64 y, .int .i64 z]) (.int .i64 2)).run Tryd.prog w = .ok (.int .i64 z) w := fun _ => by kernel_rfl
  go_enter Tryd.func54, Tryd.ntmps54
  go_wp2_with fail
  have HG := Shut.mk (Nat.le_succ w.heap.size)
  have K0 := Lib.hid (k1.trans k2)
  generalize (w.alloc (.cells #[.int .i64 x, .int .i64 y, .int .i64 z] 50)).alloc (.cells #[.int .i64 0, .int .i64 0, .int .i64 0] 50) = w2 at *
  clear k1 k2
  have hne : w.heap.size + 1 ≠ w.heap.size := by omega
  generalize hgb : w.heap.size = gb at *
  have HGB := Shut.mk hgb
  clear hgb
  have HG : Shut (gb ≤ gb + 1) := Shut.mk (Nat.le_succ gb)
  have HG : Shut (gb ≤ gb + 1) := Shut.mk (Nat.le_succ gb)
  have HG : Shut (gb ≤ gb + 1) := Shut.mk (Nat.le_succ gb)
  have HG : Shut (gb ≤ gb + 1) := Shut.mk (Nat.le_succ gb)
  have HG : Shut (gb ≤ gb + 1) := Shut.mk (Nat.le_succ gb)
  generalize gb + 1 = gr at *
  have c0 := b1.cell 0
  have c1 := b1.cell 1
  have c2 := b1.cell 2
  simp only [List.getElem?_cons_succ, List.getElem?_cons_zero] at c0 c1 c2
  go_wp2_with fail
  go_loopw [8] (fun i wr => ∃ j : Nat, j ≤ 3 ∧ i = .int .i64 j ∧ Blk wr gb 50 (onL j x y z cx cy cz) ∧ Blk wr gr 50 [.int .i64 0, .int .i64 0, .int .i64 0] ∧ Kept w wr) (fun i _ => 3 - (intOf i).toNat)
  case atStart => exact ⟨0, by omega, rfl, b1, b2, K0.out⟩
  case round =>
    obtain ⟨j, hj, rfl, hb, hb2, hk⟩ := hrel
    clear c0 c1 c2 b1 b2
    obtain rfl | rfl | rfl | rfl : j = 0 ∨ j = 1 ∨ j = 2 ∨ j = 3 := by omega
    · rw [show ((0 : Nat) : Int) = 0 from rfl]
      have hb0 : Blk wr gb 50 [.int .i64 x, .int .i64 y, .int .i64 z] := hb
      have q0 := hb0.cell 0
      have f0 := hb0.frozen 0
      have bl := hb0.lt
      simp only [List.getElem?_cons_succ, List.getElem?_cons_zero] at q0
      by_cases h : n ≤ x
      · have d1 : decide (x ≥ n) = true := decide_eq_true h
        have d2 : decide (n ≤ x) = true := decide_eq_true h
        have hs := hb0.set 0 (.int .i64 (-1))
        have hs2 : Blk (wr.setCell ⟨gb, 0, none⟩ (.int .i64 (-1))) gr 50 [.int .i64 0, .int .i64 0, .int .i64 0] := hb2.turn (turn_setCell wr ⟨gb, 0, none⟩ _) (fun e => hne e)
        have ks := hk.setCell (ad := ⟨gb, 0, none⟩) (by rw [HGB.out]; exact Nat.le_refl _) (.int .i64 (-1))
        have hc : cx = -1 := by rw [HX.out]; unfold cutI; rw [if_pos h]
        have hs3 : Blk (wr.setCell ⟨gb, 0, none⟩ (.int .i64 (-1))) gb 50 (onL (0 + 1) x y z cx cy cz) := by
          rw [hc]; exact hs
        have HC := Shut.mk hc
        clear h hb hb2 hb0 hk hs hc
        go_wp2
        go_roundw
        case rel => exact ⟨0 + 1, by omega, by go_num, hs3, hs2, ks⟩
        case measure => simp [intOf]
      · have d1 : decide (x ≥ n) = false := decide_eq_false h
        have d2 : decide (n ≤ x) = false := decide_eq_false h
        have hc : cx = x := by rw [HX.out]; unfold cutI; rw [if_neg h]
        have hs3 : Blk wr gb 50 (onL (0 + 1) x y z cx cy cz) := by
          rw [hc]; exact hb
        have HC := Shut.mk hc
        clear h hb0 hc hb
        go_wp2
        go_roundw
        case rel => exact ⟨0 + 1, by omega, by go_num, hs3, hb2, hk⟩
        case measure => simp [intOf]
    · rw [show ((1 : Nat) : Int) = 1 from rfl]
      have hb0 : Blk wr gb 50 [.int .i64 cx, .int .i64 y, .int .i64 z] := hb
      have q0 := hb0.cell 1
      have f0 := hb0.frozen 1
      have bl := hb0.lt
      simp only [List.getElem?_cons_succ, List.getElem?_cons_zero] at q0
      by_cases h : n ≤ y
      · have d1 : decide (y ≥ n) = true := decide_eq_true h
        have d2 : decide (n ≤ y) = true := decide_eq_true h
        have hs := hb0.set 1 (.int .i64 (-1))
        have hs2 : Blk (wr.setCell ⟨gb, 1, none⟩ (.int .i64 (-1))) gr 50 [.int .i64 0, .int .i64 0, .int .i64 0] := hb2.turn (turn_setCell wr ⟨gb, 1, none⟩ _) (fun e => hne e)
        have ks := hk.setCell (ad := ⟨gb, 1, none⟩) (by rw [HGB.out]; exact Nat.le_refl _) (.int .i64 (-1))
        have hc : cy = -1 := by rw [HY.out]; unfold cutI; rw [if_pos h]
        have hs3 : Blk (wr.setCell ⟨gb, 1, none⟩ (.int .i64 (-1))) gb 50 (onL (1 + 1) x y z cx cy cz) := by
          rw [hc]; exact hs
        have HC := Shut.mk hc
        clear h hb hb2 hb0 hk hs hc
        go_wp2
        go_roundw
        case rel => exact ⟨1 + 1, by omega, by go_num, hs3, hs2, ks⟩
        case measure => simp [intOf]
      · have d1 : decide (y ≥ n) = false := decide_eq_false h
        have d2 : decide (n ≤ y) = false := decide_eq_false h
        have hc : cy = y := by rw [HY.out]; unfold cutI; rw [if_neg h]
        have hs3 : Blk wr gb 50 (onL (1 + 1) x y z cx cy cz) := by
          rw [hc]; exact hb
        have HC := Shut.mk hc
        clear h hb0 hc hb
        go_wp2
        go_roundw
        case rel => exact ⟨1 + 1, by omega, by go_num, hs3, hb2, hk⟩
        case measure => simp [intOf]
    · rw [show ((2 : Nat) : Int) = 2 from rfl]
      have hb0 : Blk wr gb 50 [.int .i64 cx, .int .i64 cy, .int .i64 z] := hb
      have q0 := hb0.cell 2
      have f0 := hb0.frozen 2
      have bl := hb0.lt
      simp only [List.getElem?_cons_succ, List.getElem?_cons_zero] at q0
      by_cases h : n ≤ z
      · have d1 : decide (z ≥ n) = true := decide_eq_true h
        have d2 : decide (n ≤ z) = true := decide_eq_true h
        have hs := hb0.set 2 (.int .i64 (-1))
        have hs2 : Blk (wr.setCell ⟨gb, 2, none⟩ (.int .i64 (-1))) gr 50 [.int .i64 0, .int .i64 0, .int .i64 0] := hb2.turn (turn_setCell wr ⟨gb, 2, none⟩ _) (fun e => hne e)
        have ks := hk.setCell (ad := ⟨gb, 2, none⟩) (by rw [HGB.out]; exact Nat.le_refl _) (.int .i64 (-1))
        have hc : cz = -1 := by rw [HZ.out]; unfold cutI; rw [if_pos h]
        have hs3 : Blk (wr.setCell ⟨gb, 2, none⟩ (.int .i64 (-1))) gb 50 (onL (2 + 1) x y z cx cy cz) := by
          rw [hc]; exact hs
        have HC := Shut.mk hc
        clear h hb hb2 hb0 hk hs hc
        go_wp2
        go_roundw
        case rel => exact ⟨2 + 1, by omega, by go_num, hs3, hs2, ks⟩
        case measure => simp [intOf]
      · have d1 : decide (z ≥ n) = false := decide_eq_false h
        have d2 : decide (n ≤ z) = false := decide_eq_false h
        have hc : cz = z := by rw [HZ.out]; unfold cutI; rw [if_neg h]
        have hs3 : Blk wr gb 50 (onL (2 + 1) x y z cx cy cz) := by
          rw [hc]; exact hb
        have HC := Shut.mk hc
        clear h hb0 hc hb
        go_wp2
        go_roundw
        case rel => exact ⟨2 + 1, by omega, by go_num, hs3, hb2, hk⟩
        case measure => simp [intOf]
    · have hb0 : Blk wr gb 50 [.int .i64 cx, .int .i64 cy, .int .i64 cz] := hb
      have q0 := hb0.cell 0
      have q1 := hb0.cell 1
      have q2 := hb0.cell 2
      have bl := hb0.lt
      have r0 := hb2.cell 0
      have r1 := hb2.cell 1
      have r2 := hb2.cell 2
      have f0 := hb2.frozen 0
      have f1 := hb2.frozen 1
      have f2 := hb2.frozen 2
      have bl2 := hb2.lt
      have HR := Shut.mk (show w.heap.size ≤ gr by rw [HGB.out]; exact HG.out)
      simp only [List.getElem?_cons_succ, List.getElem?_cons_zero] at q0 q1 q2 r0 r1 r2
      clear hb hb0 hb2
      go_wp2
      refine bodyPost_ret (v := .agg #[.int .i64 cx, .int .i64 cy, .int .i64 cz]) ?_ rfl ?_
      · have hr : Tryd.f54.results = #[.cell 4 50] := rfl
        simp [results, hr]
        try go_simp
        try rfl
      · exact ⟨rfl, ((hk.setCell (ad := ⟨gr, 0, none⟩) HR.out _).setCell (ad := ⟨gr, 1, none⟩) HR.out _).setCell (ad := ⟨gr, 2, none⟩) HR.out _⟩
/-- What 'said' leaves: the confirmed hash, and the interim one behind it. -/
def SaidPost (w0 : World) (S : Nat → Prop) (w : World) (p : Value) (ds : List Nd) (b : Bool) (I C G K : Tr) (e : Ending) (w' : World) : Prop :=
  ∃ (r : List Nd) (x y : Int), e = .returned (.tuple #[.int .i64 x, .int .i64 y, .int .i64 (eB b)]) ∧ At w0 S w' p (ds ++ r) ∧ r.length ≤ 5 ∧ (b = true → Den (confT I C G) (ds ++ r) x ∧ Den (intT (confT I C G) (macT K (confT I C G))) (ds ++ r) y) ∧ Keep S w w'
set_option maxHeartbeats 4000000 in
set_option maxRecDepth 100000 in
theorem said_ok {w0 : World} {S : Nat → Prop} {w : World} {p : Value} {ds : List Nd} {i : Int} {m : Msg} {I C G K : Tr} (h : At w0 S w p ds) (di : Den I ds i) (dc : Den C ds m.content) (dg : Den G ds m.sig) (dk : Den K ds m.secret) (hl : ds.length + 10 < 100000) :
    Calls Tryd.prog 53 #[p, .int .i64 i, arr3v m] w (SaidPost w0 S w p ds true I C G K) := by
  obtain ⟨c, g, k⟩ := m
  simp only at dc dg dk
  unfold arr3v
  simp only
  have k1 : Kept w (w.alloc (.cells #[.int .i64 c, .int .i64 g, .int .i64 k] 50)) := (Kept.refl w).alloc _
  have b1 := Blk.new w [.int .i64 c, .int .i64 g, .int .i64 k] 50
  have HC := Lib.hid (PConfirmed_ok (h.more (T := fun b => S b ∨ b = w.heap.size) k1 (fun b hb => by
    rcases hb with c | rfl
    · exact ⟨.inl c, Nat.lt_of_lt_of_le (h.old b c) k1.size⟩
    · exact ⟨.inr (Nat.le_refl _), b1.lt⟩) (fun b hb => .inl (h.base b hb))) di dc dg (by omega))
  have HT := Lib.hid (fun W (r : List Nd) (x : Int) (a : At w0 (fun b => S b ∨ b = w.heap.size) W p (ds ++ r)) (hr : r.length ≤ 2) (dx : Den (confT I C G) (ds ++ r) x) => PTag_ok a (dk.more r) dx (by rw [List.length_append]; omega))
  have HI := Lib.hid (fun W (r s : List Nd) (x y : Int) (a : At w0 (fun b => S b ∨ b = w.heap.size) W p (ds ++ r ++ s)) (hr : r.length ≤ 2) (hs : s.length ≤ 1) (dx : Den (confT I C G) (ds ++ r ++ s) x) (dy : Den (macT K (confT I C G)) (ds ++ r ++ s) y) => PInterim_ok a dx dy (by simp only [List.length_append]; omega))
  have HB := Shut.mk h.base
  obtain ⟨pb, rfl⟩ := h.ptr
  clear h di dc dg dk
  go_enter Tryd.func53, Tryd.ntmps53
  have q0 := b1.cell 0
  have q1 := b1.cell 1
  have ql := b1.lt
  simp only [List.getElem?_cons_succ, List.getElem?_cons_zero] at q0 q1
  go_wp2_with fail
  generalize w.alloc (.cells #[.int .i64 c, .int .i64 g, .int .i64 k] 50) = w1 at *
  (with_reducible refine HC.out.mono ?_); rintro e w2 ⟨r2, x, rfl, a2, hr2, d2, k2⟩
  have B2 := Lib.hid (k2.blk b1 (.inr rfl))
  have HT2 := Lib.hid (HT.out w2 r2 x a2 hr2 d2)
  have D2 := Shut.mk d2
  have K2 := Lib.hid (Keep.less ((k1.keep _).trans k2) (fun b hb => .inl hb) : Keep S w w2)
  clear HC HT a2 d2 k2 k1 b1 q0 q1 ql
  have q2 := B2.out.cell 2
  have ql := B2.out.lt
  simp only [List.getElem?_cons_succ, List.getElem?_cons_zero] at q2
  go_wp2_with fail
  (with_reducible refine HT2.out.mono ?_); rintro e w3 ⟨r3, y, rfl, a3, hr3, d3, k3⟩
  have HI3 := Lib.hid (HI.out w3 r2 r3 x y a3 hr2 hr3 (D2.out.more r3) d3)
  have D3 := Shut.mk (D2.out.more r3)
  have K3 := Lib.hid (K2.out.trans (Keep.less k3 (fun b hb => .inl hb)))
  clear HI HT2 a3 d3 k3 K2 D2 q2 ql B2
  go_wp2_with fail
  (with_reducible refine HI3.out.mono ?_); rintro e w4 ⟨r4, z, rfl, a4, hr4, d4, k4⟩
  go_wp2
  go_ret3
  refine ⟨r2 ++ r3 ++ r4, x, z, rfl, ?_, by simp only [List.length_append]; omega, fun _ => ⟨?_, ?_⟩, K3.out.trans (Keep.less k4 (fun b hb => .inl hb))⟩
  · simp only [← List.append_assoc]
    exact a4.less (fun b hb => .inl hb) HB.out
  · simp only [← List.append_assoc]; exact D3.out.more r4
  · simp only [← List.append_assoc]; exact d4
theorem termsB_neg {ds : List Nd} {x : Int} {l : List Int} (hx : x < 0) : termsB ds (x :: l) = false := by
  unfold termsB
  rw [List.all_cons, decide_eq_false (fun h : IsT ds x => by have := h.1; omega), Bool.false_and]
theorem pTag_neg {w0 : World} {S : Nat → Prop} {w : World} {p : Value} {ds : List Nd} {k c : Int} (h : At w0 S w p ds) (ik : I64 k) (ic : I64 c) (hk : k < 0) :
    Calls Tryd.prog 15 #[p, .int .i64 k, .int .i64 c] w (PNo w0 S w p ds 0) := PTag_no h ik ic (termsB_neg hk)
set_option maxHeartbeats 4000000 in
set_option maxRecDepth 100000 in
theorem said_bad1 {w0 : World} {S : Nat → Prop} {w : World} {p : Value} {ds : List Nd} {i : Int} {m : Msg} {I C G K : Tr} (h : At w0 S w p ds) (ii : I64 i) (im : I64 m.content ∧ I64 m.sig ∧ I64 m.secret) (hb : termsB ds [i, m.content, m.sig] = false) :
    Calls Tryd.prog 53 #[p, .int .i64 i, arr3v m] w (SaidPost w0 S w p ds false I C G K) := by
  obtain ⟨c, g, k⟩ := m
  simp only at im hb
  unfold arr3v
  simp only
  have k1 : Kept w (w.alloc (.cells #[.int .i64 c, .int .i64 g, .int .i64 k] 50)) := (Kept.refl w).alloc _
  have b1 := Blk.new w [.int .i64 c, .int .i64 g, .int .i64 k] 50
  have HC := Lib.hid (PConfirmed_no (h.step k1) ii im.1 im.2.1 hb)
  obtain ⟨pb, rfl⟩ := h.ptr
  clear h ii im hb
  go_enter Tryd.func53, Tryd.ntmps53
  have q0 := b1.cell 0
  have q1 := b1.cell 1
  have ql := b1.lt
  simp only [List.getElem?_cons_succ, List.getElem?_cons_zero] at q0 q1
  go_wp2_with fail
  generalize w.alloc (.cells #[.int .i64 c, .int .i64 g, .int .i64 k] 50) = w1 at *
  (with_reducible refine HC.out.mono ?_); rintro e w2 ⟨r2, rfl, a2, hr2, k2⟩
  go_wp2
  go_ret3
  exact ⟨r2, 0, 0, rfl, a2, by omega, (fun h => by cases h), (k1.keep S).trans k2⟩
set_option maxHeartbeats 4000000 in
set_option maxRecDepth 100000 in
theorem said_bad2 {w0 : World} {S : Nat → Prop} {w : World} {p : Value} {ds : List Nd} {i : Int} {m : Msg} {I C G K : Tr} (h : At w0 S w p ds) (di : Den I ds i) (dc : Den C ds m.content) (dg : Den G ds m.sig) (ik : I64 m.secret) (hk : m.secret < 0) (hl : ds.length + 10 < 100000) :
    Calls Tryd.prog 53 #[p, .int .i64 i, arr3v m] w (SaidPost w0 S w p ds false I C G K) := by
  obtain ⟨c, g, k⟩ := m
  simp only at dc dg ik hk
  unfold arr3v
  simp only
  have k1 : Kept w (w.alloc (.cells #[.int .i64 c, .int .i64 g, .int .i64 k] 50)) := (Kept.refl w).alloc _
  have b1 := Blk.new w [.int .i64 c, .int .i64 g, .int .i64 k] 50
  have HC := Lib.hid (PConfirmed_ok (h.more (T := fun b => S b ∨ b = w.heap.size) k1 (fun b hb => by
    rcases hb with c | rfl
    · exact ⟨.inl c, Nat.lt_of_lt_of_le (h.old b c) k1.size⟩
    · exact ⟨.inr (Nat.le_refl _), b1.lt⟩) (fun b hb => .inl (h.base b hb))) di dc dg (by omega))
  have HT := Lib.hid (fun W (r : List Nd) (x : Int) (a : At w0 (fun b => S b ∨ b = w.heap.size) W p (ds ++ r)) (hr : r.length ≤ 2) (dx : Den (confT I C G) (ds ++ r) x) => pTag_neg a ik (dx.1.i64' a.few) hk)
  have HB := Shut.mk h.base
  obtain ⟨pb, rfl⟩ := h.ptr
  clear h di dc dg ik hk
  go_enter Tryd.func53, Tryd.ntmps53
  have q0 := b1.cell 0
  have q1 := b1.cell 1
  have ql := b1.lt
  simp only [List.getElem?_cons_succ, List.getElem?_cons_zero] at q0 q1
  go_wp2_with fail
  generalize w.alloc (.cells #[.int .i64 c, .int .i64 g, .int .i64 k] 50) = w1 at *
  (with_reducible refine HC.out.mono ?_); rintro e w2 ⟨r2, x, rfl, a2, hr2, d2, k2⟩
  have B2 := Lib.hid (k2.blk b1 (.inr rfl))
  have HT2 := Lib.hid (HT.out w2 r2 x a2 hr2 d2)
  have K2 := Lib.hid (Keep.less ((k1.keep _).trans k2) (fun b hb => .inl hb) : Keep S w w2)
  clear HC HT a2 d2 k2 k1 b1 q0 q1 ql
  have q2 := B2.out.cell 2
  have ql := B2.out.lt
  simp only [List.getElem?_cons_succ, List.getElem?_cons_zero] at q2
  go_wp2_with fail
  (with_reducible refine HT2.out.mono ?_); rintro e w3 ⟨r3, rfl, a3, hr3, k3⟩
  go_wp2
  go_ret3
  refine ⟨r2 ++ r3, 0, 0, rfl, ?_, by simp only [List.length_append]; omega, (fun h => by cases h), K2.out.trans (Keep.less k3 (fun b hb => .inl hb))⟩
  rw [← List.append_assoc]
  exact a3.less (fun b hb => .inl hb) HB.out
end Go.Proofs.YtdjfdobcjakmhaaDoor
end

section
/- The program's transcript: Chain. -/
set_option linter.unusedSimpArgs false
set_option linter.unusedVariables false
namespace Go.Proofs.YtdjfdobcjakmhaaDoor
open Go.RowKit Go.Maps

theorem cut_in {n x : Int} (hx : IsT (atomsL 10) x) (hn : 10 ≤ n) : cutI n x = x := by
  unfold cutI
  have := hx.2
  rw [atomsL_len] at this
  rw [if_neg (by omega)]
theorem cut_out {n x : Int} (hx : ¬ IsT (atomsL 10) x) (nx : ¬ (10 ≤ x ∧ x < 1073741824)) (hn : n ≤ 1073741824) : cutI n x < 0 := by
  unfold cutI
  have h2 : ¬ (0 ≤ x ∧ x < 10) := fun h => hx ⟨h.1, by rw [atomsL_len]; exact h.2⟩
  split <;> omega
theorem cut_64 {n x : Int} (hx : I64 x) : I64 (cutI n x) := by
  unfold cutI
  split
  · exact ⟨by decide, by decide⟩
  · exact hx
theorem tB_cons {x : Int} {l : List Int} : tB (x :: l) = (decide (IsT (atomsL 10) x) && tB l) := rfl
theorem said_any {w0 : World} {S : Nat → Prop} {w : World} {p : Value} {r : List Nd} {i n : Int} {m : Msg} {I : Tr} (h : At w0 S w p (atomsL 10 ++ r)) (di : Den I (atomsL 10 ++ r) i) (near : Near 10 m.l) (im : I64 m.content ∧ I64 m.sig ∧ I64 m.secret) (hn : 10 ≤ n) (hn2 : n ≤ 1073741824) (hl : r.length ≤ 2000) :
    Calls Tryd.prog 53 #[p, .int .i64 i, arr3v (cutM n m)] w (SaidPost w0 S w p (atomsL 10 ++ r) (tB m.l) I (atomT m.content) (atomT m.sig) (atomT m.secret)) := by
  obtain ⟨c, g, k⟩ := m
  have hlen : (atomsL 10 ++ r).length + 10 < 100000 := by rw [List.length_append, atomsL_len]; omega
  simp only [Msg.l] at near im ⊢
  have n1 := near c (by simp)
  have n2 := near g (by simp)
  have n3 := near k (by simp)
  have d : ∀ {x : Int}, IsT (atomsL 10) x → Den (atomT x) (atomsL 10 ++ r) x := fun hx => (isT_atom good10 hx).more r
  by_cases h1 : IsT (atomsL 10) c
  · by_cases h2 : IsT (atomsL 10) g
    · by_cases h3 : IsT (atomsL 10) k
      · rw [show tB [c, g, k] = true by rw [tB_cons, tB_cons, tB_cons, decide_eq_true h1, decide_eq_true h2, decide_eq_true h3]; rfl]
        unfold cutM
        simp only
        rw [cut_in h1 hn, cut_in h2 hn, cut_in h3 hn]
        exact said_ok (m := ⟨c, g, k⟩) h di (d h1) (d h2) (d h3) hlen
      · rw [show tB [c, g, k] = false by rw [tB_cons, tB_cons, tB_cons, decide_eq_false h3, Bool.false_and, Bool.and_false, Bool.and_false]]
        unfold cutM
        simp only
        rw [cut_in h1 hn, cut_in h2 hn]
        exact said_bad2 (m := ⟨c, g, cutI n k⟩) h di (d h1) (d h2) (cut_64 im.2.2) (cut_out h3 n3 hn2) hlen
    · rw [show tB [c, g, k] = false by rw [tB_cons, tB_cons, decide_eq_false h2, Bool.false_and, Bool.and_false]]
      refine said_bad1 h (di.1.i64' h.few) ⟨cut_64 im.1, cut_64 im.2.1, cut_64 im.2.2⟩ ?_
      unfold cutM
      simp only
      have := termsB_neg (ds := atomsL 10 ++ r) (l := []) (cut_out h2 n2 hn2)
      unfold termsB at this ⊢
      simp only [List.all_cons, List.all_nil, Bool.and_true] at this ⊢
      rw [this, Bool.and_false, Bool.and_false]
  · rw [show tB [c, g, k] = false by rw [tB_cons, decide_eq_false h1, Bool.false_and]]
    refine said_bad1 h (di.1.i64' h.few) ⟨cut_64 im.1, cut_64 im.2.1, cut_64 im.2.2⟩ ?_
    unfold cutM
    simp only
    have := termsB_neg (ds := atomsL 10 ++ r) (l := []) (cut_out h1 n1 hn2)
    unfold termsB at this ⊢
    simp only [List.all_cons, List.all_nil, Bool.and_true] at this ⊢
    rw [this, Bool.false_and, Bool.and_false]
theorem said_start {w0 : World} {S : Nat → Prop} {w : World} {p : Value} {r : List Nd} {i n : Int} {m : Msg} {I C G K : Tr} (h : At w0 S w p (atomsL 10 ++ r)) (hi : tB [i] = false) (ni : Near 10 [i]) (ii : I64 i) (im : I64 m.content ∧ I64 m.sig ∧ I64 m.secret) (hl : r.length ≤ 1000) :
    Calls Tryd.prog 53 #[p, .int .i64 i, arr3v (cutM n m)] w (SaidPost w0 S w p (atomsL 10 ++ r) false I C G K) := by
  refine said_bad1 h ii ⟨cut_64 im.1, cut_64 im.2.1, cut_64 im.2.2⟩ ?_
  have h1 : termsB (atomsL 10 ++ r) [i] = false := near_no ni hl hi
  unfold termsB at h1 ⊢
  simp only [List.all_cons, List.all_nil, Bool.and_true] at h1 ⊢
  rw [h1, Bool.false_and]
/-- Whether Chain answers. -/
def chB (start : Int) (l : List Msg) : Bool := l.isEmpty || (tB [start] && l.all (fun m => tB m.l))
def ChainPost (w0 : World) (S : Nat → Prop) (w : World) (p : Value) (r : List Nd) (start : Int) (l : List Msg) (e : Ending) (w' : World) : Prop :=
  ∃ (s : List Nd) (v : Value) (xs : List Int), e = .returned (.tuple #[v, .int .i64 (eB (chB start l))]) ∧ At w0 (SB S v) w' p (atomsL 10 ++ (r ++ s)) ∧ s.length ≤ 5 * l.length ∧ OwnI 0 w' v xs ∧ (∀ b, Blks v b → w.heap.size ≤ b) ∧ Keep S w w' ∧
    (chB start l = true → xs.length = l.length ∧ ∀ k, k < l.length → Den (cfT atomT (atomT start) l k) (atomsL 10 ++ (r ++ s)) (xs.getD k 0)) ∧ (chB start l = false → xs = [])
set_option maxHeartbeats 8000000 in
set_option maxRecDepth 100000 in
theorem PChain_ok {w0 : World} {S : Nat → Prop} {w : World} {p v : Value} {r : List Nd} {start : Int} {l : List Msg} (h : At w0 S w p (atomsL 10 ++ r)) (hv : ∀ W, Keep S w W → RdMs W v l) (near : ∀ m ∈ l, Near 10 m.l) (im : ∀ m ∈ l, I64 m.content ∧ I64 m.sig ∧ I64 m.secret) (hs : tB [start] = true) (hl : l.length ≤ 40) (hr : r.length ≤ 1000) :
    Calls Tryd.prog 30 #[p, .int .i64 start, v] w (ChainPost w0 S w p r start l) := by
  have hRL := hv w (Keep.refl S w)
  obtain ⟨va, vc, rfl, v1, v2, v3⟩ := hRL.len
  clear hRL
  have l63 : ((l.length : Nat) : Int) ≤ 9223372036854775807 := by omega
  have hlen := lenA h
  have hS : ∀ b, S b → b < w.heap.size := h.old
  have hB : ∀ b, b < w0.heap.size → S b := h.base
  have HS := Shut.mk (And.intro hS hB)
  have HST := Shut.mk hs
  have HV := Lib.hid hv
  have HN := Shut.mk (And.intro near im)
  have dst := isT_atom good10 (tB_isT hs (List.mem_singleton.2 rfl))
  have D0 := Shut.mk (dst.more r)
  have HL := Shut.mk (And.intro hl hr)
  have HA := Lib.hid h
  obtain ⟨pb, rfl⟩ := h.ptr
  have h0 : w0.heap.size ≤ w.heap.size := h.kept.size
  clear h hv near im hs hl hr dst hS hB v1 v2 v3
  go_enter Tryd.func30, Tryd.ntmps30
  go_wp2_with fail
  (with_reducible refine hlen.mono ?_); rintro e w1 ⟨rfl, rfl⟩
  obtain ⟨n, hn⟩ : ∃ n : Int, n = ((atomsL 10 ++ r).length : Int) := ⟨_, rfl⟩
  have hN : Shut (10 ≤ n ∧ n ≤ 1073741824) := Shut.mk (by rw [hn, List.length_append, atomsL_len]; have := HL.out.2; omega)
  rw [← hn]
  clear hn hlen
  go_wp2
  go_loopw [9, 10, 21] (fun av iv i wr => ∃ (k : Nat) (s : List Nd) (ts : List Int) (y : Int), k ≤ l.length ∧ i = .int .i64 k ∧ iv = .int .i64 y ∧ At w0 (SB S av) wr (.pointer (some ⟨pb, 0, none⟩)) (atomsL 10 ++ (r ++ s)) ∧ OwnI 0 wr av ts ∧ (∀ b, Blks av b → w.heap.size ≤ b) ∧ ts.length = k ∧ s.length ≤ 5 * k ∧ Den (stT atomT (atomT start) l k) (atomsL 10 ++ (r ++ s)) y ∧ (∀ j, j < k → Den (cfT atomT (atomT start) l j) (atomsL 10 ++ (r ++ s)) (ts.getD j 0)) ∧ (∀ j, j < k → tB (l.getD j msg0).l = true) ∧ Keep S w wr) (fun _ _ i _ => l.length - (intOf i).toNat)
  case atStart => exact ⟨0, [], [], start, Nat.zero_le _, rfl, rfl, by rw [List.append_nil]; exact HA.out.less (fun b hb => hb.elim id (fun c => by cases c)) (fun b hb => .inl (HS.out.2 b hb)), OwnI.nil _ _, (fun b hb => by cases hb), rfl, Nat.le_refl _, by rw [List.append_nil]; exact D0.out, (fun j hj => absurd hj (Nat.not_lt_zero _)), (fun j hj => absurd hj (Nat.not_lt_zero _)), Keep.refl S w⟩
  case round =>
    clear D0 HA
    obtain ⟨k, s, ts, y, hk, rfl, rfl, ha, ho, hbl, htl, hsl, dy, hds, hall, hkp⟩ := hrel
    have HBL := Shut.mk hbl
    have HTL := Shut.mk htl
    have HSL := Shut.mk hsl
    have HDS := Shut.mk hds
    have HAL := Shut.mk hall
    have DY := Shut.mk dy
    have HA := Lib.hid ha
    have HO := Lib.hid ho
    have HK := Lib.hid hkp
    clear hbl htl hsl hds hall dy ha ho hkp
    by_cases hlt : k < l.length
    · have hm : l.getD k msg0 ∈ l := by
        rw [List.getD_eq_getElem?_getD, List.getElem?_eq_getElem hlt]
        exact List.getElem_mem _
      have NM := Shut.mk (HN.out.1 _ hm)
      have IM := Shut.mk (HN.out.2 _ hm)
      obtain ⟨gb, go, gc, hve, hrow⟩ := (HV.out wr HK.out).at hlt
      simp only [Value.slice.injEq] at hve
      obtain ⟨rfl, _, rfl⟩ := hve
      obtain ⟨m, hmm⟩ : ∃ m, m = l.getD k msg0 := ⟨_, rfl⟩
      rw [← hmm] at hrow NM IM
      have HM := Shut.mk hmm
      clear hm hmm
      obtain ⟨x0, x1, x2⟩ := RdMs.cells hrow
      have bm := Blk.new wr (mcs m) 50
      have km : Kept wr (wr.alloc (.cells (mcs m).toArray 50)) := (Kept.refl wr).alloc _
      have HY := Lib.hid (fun W => only_any (w := W) m n)
      have HSa := Lib.hid (fun W (a : At w0 (SB S u9) W (.pointer (some ⟨pb, 0, none⟩)) (atomsL 10 ++ (r ++ s))) => said_any a DY.out NM.out IM.out hN.out.1 hN.out.2 (by rw [List.length_append]; have := HL.out; have := HSL.out; omega))
      have HTB := Shut.mk (show tB m.l = tB (l.getD k msg0).l by rw [HM.out])
      obtain ⟨b, hb⟩ : ∃ b, b = tB m.l := ⟨_, rfl⟩
      rw [← hb] at HSa HTB
      clear hb hrow
      obtain ⟨mc, mg, mk⟩ := m
      unfold mcs at bm km
      simp only at x0 x1 x2 bm km HTB
      have HY : Hid (∀ W, Calls Tryd.prog 54 #[.agg #[.int .i64 mc, .int .i64 mg, .int .i64 mk], .int .i64 n] W fun e w' => e = .returned (arr3v (cutM n ⟨mc, mg, mk⟩)) ∧ Kept W w') := HY
      generalize arr3v (cutM n ⟨mc, mg, mk⟩) = V at *
      go_wp2_with fail
      (with_reducible refine (HY.out _).mono ?_); rintro e w2 ⟨rfl, k2⟩
      have HSb := Lib.hid (HSa.out _ (HA.out.step (km.trans k2)))
      have KK := Lib.hid (km.trans k2)
      clear HY HSa km k2 bm x0 x1 x2
      go_wp2_with fail
      (with_reducible refine HSb.out.mono ?_); rintro e w4 ⟨r4, x, z, rfl, a4, hr4, d4, k4⟩
      have hr4 := Shut.mk hr4
      have HO4 := Lib.hid (k4.owni (Ownv.kept HO.out KK.out) (fun b hb => .inr hb))
      have HK4 := Lib.hid (HK.out.trans ((KK.out.keep S).trans (Keep.less k4 (fun b hb => .inl hb))))
      have A4 := Lib.hid a4
      clear a4 k4 HSb KK HO HK HA
      cases b with
      | false =>
        have HF : Shut (chB start l = false) := Shut.mk (by
          have h1 : (l.all (fun m => tB m.l)) = false := by
            rw [List.all_eq_false]
            refine ⟨l.getD k msg0, ?_, by rw [← HTB.out]; simp⟩
            rw [List.getD_eq_getElem?_getD, List.getElem?_eq_getElem hlt]
            exact List.getElem_mem _
          unfold chB
          rw [h1, Bool.and_false, Bool.or_false]
          cases l with
          | nil => simp at hlt
          | cons a b => rfl)
        unfold eB
        go_wp2
        go_ret2
        refine ⟨s ++ r4, .slice none 0 0, [], by rw [HF.out]; rfl, ?_, by rw [List.length_append]; have := HSL.out; have := hr4.out; omega, OwnI.nil _ _, (fun b hb => by cases hb), HK4.out, (fun h => by rw [HF.out] at h; cases h), fun _ => rfl⟩
        have := A4.out.less (S := SB S (.slice none 0 0)) (fun b hb => hb.elim .inl (fun c => by cases c)) (fun b hb => .inl (HS.out.2 b hb))
        rw [List.append_assoc, List.append_assoc] at this
        exact this
      | true =>
        have D4 := Shut.mk (d4 rfl)
        clear d4
        unfold eB
        have t44 : Kept w4 (w4.alloc (.cells #[.int .i64 x] 3)) := (Kept.refl w4).alloc _
        have o4 : OwnI 0 w4 u9 ts := HO4.out
        go_wp2_with (first
          | (at_builtin; refine go_appi 0 u9 ts rfl (Ownv.kept o4 ((Kept.refl w4).alloc _)) _ [x] rfl (OwnI.rd (lit1_of w4 x)) (by have := HTL.out; have := HL.out; simp; omega) (Nat.zero_le _) ?_; intro v6 w6 o6 t6 l6))
        have hsz := ((HK4.out).trans (t44.keep S)).size
        have h46 := t6.size
        have a6 : At w0 (SB S v6) w6 (.pointer (some ⟨pb, 0, none⟩)) (atomsL 10 ++ (r ++ s) ++ r4) := (A4.out.step t44).grow t6 (fun b hb => ⟨.inr hb, by have := HBL.out b hb; omega⟩) (fun b hb => by
          rcases hb with c | c
          · exact ⟨.inl (.inl c), by have := HS.out.1 b c; omega⟩
          · refine ⟨?_, (Ownv.lt o6 c).1⟩
            rcases l6 b c with d | d
            · exact .inl (.inr d)
            · exact .inr d) (fun b hb' => .inl (HS.out.2 b hb'))
        rw [List.append_assoc, List.append_assoc] at a6
        have k6 : Keep S w w6 := Turn.trans (HK4.out.trans (t44.keep S)) t6 (fun b hb => .inl (fun hs => by have := HS.out.1 b hs; have := HBL.out b hb; omega))
        have hcf : cfT atomT (atomT start) l k = confT (stT atomT (atomT start) l k) (atomT mc) (atomT mg) := by unfold cfT; rw [← HM.out]
        have hst : stT atomT (atomT start) l (k + 1) = intT (confT (stT atomT (atomT start) l k) (atomT mc) (atomT mg)) (macT (atomT mk) (confT (stT atomT (atomT start) l k) (atomT mc) (atomT mg))) := by rw [stT_succ, hcf, ← HM.out]
        have e4 : atomsL 10 ++ (r ++ s) ++ r4 = atomsL 10 ++ (r ++ (s ++ r4)) := by rw [List.append_assoc, List.append_assoc]
        go_roundw
        case rel =>
          refine ⟨k + 1, s ++ r4, ts ++ [x], z, hlt, by go_num, rfl, a6, o6, fun b h1 => ?_, by rw [List.length_append, HTL.out]; rfl, by rw [List.length_append]; have := HSL.out; have := hr4.out; omega, ?_, fun j hj => ?_, fun j hj => ?_, k6⟩
          · rcases l6 b h1 with c | c
            · exact HBL.out b c
            · omega
          · rw [hst, ← e4]; exact D4.out.2
          · rw [getD_snoc_j, HTL.out, ← e4]
            by_cases c : j < k
            · rw [if_pos c]; exact (HDS.out j c).more r4
            · obtain rfl : j = k := by omega
              rw [if_neg c, if_pos rfl, hcf]; exact D4.out.1
          · by_cases c : j < k
            · exact HAL.out j c
            · obtain rfl : j = k := by omega
              rw [← HTB.out]
        case measure => simp [intOf]; omega
    · have hkl : k = l.length := by omega
      have HF : Shut (chB start l = true) := Shut.mk (by
        unfold chB
        have h1 : (l.all (fun m => tB m.l)) = true := by
          rw [List.all_eq_true]
          intro m hm
          obtain ⟨j, hj, rfl⟩ := List.getElem_of_mem hm
          have := HAL.out j (by omega)
          rwa [List.getD_eq_getElem?_getD, List.getElem?_eq_getElem hj] at this
        rw [h1, HST.out]
        simp)
      have HKL := Shut.mk hkl
      have HTL2 := Shut.mk (HTL.out.trans hkl)
      have HSL2 := Shut.mk (show s.length ≤ 5 * l.length by have := HSL.out; omega)
      have HDS2 := Shut.mk (show ∀ j, j < l.length → Den (cfT atomT (atomT start) l j) (atomsL 10 ++ (r ++ s)) (ts.getD j 0) from fun j hj => HDS.out j (by omega))
      clear hkl
      go_wp2
      go_ret2
      exact ⟨s, _, ts, by rw [HF.out]; rfl, HA.out, HSL2.out, HO.out, HBL.out, HK.out, fun _ => ⟨HTL2.out, HDS2.out⟩, fun h => by rw [HF.out] at h; cases h⟩
set_option maxHeartbeats 8000000 in
set_option maxRecDepth 100000 in
theorem PChain_no {w0 : World} {S : Nat → Prop} {w : World} {p v : Value} {r : List Nd} {start : Int} {l : List Msg} (h : At w0 S w p (atomsL 10 ++ r)) (hv : ∀ W, Keep S w W → RdMs W v l) (im : ∀ m ∈ l, I64 m.content ∧ I64 m.sig ∧ I64 m.secret) (hs : tB [start] = false) (ns : Near 10 [start]) (is : I64 start) (hl : l.length ≤ 40) (hr : r.length ≤ 1000) :
    Calls Tryd.prog 30 #[p, .int .i64 start, v] w (ChainPost w0 S w p r start l) := by
  have hRL := hv w (Keep.refl S w)
  obtain ⟨va, vc, rfl, v1, v2, v3⟩ := hRL.len
  clear hRL
  have l63 : ((l.length : Nat) : Int) ≤ 9223372036854775807 := by omega
  have hlen := lenA h
  have HV := Lib.hid hv
  have HN := Shut.mk im
  have HST := Shut.mk hs
  have HI := Shut.mk (And.intro ns is)
  have HL := Shut.mk (And.intro hl hr)
  have HA := Lib.hid h
  have HB := Shut.mk h.base
  obtain ⟨pb, rfl⟩ := h.ptr
  clear h hv im hs ns is hl hr v1 v2 v3
  go_enter Tryd.func30, Tryd.ntmps30
  go_wp2_with fail
  (with_reducible refine hlen.mono ?_); rintro e w1 ⟨rfl, rfl⟩
  generalize ((atomsL 10 ++ r).length : Int) = n at *
  clear hlen
  go_wp2
  go_loopw [9, 10, 21] (fun av iv i wr => i = .int .i64 0 ∧ av = .slice none 0 0 ∧ iv = .int .i64 start ∧ wr = w) (fun _ _ i _ => l.length - (intOf i).toNat)
  case atStart => exact ⟨rfl, rfl, rfl, rfl⟩
  case round =>
    obtain ⟨rfl, rfl, rfl, rfl⟩ := hrel
    by_cases hlt : 0 < l.length
    · have d0 : decide ((0 : Int) < (l.length : Int)) = true := decide_eq_true (by omega)
      have hm : l.getD 0 msg0 ∈ l := by
        rw [List.getD_eq_getElem?_getD, List.getElem?_eq_getElem hlt]
        exact List.getElem_mem _
      have IM := Shut.mk (HN.out _ hm)
      obtain ⟨gb, go, gc, hve, hrow⟩ := (HV.out wr (Keep.refl S wr)).at hlt
      simp only [Value.slice.injEq] at hve
      obtain ⟨rfl, _, rfl⟩ := hve
      generalize l.getD 0 msg0 = m at *
      clear hm
      rw [Nat.zero_mul, Nat.add_zero] at hrow
      obtain ⟨x0, x1, x2⟩ := RdMs.cells hrow
      have bm := Blk.new wr (mcs m) 50
      have km : Kept wr (wr.alloc (.cells (mcs m).toArray 50)) := (Kept.refl wr).alloc _
      have HY := Lib.hid (fun W => only_any (w := W) m n)
      have HSa := Lib.hid (fun W (a : At w0 S W (.pointer (some ⟨pb, 0, none⟩)) (atomsL 10 ++ r)) => said_start (n := n) (m := m) (I := textT []) (C := textT []) (G := textT []) (K := textT []) a HST.out HI.out.1 HI.out.2 IM.out HL.out.2)
      clear hrow
      obtain ⟨mc, mg, mk⟩ := m
      unfold mcs at bm km
      simp only at x0 x1 x2 bm km
      have HY : Hid (∀ W, Calls Tryd.prog 54 #[.agg #[.int .i64 mc, .int .i64 mg, .int .i64 mk], .int .i64 n] W fun e w' => e = .returned (arr3v (cutM n ⟨mc, mg, mk⟩)) ∧ Kept W w') := HY
      generalize arr3v (cutM n ⟨mc, mg, mk⟩) = V at *
      go_wp2_with fail
      (with_reducible refine (HY.out _).mono ?_); rintro e w2 ⟨rfl, k2⟩
      have HSb := Lib.hid (HSa.out _ (HA.out.step (km.trans k2)))
      have KK := Lib.hid (km.trans k2)
      clear HY HSa km k2 bm x0 x1 x2
      go_wp2_with fail
      (with_reducible refine HSb.out.mono ?_); rintro e w4 ⟨r4, x, z, rfl, a4, hr4, d4, k4⟩
      have hr4 := Shut.mk hr4
      have A4 := Lib.hid a4
      have K4 := Lib.hid ((KK.out.keep S).trans k4)
      clear a4 k4 d4 HSb KK
      have HF : Shut (chB start l = false) := Shut.mk (by
        unfold chB
        rw [HST.out, Bool.false_and, Bool.or_false]
        cases l with
        | nil => simp at hlt
        | cons a b => rfl)
      unfold eB
      go_wp2
      go_ret2
      refine ⟨r4, .slice none 0 0, [], by rw [HF.out]; rfl, ?_, by have := hr4.out; omega, OwnI.nil _ _, (fun b hb => by cases hb), K4.out, (fun h => by rw [HF.out] at h; cases h), fun _ => rfl⟩
      have := A4.out.less (S := SB S (.slice none 0 0)) (fun b hb => hb.elim id (fun c => by cases c)) (fun b hb => .inl (HB.out b hb))
      rw [List.append_assoc] at this
      exact this
    · obtain rfl : l = [] := List.eq_nil_of_length_eq_zero (by omega)
      have HF : Shut (chB start [] = true) := Shut.mk rfl
      clear hlt
      go_wp2
      go_ret2
      refine ⟨[], .slice none 0 0, [], by rw [HF.out]; rfl, ?_, Nat.zero_le _, OwnI.nil _ _, (fun b hb => by cases hb), Keep.refl S _, (fun _ => ⟨rfl, fun k hk => by simp at hk⟩), fun _ => rfl⟩
      rw [List.append_nil]
      exact HA.out.less (fun b hb => hb.elim id (fun c => by cases c)) (fun b hb => .inl (HB.out b hb))
theorem PChain_any {w0 : World} {S : Nat → Prop} {w : World} {p v : Value} {r : List Nd} {start : Int} {l : List Msg} (h : At w0 S w p (atomsL 10 ++ r)) (hv : ∀ W, Keep S w W → RdMs W v l) (near : ∀ m ∈ l, Near 10 m.l) (im : ∀ m ∈ l, I64 m.content ∧ I64 m.sig ∧ I64 m.secret) (ns : Near 10 [start]) (is : I64 start) (hl : l.length ≤ 40) (hr : r.length ≤ 1000) :
    Calls Tryd.prog 30 #[p, .int .i64 start, v] w (ChainPost w0 S w p r start l) := by
  cases hs : tB [start] with
  | true => exact PChain_ok h hv near im hs hl hr
  | false => exact PChain_no h hv im hs ns is hl hr
end Go.Proofs.YtdjfdobcjakmhaaDoor
end

section
/- The walk of TranscriptGoes. -/
set_option linter.unusedSimpArgs false
set_option linter.unusedVariables false
namespace Go.Proofs.YtdjfdobcjakmhaaDoor
open Go.RowKit Go.Maps

theorem RdMs.pre' {w : World} {va : Option Addr} {n c : Nat} {l : List Msg} (h : RdMs w (.slice va n c) l) (k : Nat) (hk : k ≤ l.length) : RdMs w (.slice va k c) (l.take k) := by
  obtain ⟨a, cap, hv, hl, hc, hm, hno, hcell⟩ := h
  simp only [Value.slice.injEq] at hv
  obtain ⟨rfl, _, rfl⟩ := hv
  have hlen : (l.take k).length = k := by rw [List.length_take]; omega
  unfold RdMs
  rw [hlen]
  refine ⟨_, _, rfl, by rw [mflat_length, hlen], by omega, hm, hno, fun ad had j u hj => hcell ad had j u ?_⟩
  have e : mflat l = mflat (l.take k) ++ mflat (l.drop k) := by rw [← mflat_append, List.take_append_drop]
  rw [e, List.getElem?_append_left (List.getElem?_eq_some_iff.1 hj).1]
  exact hj
theorem RdI.pre' {w : World} {va : Option Addr} {n c : Nat} {us : List Int} (h : RdI w (.slice va n c) us) (k : Nat) (hk : k ≤ us.length) : RdI w (.slice va k c) (us.take k) := by
  cases va with
  | none =>
    obtain ⟨a, cap, hv, hl, hc, hm, hno, hcell⟩ := h
    simp only [Value.slice.injEq] at hv
    obtain ⟨rfl, hn, rfl⟩ := hv
    have h0 := hno rfl
    have e : us = [] := List.eq_nil_of_length_eq_zero (by omega)
    subst e
    obtain rfl : k = 0 := by simpa using hk
    exact ⟨none, c, rfl, rfl, by simp, hm, hno, fun _ hh => by cases hh⟩
  | some ad =>
    obtain ⟨a, cap, hv, hl, hc, hm, hno, hcell⟩ := h
    simp only [Value.slice.injEq] at hv
    obtain ⟨rfl, hn, rfl⟩ := hv
    have hlen : (us.take k).length = k := by rw [List.length_take]; omega
    unfold RdI
    rw [hlen]
    refine ⟨_, _, rfl, ?_, ?_, hm, hno, fun ad had j u hj => hcell ad had j u ?_⟩
    · simp; omega
    · omega
    · rw [List.map_take] at hj
      have := (List.getElem?_eq_some_iff.1 hj).1
      rw [List.getElem?_take] at hj
      split at hj
      · exact hj
      · cases hj
theorem cyc_at (k : Int) (n : Nat) (hn : n ≤ 40) : ∃ m : Nat, m ≤ n ∧ (wrap64 (wrap64 (k.tmod ((n : Int) + 1) + (n : Int)) + 1)).tmod ((n : Int) + 1) = (m : Int) := by
  have h1 : k.tmod ((n : Int) + 1) < (n : Int) + 1 := Int.tmod_lt_of_pos _ (by omega)
  have h2 : -((n : Int) + 1) < k.tmod ((n : Int) + 1) := by
    have := Int.lt_tmod_of_pos k (show (0 : Int) < (n : Int) + 1 by omega)
    omega
  generalize k.tmod ((n : Int) + 1) = t at *
  have w1 : wrap64 (t + (n : Int)) = t + (n : Int) := (by unfold wrap64; omega)
  have w2 : wrap64 (t + (n : Int) + 1) = t + (n : Int) + 1 := (by unfold wrap64; omega)
  rw [w1, w2]
  have h3 : (0 : Int) ≤ (t + (n : Int) + 1).tmod ((n : Int) + 1) := Int.tmod_nonneg _ (by omega)
  have h4 : (t + (n : Int) + 1).tmod ((n : Int) + 1) < (n : Int) + 1 := Int.tmod_lt_of_pos _ (by omega)
  exact ⟨((t + (n : Int) + 1).tmod ((n : Int) + 1)).toNat, by omega, by omega⟩
theorem chB_take {start : Int} {l : List Msg} (h : chB start l = true) (k : Nat) : chB start (l.take k) = true := by
  unfold chB at h ⊢
  rw [Bool.or_eq_true] at h ⊢
  rcases h with h | h
  · left
    rw [List.isEmpty_iff] at h ⊢
    rw [h, List.take_nil]
  · right
    rw [Bool.and_eq_true] at h ⊢
    refine ⟨h.1, ?_⟩
    rw [List.all_eq_true] at *
    exact fun m hm => h.2 m (List.mem_of_mem_take hm)
/-- One chain's hashes: each is greater than those ahead. -/
theorem chain_fresh {es : List Nd} (hg : Good es) {start : Int} {l : List Msg} {xs : List Int} (hx : xs.length = l.length) (hd : ∀ k, k < l.length → Den (cfT atomT (atomT start) l k) es (xs.getD k 0)) {i : Nat} (hi : i < xs.length) : xs.getD i 0 ∉ xs.take i := by
  have h1 : ∀ k, k + 1 < xs.length → xs.getD k 0 < xs.getD (k + 1) 0 := fun k hk => cf_rise hg (hd k (by omega)) (hd (k + 1) (by omega))
  intro hm
  obtain ⟨j, hj, he⟩ := List.getElem_of_mem hm
  have hjl : j < xs.length ∧ j < i := by rw [List.length_take] at hj; omega
  have h2 := rises h1 (i - j - 1) j (by omega)
  have e : j + (i - j - 1) + 1 = i := by omega
  rw [e] at h2
  rw [List.getElem_take] at he
  have e2 : xs.getD j 0 = xs[j] := by rw [List.getD_eq_getElem?_getD, List.getElem?_eq_getElem hjl.1]; rfl
  rw [e2, he] at h2
  omega
/-- A chain's beginning. -/
theorem chain_pre {es : List Nd} (hg : Good es) {start : Int} {l : List Msg} {xs ys : List Int} {n : Nat} (hn : n ≤ l.length) (hx : xs.length = l.length) (hy : ys.length = (l.take n).length) (hd : ∀ k, k < l.length → Den (cfT atomT (atomT start) l k) es (xs.getD k 0))
    (he : ∀ k, k < (l.take n).length → Den (cfT atomT (atomT start) (l.take n) k) es (ys.getD k 0)) : ys = xs.take n := by
  have hl : (l.take n).length = n := by rw [List.length_take]; omega
  apply List.ext_getElem
  · rw [hy, hl, List.length_take]; omega
  · intro j h1 h2
    have hj : j < n := by omega
    have a1 := he j (by omega)
    rw [cfT_take hj hn] at a1
    have a2 := a1.same hg (hd j (by omega))
    have e1 : ys.getD j 0 = ys[j] := by rw [List.getD_eq_getElem?_getD, List.getElem?_eq_getElem h1]; rfl
    have e2 : xs.getD j 0 = xs[j]'(by omega) := by rw [List.getD_eq_getElem?_getD, List.getElem?_eq_getElem (by omega)]; rfl
    rw [List.getElem_take, ← e1, ← e2]
    exact a2
set_option maxHeartbeats 16000000 in
set_option maxRecDepth 100000 in
theorem goes12_walk {w : World} {start : Int} (is : I64 start) {v : Value} {l : List Msg} (hv : RdMs w v l) (im : ∀ m ∈ l, I64 m.content ∧ I64 m.sig ∧ I64 m.secret) {k : Int} (ik : I64 k) (ht : Tabs w) (hte : TabsE w) :
    Calls Tryd.prog 7 #[.int .i64 start, v, .int .i64 k] w fun e w' => e = .returned (.bool true) ∧ Kept w w' := by
  have HT := Lib.hid ht
  have HTE := Lib.hid hte
  have HV := Lib.hid hv
  have IM := Shut.mk im
  have IS := Shut.mk is
  have IK := Shut.mk ik
  obtain ⟨va, vc, rfl, v1, v2, v3⟩ := hv.len
  have l63 : ((l.length : Nat) : Int) ≤ 9223372036854775807 := by unfold maxLen at v2; omega
  clear ht hte hv im is ik v1
  by_cases h40 : l.length ≤ 40
  · have d40 : decide ((40 : Int) < (l.length : Int)) = false := decide_eq_false (by omega)
    have d40' : ¬ (40 : Int) < (l.length : Int) := by omega
    have d40'' : ¬ (l.length : Int) > 40 := by omega
    have H40 := Shut.mk h40
    clear h40
    go_enter Tryd.func7, Tryd.ntmps7
    go_wp2_with fail
    (with_reducible refine (live12_any HT.out HTE.out).mono ?_); rintro e w1 ⟨rfl, k1⟩
    have ks : Kept w1 (w1.alloc (.cells #[.int .i64 start] 3)) := (Kept.refl w1).alloc _
    have HB := Lib.hid (beyond_any (RdI.sl1 w1 start) 10)
    go_wp2_with fail
    generalize w1.alloc (.cells #[.int .i64 start] 3) = w1' at *
    (with_reducible refine HB.out.mono ?_); rintro e w2 ⟨b1, rfl, hb1, k2⟩
    have K2 := Lib.hid ((k1.trans ks).trans k2)
    clear HB k1 ks k2
    cases b1 with
    | true =>
      clear hb1
      go_wp2
      go_ret
      exact ⟨rfl, K2.out⟩
    | false =>
      have NS := Shut.mk (hb1 rfl)
      clear hb1
      go_wp2
      go_loopw [29] (fun i wr => ∃ j : Nat, j ≤ l.length ∧ i = .int .i64 j ∧ (∀ q, q < j → Near 10 (l.getD q msg0).l) ∧ Kept w wr) (fun i _ => l.length - (intOf i).toNat)
      case atStart => exact ⟨0, Nat.zero_le _, rfl, (fun q hq => absurd hq (Nat.not_lt_zero _)), K2.out⟩
      case round =>
        obtain ⟨j, hj, rfl, hnr, hkw⟩ := hrel
        have HNR := Shut.mk hnr
        have HKW := Lib.hid hkw
        clear hnr hkw
        by_cases hlt : j < l.length
        · obtain ⟨gb, go, gc, hve, hrow⟩ := (HV.out.kept HKW.out).at hlt
          simp only [Value.slice.injEq] at hve
          obtain ⟨rfl, _, rfl⟩ := hve
          obtain ⟨m, hmm⟩ : ∃ m, m = l.getD j msg0 := ⟨_, rfl⟩
          rw [← hmm] at hrow
          have HM := Shut.mk hmm
          clear hmm
          obtain ⟨x0, x1, x2⟩ := RdMs.cells hrow
          obtain ⟨mc, mg, mk⟩ := m
          simp only at x0 x1 x2
          have bm := Blk.new wr [.int .i64 mc, .int .i64 mg, .int .i64 mk] 50
          have km : Kept wr (wr.alloc (.cells #[.int .i64 mc, .int .i64 mg, .int .i64 mk] 50)) := (Kept.refl wr).alloc _
          have HB := Lib.hid (beyond_any (rdi_arr bm) 10)
          clear hrow
          go_wp2_with fail
          (with_reducible refine HB.out.mono ?_); rintro e w4 ⟨b4, rfl, hb4, k4⟩
          have K4 := Lib.hid ((HKW.out.trans km).trans k4)
          clear HB km k4 bm x0 x1 x2
          cases b4 with
          | true =>
            clear hb4
            go_wp2
            go_ret
            exact ⟨rfl, K4.out⟩
          | false =>
            have N4 := Shut.mk (hb4 rfl)
            clear hb4
            go_wp2
            go_roundw
            case rel => exact ⟨j + 1, hlt, by go_num, fun q hq => by
              by_cases c : q < j
              · exact HNR.out q c
              · obtain rfl : q = j := by omega
                rw [← HM.out]; exact N4.out, K4.out⟩
            case measure => simp [intOf]; omega
        · have NR := Shut.mk (show ∀ m ∈ l, Near 10 m.l from fun m hm => by
            obtain ⟨q, hq, rfl⟩ := List.getElem_of_mem hm
            have := HNR.out q (by omega)
            rwa [List.getD_eq_getElem?_getD, List.getElem?_eq_getElem hq] at this)
          clear HNR
          go_wp2_with fail
          have HTr := Lib.hid (HT.out.kept HKW.out)
          (with_reducible refine (two12_any HTr.out).mono ?_); rintro e w4 ⟨p, q, pa, rfl, rfl, F, G, hA, hR, hFG, hF, hG, k4⟩
          have a4' := At.mkA hA hF k4 HTr.out
          have A4 : At wr (fun b => b < wr.heap.size) w4 (.pointer (some pa)) (atomsL 10 ++ []) := by rw [List.append_nil]; exact a4'
          have HVK := Lib.hid (fun W (kk : Keep (fun b => b < wr.heap.size) w4 W) => HV.out.kept (Keep.of (HKW.out.trans k4) kk (fun b hb => Nat.lt_of_lt_of_le hb HKW.out.size)))
          have HC1 := Lib.hid (PChain_any A4 HVK.out NR.out IM.out NS.out IS.out H40.out (by simp))
          have HSB := Shut.mk (show ∀ b, b < w.heap.size → b < wr.heap.size from fun b hb => Nat.lt_of_lt_of_le hb HKW.out.size)
          have HKK := Lib.hid (HKW.out.trans k4)
          clear hA hR hFG hF hG k4 a4' A4 HKW HTr
          have HSS : Shut (∀ b, b < w.heap.size → (fun b => b < wr.heap.size) b) := HSB
          clear HSB
          generalize (fun b => b < wr.heap.size : Nat → Prop) = S at *
          go_wp2_with fail
          (with_reducible refine HC1.out.mono ?_); rintro e w5 ⟨s, v5, xs, rfl, a5, hs5, o5, bl5, k5, ht5, hf5⟩
          have A5 := Lib.hid a5
          have HKe := Lib.hid k5
          obtain ⟨xa, xc, rfl, x1, x2, x3⟩ := (OwnI.rd o5).len
          have O5 := Lib.hid o5
          have B5 := Shut.mk bl5
          have S5 := Shut.mk hs5
          have T5 := Shut.mk ht5
          have F5 := Shut.mk hf5
          have KF := Lib.hid (Keep.of HKK.out k5 (fun b hb => HSS.out b hb))
          clear a5 k5 o5 bl5 hs5 ht5 hf5 HC1
          cases hcb : chB start l with
          | false =>
            obtain rfl := F5.out hcb
            clear F5 T5
            unfold eB
            go_wp2
            go_ret
            exact ⟨rfl, KF.out⟩
          | true =>
            have C5 := Shut.mk hcb
            have X5 := Shut.mk (T5.out hcb)
            clear F5 T5 hcb
            obtain ⟨kk, hkk, hE⟩ := cyc_at k l.length H40.out
            have HE := Shut.mk hE
            have HKN := Shut.mk hkk
            clear hE hkk
            unfold eB
            go_upto_region 15 with fail
            rw [HE.out]
            have kk0 : (0 : Int) ≤ (kk : Int) := by omega
            obtain ⟨va', vc', hva, hvb, hvc, _⟩ := HV.out.len
            simp only [Value.slice.injEq] at hva
            obtain ⟨rfl, _, rfl⟩ := hva
            have kk1 : (kk : Int) ≤ (vc : Int) := by have := HKN.out; omega
            clear hvb hvc HE
            have HVP := Lib.hid (fun W (kk' : Keep (SB S (.slice xa xs.length xc)) w5 W) => RdMs.pre' (HV.out.kept (Keep.of KF.out kk' (fun b hb => .inl (HSS.out b hb)))) kk HKN.out)
            have A5' : At wr (SB S (.slice xa xs.length xc)) w5 (.pointer (some pa)) (atomsL 10 ++ ([] ++ s)) := A5.out
            have HC2 := Lib.hid (PChain_any A5' HVP.out (fun m hm => NR.out m (List.mem_of_mem_take hm)) (fun m hm => IM.out m (List.mem_of_mem_take hm)) NS.out IS.out (by rw [List.length_take]; have := H40.out; omega) (by rw [List.nil_append]; have := S5.out; have := H40.out; omega))
            clear A5'
            go_wp2_with fail
            (with_reducible refine HC2.out.mono ?_); rintro e w6 ⟨s2, v6, ys, rfl, a6, hs6, o6, bl6, k6, ht6, hf6⟩
            rw [chB_take C5.out kk]
            have Y6 := ht6 (chB_take C5.out kk)
            have hg := a6.good
            have hxl := X5.out.1
            have hd : ∀ q, q < l.length → Den (cfT atomT (atomT start) l q) (atomsL 10 ++ ([] ++ s ++ s2)) (xs.getD q 0) := fun q hq => by
              have := (X5.out.2 q hq).more s2
              rw [List.append_assoc] at this
              exact this
            have hyx : ys = xs.take kk := chain_pre hg HKN.out hxl Y6.1 hd Y6.2
            have HFr := Shut.mk (fun i (hi : i < xs.length) => chain_fresh hg hxl hd hi)
            have HI64 := Shut.mk (fun i (hi : i < xs.length) => (hd i (by omega)).1.i64' a6.few)
            have O6 := Lib.hid (k6.owni O5.out (fun b hb => .inr hb))
            have HSa := Lib.hid (sameInts_any (OwnI.rd o6) (RdI.pre' (OwnI.rd O6.out) kk (by rw [hxl]; exact HKN.out)))
            rw [decide_eq_true hyx] at HSa
            have KF6 := Lib.hid (Keep.of KF.out k6 (fun b hb => .inl (HSS.out b hb)))
            have HXL := Shut.mk hxl
            have hne : ((xs.length : Int) != (l.length : Int)) = false := by rw [hxl]; simp
            have kx1 : (kk : Int) ≤ (xc : Int) := by have := HKN.out; omega
            obtain ⟨ya, yc, rfl, _, _, _⟩ := (OwnI.rd o6).len
            clear hyx hd hg Y6 ht6 hf6 bl6 hs6 a6 o6 HC2 HVP A5 HKe B5 S5 X5 k6
            clear hxl
            generalize ys.length = yn at *
            go_wp2_with fail
            (with_reducible refine HSa.out.mono ?_); rintro e w7 ⟨rfl, k7⟩
            have O7 := Lib.hid ((OwnI.rd O6.out).kept k7)
            have KF7 := Lib.hid (KF6.out.trans k7)
            have x63 : ((xs.length : Nat) : Int) ≤ 9223372036854775807 := by have := H40.out; have := HXL.out; omega
            clear HSa k7 O6 KF6
            go_wp2
            go_loopw [97] (fun i wr' => ∃ j : Nat, j ≤ xs.length ∧ i = .int .i64 j ∧ Kept w7 wr') (fun i _ => xs.length - (intOf i).toNat)
            case atStart => exact ⟨0, Nat.zero_le _, rfl, Kept.refl _⟩
            case round =>
              obtain ⟨i, hi, rfl, hkw⟩ := hrel
              by_cases hix : i < xs.length
              · obtain ⟨rb, ro, rc, hrv, _, _, hrb, hcl⟩ := (O7.out.kept hkw).addr (by omega)
                simp only [Value.slice.injEq] at hrv
                obtain ⟨rfl, _, rfl⟩ := hrv
                have hcw := hcl i hix
                clear hcl
                have HF := HFr.out i hix
                have HIn := Lib.hid (fun W (kk : Kept wr W) => inR_any ((RdI.pre' (O7.out.kept hkw) i (by omega)).kept kk) (HI64.out i hix))
                rw [decide_eq_false HF] at HIn
                have i0 : (0 : Int) ≤ (i : Int) := by omega
                have i1 : (i : Int) < (xs.length : Int) := by omega
                have i2 : (i : Int) ≤ (xc : Int) := by omega
                have HIX := Shut.mk hix
                clear HF hix
                generalize xs.getD i 0 = x at *
                have hq := fun (n : Nat) => Calls.quiet_of_same ((HIn.out (wr.drewN n) ((Kept.refl wr).drewN n)).mono fun e w' ⟨x, y⟩ => ⟨x, y.symm⟩)
                go_upto_region 21 with fail
                go_quiet ((go_at_call 32; exact hq _))
                go_wp2
                go_roundw
                case rel => exact ⟨i + 1, HIX.out, by go_num, hkw.drewN _⟩
                case measure => have := HIX.out; simp [intOf]; omega
              · have KK := Shut.mk (KF7.out.trans hkw)
                go_wp2
                go_ret
                exact ⟨rfl, KK.out⟩
  · have d40 : decide ((40 : Int) < (l.length : Int)) = true := decide_eq_true (by omega)
    have d40' : (40 : Int) < (l.length : Int) := by omega
    clear h40
    go_enter Tryd.func7, Tryd.ntmps7
    go_wp2_with fail
    (with_reducible refine (live12_any HT.out HTE.out).mono ?_); rintro e w1 ⟨rfl, k1⟩
    go_wp2
    go_ret
    exact ⟨rfl, k1⟩
end Go.Proofs.YtdjfdobcjakmhaaDoor
end
