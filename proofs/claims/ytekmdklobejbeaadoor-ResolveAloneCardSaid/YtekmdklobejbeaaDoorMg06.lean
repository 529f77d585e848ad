/- Texts of one proof, put together: RsE0, RsF, RsG, RsB, MthW, RsD0, RsD, RsE, RsT. -/
import Derived.Test.YtekmdklobejbeaaDoorMg05
import Derived.Test.YtekmdklobejbeaaDoorMg03
import Derived.Test.YtekmdklobejbeaaDoorMg02
section
/- Walks of the program's resolve: leaves, isLeaf, isNode, holds, Resolution, Holds, Mine. -/
set_option linter.unusedSimpArgs false
set_option linter.unusedVariables false
namespace Go.Proofs.YtekmdklobejbeaaDoor
open Go.RowKit
open Rt

theorem pleaves8_any {w : World} {v : Value} {t : List TN} (h : RdTs w v t) (hl : t.length ≤ 1000000) : Calls Tryd.prog 27 #[v] w fun e w' => e = .returned (.int .i64 (((t.length + 1) / 2 : Nat) : Int)) ∧ w = w' := by
  obtain ⟨ta, tc, rfl, l1, l2, l3⟩ := h.len
  have l63 : ((t.length : Nat) : Int) ≤ 1000000 := by omega
  go_enter Tryd.func27, Tryd.ntmps27
  go_wp2
  go_ret
  exact ⟨rfl, rfl⟩
def islB (t : List TN) (i : Int) : Bool := decide (0 ≤ i) && decide (i < (((t.length + 1) / 2 : Nat) : Int))
def isnB (t : List TN) (x : Int) : Bool := decide (0 ≤ x) && decide (x < (t.length : Int))
theorem pisLeaf_any {w : World} {v : Value} {t : List TN} (h : RdTs w v t) (hl : t.length ≤ 1000000) (i : Int) (hi : I64 i) :
    Calls Tryd.prog 25 #[v, .int .i64 i] w fun e w' => e = .returned (.bool (islB t i)) ∧ Kept w w' := by
  have HV := Lib.hid (fun W (k : Kept w W) => pleaves8_any (h.kept k) hl)
  have HR := Shut.mk (show islB t i = (decide (0 ≤ i) && decide (i < (((t.length + 1) / 2 : Nat) : Int))) from rfl)
  obtain ⟨ta, tc, rfl, l1, l2, l3⟩ := h.len
  generalize ((t.length + 1) / 2 : Nat) = n at HV HR
  by_cases h0 : 0 ≤ i
  · have HF := Shut.mk (show islB t i = decide (i < (n : Int)) by rw [HR.out, decide_eq_true h0]; rfl)
    generalize hq : decide (i < (n : Int)) = q at HF
    go_enter Tryd.func25, Tryd.ntmps25
    go_wp2_with (go_at_call 27; refine (HV.out _ (by first | exact Kept.refl _ | exact (Kept.refl _).drew | exact (Kept.refl _).drewN _)).mono ?_; rintro e w1 ⟨rfl, rfl⟩)
    go_ret
    exact ⟨by rw [HF.out]; rfl, by first | exact Kept.refl _ | exact (Kept.refl _).drew | exact (Kept.refl _).drewN _⟩
  · have HF := Shut.mk (show islB t i = false by rw [HR.out, decide_eq_false h0]; rfl)
    go_enter Tryd.func25, Tryd.ntmps25
    go_wp2
    go_ret
    exact ⟨by rw [HF.out]; rfl, by first | exact Kept.refl _ | exact (Kept.refl _).drew | exact (Kept.refl _).drewN _⟩
theorem pisNode_any {w : World} {v : Value} {t : List TN} (h : RdTs w v t) (x : Int) (hx : I64 x) :
    Calls Tryd.prog 20 #[v, .int .i64 x] w fun e w' => e = .returned (.bool (isnB t x)) ∧ Kept w w' := by
  have HR := Shut.mk (show isnB t x = (decide (0 ≤ x) && decide (x < (t.length : Int))) from rfl)
  obtain ⟨ta, tc, rfl, l1, l2, l3⟩ := h.len
  generalize t.length = n at *
  by_cases h0 : 0 ≤ x
  · have HF := Shut.mk (show isnB t x = decide (x < (n : Int)) by rw [HR.out, decide_eq_true h0]; rfl)
    generalize hq : decide (x < (n : Int)) = q at HF
    go_enter Tryd.func20, Tryd.ntmps20
    go_wp2
    go_ret
    exact ⟨by rw [HF.out]; rfl, by first | exact Kept.refl _ | exact (Kept.refl _).drew | exact (Kept.refl _).drewN _⟩
  · have HF := Shut.mk (show isnB t x = false by rw [HR.out, decide_eq_false h0]; rfl)
    go_enter Tryd.func20, Tryd.ntmps20
    go_wp2
    go_ret
    exact ⟨by rw [HF.out]; rfl, by first | exact Kept.refl _ | exact (Kept.refl _).drew | exact (Kept.refl _).drewN _⟩
set_option maxHeartbeats 8000000 in
set_option maxRecDepth 100000 in
theorem pholds_any {w : World} {tv : Value} {t : List TN} {n i x : Nat} (m : MayN t n) (hin : i < n) (hx : x < 2 * n - 1) (ht : RdTs w tv t) (hT : Tabs w) :
    Calls Tryd.prog 35 #[tv, .int .i64 (i : Int), .int .i64 (x : Int)] w fun e w' => e = .returned (.bool (holdB t i x)) ∧ Kept w w' := by
  have hlen := m.len
  have hb := fulls_bd m.hn
  have HLk := Shut.mk (show (nd t (2 * i)).kd ≠ 0 → lk t i = true from fun h => decide_eq_true (m.leaf _ (by omega) h (by omega)).1)
  have HR := Shut.mk (show holdB t i x = (lk t i && ((nd t x).kd != 0) && Mth.hasB x i && !decide ((i : Int) ∈ (nd t x).un)) from rfl)
  have HLv := Lib.hid (fun W (k : Kept w W) => Leaves_any (x : Int) W ⟨by omega, by omega⟩ (hT.kept k))
  rw [in_any (show x < 511 by omega)] at HLv
  have HLv : Hid (∀ W, Kept w W → Calls Tryd.prog 61 #[.int .i64 (x : Int)] W fun e w' => e = .returned (.tuple #[.int .i64 (Mth.lo x : Nat), .int .i64 (Mth.hi x : Nat), .int .i64 0]) ∧ Kept W w') := HLv
  have HLk0 := Shut.mk (show (nd t (2 * i)).kd = 0 → lk t i = false from fun h => by unfold lk; rw [h]; rfl)
  obtain ⟨tb, to, tc, la, lc, htv, hat, hun⟩ := ht.at (k := x) (by omega)
  obtain ⟨tb2, to2, tc2, la2, lc2, htv2, hat2, hun2⟩ := ht.at (k := 2 * i) (by omega)
  rw [htv] at htv2
  simp only [Value.slice.injEq, Option.some.injEq, Addr.mk.injEq] at htv2
  obtain ⟨⟨rfl, rfl, -⟩, -, rfl⟩ := htv2
  subst htv
  obtain ⟨g0, g1, g2, g3, g4, g5⟩ := hat w (Kept.refl w)
  obtain ⟨p0, p1, p2, p3, p4, p5⟩ := hat2 w (Kept.refl w)
  have HG5 := Lib.hid (fun W (k : Kept w W) => (hat W k).2.2.2.2.2)
  have HCo := Lib.hid (fun W (k : Kept w W) => containsI_any (hun.kept k) (n := (i : Int)) ⟨by omega, by omega⟩)
  have hwr : IntKind.i64.wrap (2 * (i : Int)) = 2 * (i : Int) := IntWalk.i64_in _ (by omega)
  have i0 : (0 : Int) ≤ (i : Int) := by omega
  have x0 : (0 : Int) ≤ (x : Int) := by omega
  have x1 : (x : Int) < (t.length : Int) := by omega
  have j0 : (0 : Int) ≤ 2 * (i : Int) := by omega
  have j1 : 2 * (i : Int) < (t.length : Int) := by omega
  have j2 : (2 * (i : Int)).toNat = 2 * i := by omega
  have hi256 : (i : Int) ≤ 256 := by omega
  have HH := Shut.mk (Mth.hasB_iff (y := x) (i := i))
  generalize Mth.hasB x i = hb' at HR HH
  generalize Mth.lo x = a at HLv HH
  generalize Mth.hi x = b at HLv HH
  generalize holdB t i x = out at HR ⊢
  generalize hkd2 : (nd t (2 * i)).kd = kd2 at p0 HLk HLk0
  generalize hkd : (nd t x).kd = kd at g0 HR
  generalize (nd t x).un.length = ul at *
  generalize hco : decide ((i : Int) ∈ (nd t x).un) = co at HCo HR
  generalize lk t i = lki at HR HLk HLk0
  clear hkd2 hkd hco hat hat2 hun hun2 g1 g2 g3 g4 p1 p2 p3 p4 p5 hlen hin hx m ht hT
  by_cases e1 : kd2 = 0
  · have hq : (kd2 == 0) = true := by rw [beq_iff_eq]; exact e1
    have HF := Shut.mk (show out = false by rw [HR.out, HLk0.out e1]; rfl)
    clear e1
    go_enter Tryd.func35, Tryd.ntmps35
    go_wp2
    go_ret
    exact ⟨by rw [HF.out]; rfl, by first | exact Kept.refl _ | exact (Kept.refl _).drew | exact (Kept.refl _).drewN _⟩
  · have hq : (kd2 == 0) = false := by rw [beq_eq_false_iff_ne]; exact e1
    have HR1 := Shut.mk (HR.out.trans (by rw [HLk.out e1]; rfl : _ = ((kd != 0) && hb' && !co)))
    clear e1 HLk HLk0 HR
    by_cases e2 : kd = 0
    · have hq2 : (kd == 0) = true := by rw [beq_iff_eq]; exact e2
      have HF := Shut.mk (show out = false by rw [HR1.out, e2]; rfl)
      clear e2
      go_enter Tryd.func35, Tryd.ntmps35
      go_wp2
      go_ret
      exact ⟨by rw [HF.out]; rfl, by first | exact Kept.refl _ | exact (Kept.refl _).drew | exact (Kept.refl _).drewN _⟩
    · have hq2 : (kd == 0) = false := by rw [beq_eq_false_iff_ne]; exact e2
      have HR2 := Shut.mk (HR1.out.trans (by rw [show (kd != 0) = true by rw [bne_iff_ne]; exact e2]; rfl : _ = (hb' && !co)))
      clear e2 HR1
      by_cases c1 : (a : Int) ≤ (i : Int)
      · by_cases c2 : (i : Int) < (b : Int)
        · have HF := Shut.mk (show out = !co by rw [HR2.out, HH.out.2 ⟨by omega, by omega⟩]; rfl)
          go_enter Tryd.func35, Tryd.ntmps35
          go_wp2_with fail
          (with_reducible refine (HLv.out _ (by first | exact Kept.refl _ | exact (Kept.refl _).drew | exact (Kept.refl _).drewN _)).mono ?_); rintro e w1 ⟨rfl, k1⟩
          have g5' := HG5.out _ k1
          go_wp2_with fail
          (with_reducible refine (HCo.out _ k1).mono ?_); rintro e w2 ⟨rfl, k2⟩
          go_wp2
          go_ret
          exact ⟨by rw [HF.out]; rfl, k1.trans k2⟩
        · have HF := Shut.mk (show out = false by rw [HR2.out, not_true (b := hb') (fun h => by have := HH.out.1 h; omega)]; rfl)
          go_enter Tryd.func35, Tryd.ntmps35
          go_wp2_with fail
          (with_reducible refine (HLv.out _ (by first | exact Kept.refl _ | exact (Kept.refl _).drew | exact (Kept.refl _).drewN _)).mono ?_); rintro e w1 ⟨rfl, k1⟩
          go_wp2
          go_ret
          exact ⟨by rw [HF.out]; rfl, by first | exact k1 | exact k1.drew | exact k1.drewN _⟩
      · have HF := Shut.mk (show out = false by rw [HR2.out, not_true (b := hb') (fun h => by have := HH.out.1 h; omega)]; rfl)
        go_enter Tryd.func35, Tryd.ntmps35
        go_wp2_with fail
        (with_reducible refine (HLv.out _ (by first | exact Kept.refl _ | exact (Kept.refl _).drew | exact (Kept.refl _).drewN _)).mono ?_); rintro e w1 ⟨rfl, k1⟩
        go_wp2
        go_ret
        exact ⟨by rw [HF.out]; rfl, by first | exact k1 | exact k1.drew | exact k1.drewN _⟩
end Go.Proofs.YtekmdklobejbeaaDoor
end

section
/- Walks of the program's resolve: Resolution, Holds, Mine. -/
set_option linter.unusedSimpArgs false
set_option linter.unusedVariables false
namespace Go.Proofs.YtekmdklobejbeaaDoor
open Go.RowKit
open Rt

theorem okN_eq (t : List TN) (x : Int) : okN t x = (chkB t && isnB t x) := rfl
set_option maxHeartbeats 4000000 in
theorem PResolution_any {w : World} {tv : Value} {t : List TN} (ht : RdTs w tv t) (hok : ∀ d ∈ t, TnOk d) (hl : t.length ≤ 1000000) (hun : ∀ d ∈ t, d.un.length ≤ 1000) (hT : Tabs w) (x : Int) (hx : I64 x) :
    Calls Tryd.prog 8 #[tv, .int .i64 x] w (OwnPost w (okN t x) (res t x.toNat)) := by
  have HN := Lib.hid (pisNode_any ht x hx)
  have HC := Lib.hid (fun W (k : Kept w W) => pcheck_any (ht.kept k) hok hl hun (hT.kept k))
  have HO := Shut.mk (okN_eq t x)
  have HRs : Hid (okN t x = true → ∀ W, Kept w W → Calls Tryd.prog 22 #[tv, .int .i64 x] W (MemPost W (res t x.toNat))) := Lib.hid (fun h W q => by
    obtain ⟨k, rfl, hk⟩ := okN_nat h
    have m := chk_mayN (okN_iff.1 h).1
    exact presL_any m _ k rfl (by have := m.len; omega) W _ (ht.kept q) (hT.kept q))
  obtain ⟨ta, tc, rfl, _, _, _⟩ := ht.len
  cases hs : isnB t x with
  | false =>
    rw [hs] at HN
    have ho : okN t x = false := by rw [HO.out, hs, Bool.and_false]
    rw [ho]
    clear HO HC ho hs HRs
    go_enter Tryd.func8, Tryd.ntmps8
    go_wp2_with fail
    (with_reducible refine HN.out.mono ?_); rintro e w1 ⟨rfl, k1⟩
    go_wp2
    go_ret2
    exact ⟨_, rfl, OwnI.nil _ _, k1⟩
  | true =>
    rw [hs] at HN
    cases hc : chkB t with
    | false =>
      rw [hc] at HC
      have HC2 : Hid (∀ W, Kept w W → Calls Tryd.prog 21 #[.slice ta t.length tc] W fun e w' => e = .returned (.int .i64 1) ∧ Kept W w') := HC
      have ho : okN t x = false := by rw [HO.out, hc]; rfl
      rw [ho]
      clear HO HC ho hs hc HRs
      go_enter Tryd.func8, Tryd.ntmps8
      go_wp2_with fail
      (with_reducible refine HN.out.mono ?_); rintro e w1 ⟨rfl, k1⟩
      go_wp2_with fail
      (with_reducible refine (HC2.out _ k1).mono ?_); rintro e w2 ⟨rfl, q2⟩
      go_wp2
      go_ret2
      exact ⟨_, rfl, OwnI.nil _ _, k1.trans q2⟩
    | true =>
      rw [hc] at HC
      have HC2 : Hid (∀ W, Kept w W → Calls Tryd.prog 21 #[.slice ta t.length tc] W fun e w' => e = .returned (.int .i64 0) ∧ Kept W w') := HC
      have ho : okN t x = true := by rw [HO.out, hc, hs]; rfl
      have HR2 := Lib.hid (HRs.out ho)
      rw [ho]
      clear HO HC ho hs hc HRs
      generalize res t x.toNat = out at HR2 ⊢
      go_enter Tryd.func8, Tryd.ntmps8
      go_wp2_with fail
      (with_reducible refine HN.out.mono ?_); rintro e w1 ⟨rfl, k1⟩
      go_wp2_with fail
      (with_reducible refine (HC2.out _ k1).mono ?_); rintro e w2 ⟨rfl, q2⟩
      have k2 := k1.trans q2
      go_wp2_with fail
      (with_reducible refine (HR2.out _ k2).mono ?_); rintro e w3 ⟨v3, rfl, o3, q3⟩
      go_wp2
      go_ret2
      exact ⟨_, rfl, Ownv.mono o3 k2.size, k2.trans q3⟩
/-- A tree that may be, one of its leaves' numbers, one of its nodes. -/
structure AskOk (t : List TN) (i x : Nat) : Prop where
  chk : chkB t = true
  leaf : i < (t.length + 1) / 2
  node : x < t.length
theorem AskOk.may {t : List TN} {i x : Nat} (h : AskOk t i x) : MayN t ((t.length + 1) / 2) := chk_mayN h.chk
theorem AskOk.isl {t : List TN} {i x : Nat} (h : AskOk t i x) : islB t (i : Int) = true := by
  have := h.leaf
  unfold islB
  rw [decide_eq_true (by omega : (0 : Int) ≤ (i : Int)), decide_eq_true (by omega)]; rfl
theorem AskOk.isn {t : List TN} {i x : Nat} (h : AskOk t i x) : isnB t (x : Int) = true := by
  have := h.node
  unfold isnB
  rw [decide_eq_true (by omega : (0 : Int) ≤ (x : Int)), decide_eq_true (by omega)]; rfl
set_option maxHeartbeats 4000000 in
theorem PHolds_any {w : World} {tv : Value} {t : List TN} {i x : Nat} (h : AskOk t i x) (ht : RdTs w tv t) (hok : ∀ d ∈ t, TnOk d) (hl : t.length ≤ 1000000) (hun : ∀ d ∈ t, d.un.length ≤ 1000) (hT : Tabs w) :
    Calls Tryd.prog 15 #[tv, .int .i64 (i : Int), .int .i64 (x : Int)] w fun e w' => e = .returned (.tuple #[.bool (holdB t i x), .int .i64 0]) ∧ Kept w w' := by
  have m := h.may
  have hlen := m.len
  have hb := fulls_bd m.hn
  have h1 := h.leaf
  have h2 := h.node
  have HL := Lib.hid (pisLeaf_any ht hl (i : Int) ⟨by omega, by omega⟩)
  have HN := Lib.hid (fun W (k : Kept w W) => pisNode_any (ht.kept k) (x : Int) ⟨by omega, by omega⟩)
  have HC := Lib.hid (fun W (k : Kept w W) => pcheck_any (ht.kept k) hok hl hun (hT.kept k))
  have HH := Lib.hid (fun W (k : Kept w W) => pholds_any m h1 (show x < 2 * ((t.length + 1) / 2) - 1 by omega) (ht.kept k) (hT.kept k))
  rw [h.isl] at HL
  rw [h.isn] at HN
  rw [h.chk] at HC
  obtain ⟨ta, tc, rfl, _, _, _⟩ := ht.len
  have HC2 : Hid (∀ W, Kept w W → Calls Tryd.prog 21 #[.slice ta t.length tc] W fun e w' => e = .returned (.int .i64 0) ∧ Kept W w') := HC
  generalize holdB t i x = out at HH ⊢
  clear HC m hlen hb h1 h2 h hok hl hun
  go_enter Tryd.func15, Tryd.ntmps15
  go_wp2_with fail
  (with_reducible refine HL.out.mono ?_); rintro e w1 ⟨rfl, k1⟩
  go_wp2_with fail
  (with_reducible refine (HN.out _ k1).mono ?_); rintro e w2 ⟨rfl, q2⟩
  have k2 := k1.trans q2
  go_wp2_with fail
  (with_reducible refine (HC2.out _ k2).mono ?_); rintro e w3 ⟨rfl, q3⟩
  have k3 := k2.trans q3
  go_wp2_with fail
  (with_reducible refine (HH.out _ k3).mono ?_); rintro e w4 ⟨rfl, q4⟩
  go_wp2
  go_ret2
  exact ⟨rfl, k3.trans q4⟩
theorem mine_at {t : List TN} {i : Nat} : ∀ {l : List Int} {k : Nat}, (∀ j, j < k → holdI t i (l.getD j 0) = false) → k < l.length → holdI t i (l.getD k 0) = true → mineF t i l = l.getD k 0 ∧ l.any (holdI t i) = true
  | [], _, _, h, _ => by simp at h
  | y :: l, 0, _, _, h => by
    have h : holdI t i y = true := h
    refine ⟨?_, by rw [List.any_cons, h]; rfl⟩
    show (bif holdI t i y then y else mineF t i l) = y
    rw [h]; rfl
  | y :: l, k + 1, h0, h1, h2 => by
    have hy : holdI t i y = false := h0 0 (by omega)
    have ih := mine_at (l := l) (k := k) (fun j hj => h0 (j + 1) (by omega)) (by simpa using h1) h2
    refine ⟨?_, by rw [List.any_cons, hy]; exact ih.2⟩
    show (bif holdI t i y then y else mineF t i l) = l.getD k 0
    rw [hy]; exact ih.1
theorem mine_no {t : List TN} {i : Nat} {l : List Int} (h : ∀ j, j < l.length → holdI t i (l.getD j 0) = false) : l.any (holdI t i) = false := by
  refine not_true fun hc => ?_
  obtain ⟨y, hy, hp⟩ := List.any_eq_true.1 hc
  obtain ⟨j, hj, rfl⟩ := List.mem_iff_getElem.1 hy
  have := h j hj
  rw [List.getD_eq_getElem?_getD, List.getElem?_eq_getElem hj] at this
  rw [Option.getD_some] at this
  rw [this] at hp; cases hp
def MinePost (w : World) (b : Bool) (y : Int) (e : Ending) (w' : World) : Prop := e = .returned (.tuple #[.int .i64 (bif b then y else 0), .int .i64 (bif b then 0 else 4)]) ∧ Kept w w'
set_option maxHeartbeats 8000000 in
set_option maxRecDepth 100000 in
theorem PMine_any {w : World} {tv : Value} {t : List TN} {i x : Nat} (h : AskOk t i x) (ht : RdTs w tv t) (hok : ∀ d ∈ t, TnOk d) (hl : t.length ≤ 1000000) (hun : ∀ d ∈ t, d.un.length ≤ 1000) (hT : Tabs w) :
    Calls Tryd.prog 17 #[tv, .int .i64 (i : Int), .int .i64 (x : Int)] w (MinePost w ((res t x).any (holdI t i)) (mineF t i (res t x))) := by
  have m := h.may
  have hlen := m.len
  have hb := fulls_bd m.hn
  have h1 := h.leaf
  have h2 := h.node
  have HL := Lib.hid (pisLeaf_any ht hl (i : Int) ⟨by omega, by omega⟩)
  have HN := Lib.hid (fun W (k : Kept w W) => pisNode_any (ht.kept k) (x : Int) ⟨by omega, by omega⟩)
  have HC := Lib.hid (fun W (k : Kept w W) => pcheck_any (ht.kept k) hok hl hun (hT.kept k))
  have HRs := Lib.hid (fun W (k : Kept w W) => presL_any m _ x rfl (by omega) W _ (ht.kept k) (hT.kept k))
  have HH := Lib.hid (fun W (k : Kept w W) (z : Nat) (hz : z < 2 * ((t.length + 1) / 2) - 1) => pholds_any m h1 hz (ht.kept k) (hT.kept k))
  have HIn := Shut.mk (fun (y : Int) (hy : y ∈ res t x) => res_at m (show x < 2 * ((t.length + 1) / 2) - 1 by omega) hy)
  rw [h.isl] at HL
  rw [h.isn] at HN
  rw [h.chk] at HC
  obtain ⟨ta, tc, rfl, _, _, _⟩ := ht.len
  have HC2 : Hid (∀ W, Kept w W → Calls Tryd.prog 21 #[.slice ta t.length tc] W fun e w' => e = .returned (.int .i64 0) ∧ Kept W w') := HC
  have HMa := Shut.mk (fun k => mine_at (t := t) (i := i) (l := res t x) (k := k))
  have HMn := Shut.mk (mine_no (t := t) (i := i) (l := res t x))
  generalize (res t x).any (holdI t i) = bb at HMa HMn ⊢
  generalize mineF t i (res t x) = mm at HMa ⊢
  generalize res t x = l at *
  clear HC m hlen hb h1 h2 h hok hl hun
  go_enter Tryd.func17, Tryd.ntmps17
  go_wp2_with fail
  (with_reducible refine HL.out.mono ?_); rintro e w1 ⟨rfl, k1⟩
  go_wp2_with fail
  (with_reducible refine (HN.out _ k1).mono ?_); rintro e w2 ⟨rfl, q2⟩
  have k2 := k1.trans q2
  go_wp2_with fail
  (with_reducible refine (HC2.out _ k2).mono ?_); rintro e w3 ⟨rfl, q3⟩
  have k3 := k2.trans q3
  go_wp2_with fail
  (with_reducible refine (HRs.out _ k3).mono ?_); rintro e w4 ⟨v4, rfl, o4, q4⟩
  have k4 := k3.trans q4
  have r4 := OwnI.rd o4
  clear o4
  obtain ⟨a4, c4, rfl, _, m4, _⟩ := r4.len
  have l63 : ((l.length : Nat) : Int) ≤ 9223372036854775807 := by unfold maxLen at m4; omega
  go_wp2
  go_loopw [29] (fun c wr => ∃ k : Nat, k ≤ l.length ∧ c = .int .i64 k ∧ (∀ j, j < k → holdI t i (l.getD j 0) = false) ∧ Kept w4 wr) (fun c _ => l.length - (intOf c).toNat)
  case atStart => exact ⟨0, Nat.zero_le _, rfl, fun j hj => absurd hj (Nat.not_lt_zero _), Kept.refl _⟩
  case round =>
    obtain ⟨k, hk0, rfl, hno, hkw⟩ := hrel
    have HNo := Shut.mk hno
    clear hno
    by_cases hlt : k < l.length
    · obtain ⟨rb, ro, rc, hrv, _, _, hrb, hcl⟩ := r4.addr (by omega)
      simp only [Value.slice.injEq] at hrv
      obtain ⟨rfl, _, rfl⟩ := hrv
      have hcw := (hkw.cell (p := ⟨rb, ro + k, none⟩) hrb).trans (hcl k hlt)
      clear hcl
      obtain ⟨z, hz⟩ := HIn.out _ (getD_memI hlt)
      have HHz := Lib.hid (HH.out _ (k4.trans hkw) z hz.lt)
      have HM1 := Shut.mk (HMa.out k HNo.out hlt)
      have hzi := hz.is
      have HLt := Shut.mk (show holdI t i (l.getD k 0) = holdB t i z by unfold holdI; rw [hzi, Int.toNat_natCast])
      have HStep := Shut.mk (show holdI t i (l.getD k 0) = false → ∀ j, j < k + 1 → holdI t i (l.getD j 0) = false from fun hh j hj => by
        by_cases c : j < k
        · exact HNo.out j c
        · rw [show j = k by omega]; exact hh)
      have HV := Shut.mk hzi
      have k0 : (0 : Int) ≤ (k : Int) := by omega
      have k1' : (k : Int) < (l.length : Int) := by omega
      rw [hzi] at hcw HM1 HLt HStep
      clear hz hzi
      cases hh : holdB t i z with
      | true =>
        rw [hh] at HHz
        have HE := Shut.mk (HM1.out (by rw [HLt.out, hh]))
        have HE1 := Shut.mk HE.out.1
        have HE2 := Shut.mk HE.out.2
        clear hh
        go_wp2_with fail
        (with_reducible refine HHz.out.mono ?_); rintro e w5 ⟨rfl, q5⟩
        go_wp2
        go_ret2
        exact ⟨by rw [HE1.out, HE2.out]; rfl, (k4.trans hkw).trans q5⟩
      | false =>
        rw [hh] at HHz
        have HE := Shut.mk (HStep.out (by rw [HLt.out, hh]))
        clear hh
        go_wp2_with fail
        (with_reducible refine HHz.out.mono ?_); rintro e w5 ⟨rfl, q5⟩
        go_wp2
        go_roundw
        case rel => exact ⟨k + 1, hlt, by go_num, HE.out, hkw.trans q5⟩
        case measure => simp [intOf]; omega
    · have e : k = l.length := by omega
      have HE := Shut.mk (HMn.out (by rw [← e]; exact HNo.out))
      have k9 : ¬ (k : Int) < (l.length : Int) := by omega
      clear e
      go_wp2
      go_ret2
      exact ⟨by rw [HE.out]; rfl, k4.trans hkw⟩
end Go.Proofs.YtekmdklobejbeaaDoor
end

section
/- The statements' helpers of layer 8: few, live. -/
set_option linter.unusedSimpArgs false
set_option linter.unusedVariables false
namespace Go.Proofs.YtekmdklobejbeaaDoor
open Go.RowKit
open Rt

def FewT8 (t : List TN) : Prop := t.length ≤ 140 ∧ ∀ i, i < t.length → (nd t i).un.length ≤ 70
def FewPost8 (w : World) (t : List TN) (e : Ending) (w' : World) : Prop := ∃ r : Bool, e = .returned (.bool r) ∧ (r = true → FewT8 t) ∧ Kept w w'
set_option maxHeartbeats 4000000 in
set_option maxRecDepth 100000 in
theorem few08_any {w : World} {tv : Value} {t : List TN} (ht : RdTs w tv t) :
    Calls Tryd.prog 7 #[tv] w (FewPost8 w t) := by
  obtain ⟨ta, tc, rfl, t1, t2, t3⟩ := ht.len
  have t63 : ((t.length : Nat) : Int) ≤ 9223372036854775807 := by unfold maxLen at t2; omega
  by_cases h140 : t.length ≤ 140
  · have hd : decide ((140 : Int) < (t.length : Int)) = false := decide_eq_false (by omega)
    have hd2 : ¬ (140 : Int) < (t.length : Int) := by omega
    have H140 := Shut.mk h140
    clear h140
    go_enter Tryd.func7, Tryd.ntmps7
    go_wp2
    go_loopw [10] (fun c w2 => ∃ j : Nat, j ≤ t.length ∧ c = .int .i64 j ∧ (∀ i, i < j → (nd t i).un.length ≤ 70) ∧ Kept w w2) (fun c _ => t.length - (intOf c).toNat)
    case atStart => exact ⟨0, Nat.zero_le _, rfl, fun i hi => absurd hi (Nat.not_lt_zero _), Kept.refl _⟩
    case round =>
      obtain ⟨j, hj, rfl, hal2, hk2⟩ := hrel
      have HA2 := Shut.mk hal2
      clear hal2
      by_cases hjl : j < t.length
      · obtain ⟨zb, zo, zc, za, zcc, hzv, hzat, hzun⟩ := ht.at (k := j) hjl
        simp only [Value.slice.injEq] at hzv
        obtain ⟨rfl, -, rfl⟩ := hzv
        obtain ⟨g0, g1, g2, g3, g4, g5⟩ := hzat _ hk2
        have j0 : (0 : Int) ≤ (j : Int) := by omega
        have j1 : (j : Int) < (t.length : Int) := by omega
        obtain ⟨la, lc, hlv, u1, u2, u3⟩ := hzun.len
        have u63 : ((nd t j).un.length : Int) ≤ 9223372036854775807 := by unfold maxLen at u2; omega
        by_cases h70 : (nd t j).un.length ≤ 70
        · have hd3 : ¬ (70 : Int) < ((nd t j).un.length : Int) := by omega
          have H70 := Shut.mk h70
          clear hzat h70
          go_wp2
          go_roundw
          case rel => exact ⟨j + 1, hjl, by go_num, fun i hi => by
            by_cases c : i = j
            · rw [c]; exact H70.out
            · exact HA2.out i (by omega), hk2.alloc _⟩
          case measure => simp [intOf]; omega
        · have hd3 : (70 : Int) < ((nd t j).un.length : Int) := by omega
          clear hzat h70
          go_wp2
          go_ret
          exact ⟨false, rfl, (fun h => by cases h), hk2.alloc _⟩
      · have hjn : ¬ (j : Int) < (t.length : Int) := by omega
        have hje : j = t.length := by omega
        have HJe := Shut.mk hje
        clear hje
        go_wp2
        go_ret
        exact ⟨true, rfl, fun _ => ⟨H140.out, fun q hq => HA2.out q (by rw [HJe.out]; exact hq)⟩, hk2⟩
  · have hd : decide ((140 : Int) < (t.length : Int)) = true := decide_eq_true (by omega)
    have hd2 : (140 : Int) < (t.length : Int) := by omega
    go_enter Tryd.func7, Tryd.ntmps7
    go_wp2
    go_ret
    exact ⟨false, rfl, (fun h => by cases h), Kept.refl _⟩
theorem few8_fit {t : List TN} (h : FewT8 t) : t.length ≤ 1000000 ∧ ∀ d ∈ t, d.un.length ≤ 1000 := by
  refine ⟨by have := h.1; omega, fun d hd => ?_⟩
  obtain ⟨i, hi, rfl⟩ := List.mem_iff_getElem.1 hd
  have := h.2 i hi
  rw [nd_get hi] at this
  omega
def lf8 : TN := ⟨1, 0, 0, 0, 0, []⟩
def pr8 : TN := ⟨2, 0, 0, 0, 0, [1]⟩
def lt8 : List TN := [lf8, tn0, lf8, tn0, lf8, tn0, lf8]
def lu8 : List TN := [lf8, pr8, lf8]
theorem live8_facts : okN lt8 3 = true ∧ res lt8 3 = [0, 2, 4, 6] ∧ okN lu8 1 = true ∧ res lu8 1 = [1, 2] ∧ chkB lu8 = true ∧ holdB lu8 0 1 = true ∧ (res lu8 1).any (holdI lu8 1) = true ∧ mineF lu8 1 (res lu8 1) = 2 := by decide +kernel
/-- A literal slice of nodes. -/
theorem RdTs.lit {w : World} (ds : List TN) (lvs : List Value) (hl : lvs.length = ds.length) (hn : ds.length ≤ 1000) (hr : ∀ i, i < ds.length → RdI w (lvs.getD i undef) (nd ds i).un) :
    RdTs (w.alloc (.cells (tflat ds lvs).toArray 43)) (.slice (some ⟨w.heap.size, 0, none⟩) ds.length ds.length) ds := by
  refine ⟨lvs, hl, ?_, fun i hi => (hr i hi).kept ((Kept.refl w).alloc _)⟩
  refine ⟨_, ds.length, rfl, tflat_length _ _, Nat.le_refl _, by unfold maxLen; omega, (fun h => by cases h), fun ad had j u hj => ?_⟩
  cases had
  rw [Addr.add_lit, Nat.zero_add, Blk.cell (Blk.new w (tflat ds lvs) 43), hj]
theorem sameI_yes {w : World} {u v : Value} {a b : List Int} (ha : RdI w u a) (hb : RdI w v b) (h : a = b) : Calls Tryd.prog 12 #[u, v] w fun e w' => e = .returned (.bool true) ∧ Kept w w' := by
  have := sameInts_any ha hb
  rw [decide_eq_true h] at this
  exact this
theorem int_ok {x : Int} (h : -100 ≤ x ∧ x ≤ 100) : I64 x := ⟨by omega, by omega⟩
theorem lf8_ok : TnOk lf8 := ⟨int_ok (by decide), int_ok (by decide), int_ok (by decide), int_ok (by decide), int_ok (by decide), fun x h => absurd h List.not_mem_nil⟩
theorem pr8_ok : TnOk pr8 := ⟨int_ok (by decide), int_ok (by decide), int_ok (by decide), int_ok (by decide), int_ok (by decide), fun x h => by rw [List.mem_singleton.1 h]; exact int_ok (by decide)⟩
theorem tn8_ok : TnOk tn0 := ⟨int_ok (by decide), int_ok (by decide), int_ok (by decide), int_ok (by decide), int_ok (by decide), fun x h => absurd h List.not_mem_nil⟩
theorem lt8_ok : ∀ d ∈ lt8, TnOk d := fun d h => by
  simp only [lt8, List.mem_cons, List.not_mem_nil, or_false] at h
  rcases h with rfl | rfl | rfl | rfl | rfl | rfl | rfl <;> first | exact lf8_ok | exact tn8_ok
theorem lu8_ok : ∀ d ∈ lu8, TnOk d := fun d h => by
  simp only [lu8, List.mem_cons, List.not_mem_nil, or_false] at h
  rcases h with rfl | rfl | rfl <;> first | exact lf8_ok | exact pr8_ok
theorem lt8_un : ∀ d ∈ lt8, d.un.length ≤ 1000 := fun d h => by
  simp only [lt8, List.mem_cons, List.not_mem_nil, or_false] at h
  rcases h with rfl | rfl | rfl | rfl | rfl | rfl | rfl <;> first | exact Nat.zero_le _
theorem lu8_un : ∀ d ∈ lu8, d.un.length ≤ 1000 := fun d h => by
  simp only [lu8, List.mem_cons, List.not_mem_nil, or_false] at h
  rcases h with rfl | rfl | rfl <;> decide
theorem nil7 {w : World} : ∀ i, i < lt8.length → RdI w (([.slice none 0 0, .slice none 0 0, .slice none 0 0, .slice none 0 0, .slice none 0 0, .slice none 0 0, .slice none 0 0] : List Value).getD i undef) (nd lt8 i).un := fun i hi => by
  have : i < 7 := hi
  match i, this with
  | 0, _ => exact RdI.nil w
  | 1, _ => exact RdI.nil w
  | 2, _ => exact RdI.nil w
  | 3, _ => exact RdI.nil w
  | 4, _ => exact RdI.nil w
  | 5, _ => exact RdI.nil w
  | 6, _ => exact RdI.nil w
theorem nil3 {w : World} {v : Value} (h : RdI w v [1]) : ∀ i, i < lu8.length → RdI w (([.slice none 0 0, v, .slice none 0 0] : List Value).getD i undef) (nd lu8 i).un := fun i hi => by
  have : i < 3 := hi
  match i, this with
  | 0, _ => exact RdI.nil w
  | 1, _ => exact h
  | 2, _ => exact RdI.nil w
theorem ask8a : AskOk lu8 1 1 := ⟨live8_facts.2.2.2.2.1, by decide, by decide⟩
theorem ask8b : AskOk lu8 0 1 := ⟨live8_facts.2.2.2.2.1, by decide, by decide⟩
theorem OwnI.lit4 (w : World) (a b c d : Int) : RdI (w.alloc (.cells #[.int .i64 a, .int .i64 b, .int .i64 c, .int .i64 d] 3)) (.slice (some ⟨w.heap.size, 0, none⟩) 4 4) [a, b, c, d] :=
  OwnI.rd (Ownv.lit (B := w.heap.size) 3 (w := w) [.int .i64 a, .int .i64 b, .int .i64 c, .int .i64 d] (Nat.le_refl _) (by unfold maxLen; simp))
theorem OwnI.lit2 (w : World) (a b : Int) : RdI (w.alloc (.cells #[.int .i64 a, .int .i64 b] 3)) (.slice (some ⟨w.heap.size, 0, none⟩) 2 2) [a, b] :=
  OwnI.rd (Ownv.lit (B := w.heap.size) 3 (w := w) [.int .i64 a, .int .i64 b] (Nat.le_refl _) (by unfold maxLen; simp))
set_option maxHeartbeats 8000000 in
set_option maxRecDepth 100000 in
theorem live08_any (w : World) (hT : Tabs w) : Calls Tryd.prog 6 #[] w fun e w' => e = .returned (.bool true) ∧ Kept w w' := by
  obtain ⟨f1, f2, f3, f4, f5, f6, f7, f8⟩ := live8_facts
  have HT := Lib.hid hT
  clear hT
  have bL : Blk (w.alloc (.cells #[.int .i64 1, .int .i64 0, .int .i64 0, .int .i64 0, .int .i64 0, .slice none 0 0] 43)) w.heap.size 43 [.int .i64 1, .int .i64 0, .int .i64 0, .int .i64 0, .int .i64 0, .slice none 0 0] := Blk.new _ _ _
  have kL : Kept w (w.alloc (.cells #[.int .i64 1, .int .i64 0, .int .i64 0, .int .i64 0, .int .i64 0, .slice none 0 0] 43)) := (Kept.refl w).alloc _
  have sL : (w.alloc (.cells #[.int .i64 1, .int .i64 0, .int .i64 0, .int .i64 0, .int .i64 0, .slice none 0 0] 43)).heap.size = w.heap.size + 1 := alloc_size _ _
  go_enter Tryd.func6, Tryd.ntmps6
  go_wp2_with fail
  generalize w.alloc (.cells #[.int .i64 1, .int .i64 0, .int .i64 0, .int .i64 0, .int .i64 0, .slice none 0 0] 43) = w1 at bL kL sL ⊢
  have r1 := OwnI.rd (OwnI.lit1 w1 1)
  have k12 : Kept w1 (w1.alloc (.cells #[.int .i64 1] 3)) := (Kept.refl w1).alloc _
  have s2 : (w1.alloc (.cells #[.int .i64 1] 3)).heap.size = w.heap.size + 1 + 1 := by rw [alloc_size, sL]
  rw [sL] at r1
  generalize w1.alloc (.cells #[.int .i64 1] 3) = w2 at r1 k12 s2 ⊢
  have bP := Blk.new w2 [.int .i64 2, .int .i64 0, .int .i64 0, .int .i64 0, .int .i64 0, .slice (some ⟨w.heap.size + 1, 0, none⟩) 1 1] 43
  have k23 : Kept w2 (w2.alloc (.cells #[.int .i64 2, .int .i64 0, .int .i64 0, .int .i64 0, .int .i64 0, .slice (some ⟨w.heap.size + 1, 0, none⟩) 1 1] 43)) := (Kept.refl w2).alloc _
  have s3 : (w2.alloc (.cells #[.int .i64 2, .int .i64 0, .int .i64 0, .int .i64 0, .int .i64 0, .slice (some ⟨w.heap.size + 1, 0, none⟩) 1 1] 43)).heap.size = w.heap.size + 1 + 1 + 1 := by rw [alloc_size, s2]
  have bP : Blk (w2.alloc (.cells #[.int .i64 2, .int .i64 0, .int .i64 0, .int .i64 0, .int .i64 0, .slice (some ⟨w.heap.size + 1, 0, none⟩) 1 1] 43)) w2.heap.size 43 [.int .i64 2, .int .i64 0, .int .i64 0, .int .i64 0, .int .i64 0, .slice (some ⟨w.heap.size + 1, 0, none⟩) 1 1] := bP
  rw [s2] at bP
  generalize w2.alloc (.cells #[.int .i64 2, .int .i64 0, .int .i64 0, .int .i64 0, .int .i64 0, .slice (some ⟨w.heap.size + 1, 0, none⟩) 1 1] 43) = w3 at bP k23 s3 ⊢
  have rT : RdTs (w3.alloc (.cells #[.int .i64 1, .int .i64 0, .int .i64 0, .int .i64 0, .int .i64 0, .slice none 0 0, .int .i64 0, .int .i64 0, .int .i64 0, .int .i64 0, .int .i64 0, .slice none 0 0, .int .i64 1, .int .i64 0, .int .i64 0, .int .i64 0, .int .i64 0, .slice none 0 0, .int .i64 0, .int .i64 0, .int .i64 0, .int .i64 0, .int .i64 0, .slice none 0 0, .int .i64 1, .int .i64 0, .int .i64 0, .int .i64 0, .int .i64 0, .slice none 0 0, .int .i64 0, .int .i64 0, .int .i64 0, .int .i64 0, .int .i64 0, .slice none 0 0, .int .i64 1, .int .i64 0, .int .i64 0, .int .i64 0, .int .i64 0, .slice none 0 0] 43)) (.slice (some ⟨w3.heap.size, 0, none⟩) 7 7) lt8 := RdTs.lit (w := w3) lt8 [.slice none 0 0, .slice none 0 0, .slice none 0 0, .slice none 0 0, .slice none 0 0, .slice none 0 0, .slice none 0 0] rfl (by decide) nil7
  have k34 : Kept w3 (w3.alloc (.cells #[.int .i64 1, .int .i64 0, .int .i64 0, .int .i64 0, .int .i64 0, .slice none 0 0, .int .i64 0, .int .i64 0, .int .i64 0, .int .i64 0, .int .i64 0, .slice none 0 0, .int .i64 1, .int .i64 0, .int .i64 0, .int .i64 0, .int .i64 0, .slice none 0 0, .int .i64 0, .int .i64 0, .int .i64 0, .int .i64 0, .int .i64 0, .slice none 0 0, .int .i64 1, .int .i64 0, .int .i64 0, .int .i64 0, .int .i64 0, .slice none 0 0, .int .i64 0, .int .i64 0, .int .i64 0, .int .i64 0, .int .i64 0, .slice none 0 0, .int .i64 1, .int .i64 0, .int .i64 0, .int .i64 0, .int .i64 0, .slice none 0 0] 43)) := (Kept.refl w3).alloc _
  rw [s3] at rT
  generalize w3.alloc (.cells #[.int .i64 1, .int .i64 0, .int .i64 0, .int .i64 0, .int .i64 0, .slice none 0 0, .int .i64 0, .int .i64 0, .int .i64 0, .int .i64 0, .int .i64 0, .slice none 0 0, .int .i64 1, .int .i64 0, .int .i64 0, .int .i64 0, .int .i64 0, .slice none 0 0, .int .i64 0, .int .i64 0, .int .i64 0, .int .i64 0, .int .i64 0, .slice none 0 0, .int .i64 1, .int .i64 0, .int .i64 0, .int .i64 0, .int .i64 0, .slice none 0 0, .int .i64 0, .int .i64 0, .int .i64 0, .int .i64 0, .int .i64 0, .slice none 0 0, .int .i64 1, .int .i64 0, .int .i64 0, .int .i64 0, .int .i64 0, .slice none 0 0] 43) = w4 at rT k34 ⊢
  have k4 := ((kL.trans k12).trans k23).trans k34
  have bL := bL.kept ((k12.trans k23).trans k34)
  have bP := bP.kept k34
  have r1 := r1.kept (k23.trans k34)
  have H1 := PResolution_any rT lt8_ok (by decide) lt8_un (HT.out.kept k4) 3 (int_ok (by decide))
  rw [f1, show (3 : Int).toNat = 3 from rfl, f2] at H1
  clear sL s2 s3 k12 k23 k34 kL rT
  generalize w.heap.size = g at *
  (with_reducible refine H1.mono ?_); rintro e w5 ⟨v5, rfl, o5, q5⟩
  clear H1
  have o5 : RdI w5 v5 [0, 2, 4, 6] := OwnI.rd o5
  simp only [er_true]
  have k5 := k4.trans q5
  have bL := bL.kept q5
  have bP := bP.kept q5
  have r1 := r1.kept q5
  have c0 := bL.cell 0
  have c1 := bL.cell 1
  have c2 := bL.cell 2
  have c3 := bL.cell 3
  have c4 := bL.cell 4
  have c5 := bL.cell 5
  have d0 := bP.cell 0
  have d1 := bP.cell 1
  have d2 := bP.cell 2
  have d3 := bP.cell 3
  have d4 := bP.cell 4
  have d5 := bP.cell 5
  simp only [List.getElem?_cons_zero, List.getElem?_cons_succ] at c0 c1 c2 c3 c4 c5 d0 d1 d2 d3 d4 d5
  obtain ⟨a5, e5, rfl, _, _, _⟩ := o5.len
  have o5 : RdI w5 (.slice a5 4 e5) [0, 2, 4, 6] := o5
  have rU : RdTs (w5.alloc (.cells #[.int .i64 1, .int .i64 0, .int .i64 0, .int .i64 0, .int .i64 0, .slice none 0 0, .int .i64 2, .int .i64 0, .int .i64 0, .int .i64 0, .int .i64 0, .slice (some ⟨g + 1, 0, none⟩) 1 1, .int .i64 1, .int .i64 0, .int .i64 0, .int .i64 0, .int .i64 0, .slice none 0 0] 43)) (.slice (some ⟨w5.heap.size, 0, none⟩) 3 3) lu8 := RdTs.lit (w := w5) lu8 [.slice none 0 0, .slice (some ⟨g + 1, 0, none⟩) 1 1, .slice none 0 0] rfl (by decide) (nil3 r1)
  have k56 : Kept w5 (w5.alloc (.cells #[.int .i64 1, .int .i64 0, .int .i64 0, .int .i64 0, .int .i64 0, .slice none 0 0, .int .i64 2, .int .i64 0, .int .i64 0, .int .i64 0, .int .i64 0, .slice (some ⟨g + 1, 0, none⟩) 1 1, .int .i64 1, .int .i64 0, .int .i64 0, .int .i64 0, .int .i64 0, .slice none 0 0] 43)) := (Kept.refl w5).alloc _
  go_wp2_with fail
  generalize w5.alloc (.cells #[.int .i64 1, .int .i64 0, .int .i64 0, .int .i64 0, .int .i64 0, .slice none 0 0, .int .i64 2, .int .i64 0, .int .i64 0, .int .i64 0, .int .i64 0, .slice (some ⟨g + 1, 0, none⟩) 1 1, .int .i64 1, .int .i64 0, .int .i64 0, .int .i64 0, .int .i64 0, .slice none 0 0] 43) = w6 at rU k56 ⊢
  have k6 := k5.trans k56
  have o6 := o5.kept k56
  have H2 := Lib.hid (fun W (k : Kept w6 W) => PResolution_any (rU.kept k) lu8_ok (by decide) lu8_un ((HT.out.kept k6).kept k) 1 (int_ok (by decide)))
  have H3 := Lib.hid (fun W (k : Kept w6 W) => PMine_any ask8a (rU.kept k) lu8_ok (by decide) lu8_un ((HT.out.kept k6).kept k))
  have H4 := Lib.hid (fun W (k : Kept w6 W) => PHolds_any ask8b (rU.kept k) lu8_ok (by decide) lu8_un ((HT.out.kept k6).kept k))
  rw [f3, show (1 : Int).toNat = 1 from rfl, f4] at H2
  rw [f7, f8] at H3
  rw [f6] at H4
  have H3 : Hid (∀ W, Kept w6 W → Calls Tryd.prog 17 #[.slice (some ⟨w5.heap.size, 0, none⟩) 3 3, .int .i64 1, .int .i64 1] W (MinePost W true 2)) := H3
  have H4 : Hid (∀ W, Kept w6 W → Calls Tryd.prog 15 #[.slice (some ⟨w5.heap.size, 0, none⟩) 3 3, .int .i64 0, .int .i64 1] W fun e w' => e = .returned (.tuple #[.bool true, .int .i64 0]) ∧ Kept W w') := H4
  generalize w5.heap.size = g5 at *
  (with_reducible refine (H2.out _ (Kept.refl _)).mono ?_); rintro e w7 ⟨v7, rfl, o7, q7⟩
  have o7 : RdI w7 v7 [1, 2] := OwnI.rd o7
  simp only [er_true]
  obtain ⟨a7, e7, rfl, _, _, _⟩ := o7.len
  have o7 : RdI w7 (.slice a7 2 e7) [1, 2] := o7
  go_wp2_with fail
  (with_reducible refine (H3.out _ q7).mono ?_); rintro e w8 ⟨rfl, q8⟩
  have k8 := q7.trans q8
  simp only [cond_true]
  go_wp2_with fail
  (with_reducible refine (H4.out _ k8).mono ?_); rintro e w9 ⟨rfl, q9⟩
  have k9 := k8.trans q9
  have HS1 := Lib.hid (sameI_yes ((o6.kept k9).kept ((Kept.refl w9).alloc _)) (OwnI.lit4 w9 0 2 4 6) rfl)
  go_wp2_with fail
  (with_reducible refine HS1.out.mono ?_); rintro e w10 ⟨rfl, q10⟩
  have HS2 := Lib.hid (sameI_yes (((o7.kept (q8.trans q9)).kept (((Kept.refl w9).alloc _).trans q10)).kept ((Kept.refl w10).alloc _)) (OwnI.lit2 w10 1 2) rfl)
  go_wp2_with fail
  (with_reducible refine HS2.out.mono ?_); rintro e w11 ⟨rfl, q11⟩
  go_wp2
  go_ret
  exact ⟨rfl, (((k6.trans k9).alloc _).trans q10).alloc _ |>.trans q11⟩
end Go.Proofs.YtekmdklobejbeaaDoor
end

section
/- Walks: resolution, the program's and the document's (written by gen_res.py). -/
set_option linter.unusedSimpArgs false
set_option linter.unusedVariables false
namespace Go.Proofs.YtekmdklobejbeaaDoor
open Go.RowKit
open Rt

set_option maxHeartbeats 4000000 in
set_option maxRecDepth 100000 in
theorem rresOwn_any {w : World} {tv : Value} {t : List TN} {n x : Nat} (m : MayN t n) (hx : x < 2 * n - 1) (h0 : (nd t x).kd ≠ 0) (ht : RdTs w tv t) :
    Calls Tryd.prog 24 #[tv, .int .i64 (x : Int)] w (MemPost w (ownL t x)) := by
  have hlen := m.len
  have hb := fulls_bd m.hn
  obtain ⟨tb, to, tc, la, lc, rfl, hat, hun⟩ := ht.at (k := x) (by omega)
  have hat2 := hat _ ((Kept.refl w).alloc (.cells #[.int .i64 (x : Int)] 3))
  obtain ⟨g0, g1, g2, g3, g4, g5⟩ := hat w (Kept.refl w)
  obtain ⟨s0, s1, s2, s3, s4, s5⟩ := hat2
  have hne : ((nd t x).kd != 0) = true := by rw [bne_iff_ne]; exact h0
  have HU := Shut.mk (show ∀ j, j < (nd t x).un.length → 0 ≤ (nd t x).un.getD j 0 ∧ (nd t x).un.getD j 0 ≤ 256 from fun j hj => by
    obtain ⟨_, k, he, _, _, h2, _⟩ := un_leaf m hx (getD_memI hj)
    rw [he]; omega)
  have HR := Shut.mk (show ownL t x = (x : Int) :: (nd t x).un.map fun i => 2 * i from rfl)
  obtain ⟨_, _, hcv, _, hum, _⟩ := hun.len
  have u63 : ((nd t x).un.length : Int) ≤ 9223372036854775807 := by unfold maxLen at hum; omega
  have hul : (nd t x).un.length ≤ 1000 := may_un m _ (by rw [nd_get (by omega)]; exact List.getElem_mem _)
  have x0 : (0 : Int) ≤ (x : Int) := by omega
  have x1 : (x : Int) < (t.length : Int) := by omega
  clear hat hlen h0 hcv
  generalize ownL t x = out at HR ⊢
  generalize nd t x = d at *
  generalize d.un = us at *
  have HUL := Shut.mk hul
  go_enter Tryd.func24, Tryd.ntmps24
  go_wp2
  go_loopw [5, 26] (fun l c wr => ∃ k : Nat, k ≤ us.length ∧ c = .int .i64 k ∧ (∃ v, v = l ∧ OwnI w.heap.size wr v ((x : Int) :: (us.take k).map fun i => 2 * i)) ∧ Kept w wr) (fun _ c _ => us.length - (intOf c).toNat)
  case atStart => exact ⟨0, Nat.zero_le _, rfl, ⟨_, rfl, OwnI.lit1 w x⟩, (Kept.refl _).alloc _⟩
  case round =>
    obtain ⟨k, hk0, rfl, ⟨v, rfl, ho⟩, hkw⟩ := hrel
    by_cases hlt : k < us.length
    · obtain ⟨rb, ro, rc, hrv, _, _, hrb, hcl⟩ := hun.addr (by omega)
      simp only [Value.slice.injEq] at hrv
      obtain ⟨rfl, _, rfl⟩ := hrv
      have hcw := (hkw.cell (p := ⟨rb, ro + k, none⟩) hrb).trans (hcl k hlt)
      clear hcl
      have hz := HU.out k hlt
      have HT := Shut.mk (show ((x : Int) :: (us.take (k + 1)).map fun i => 2 * i) = ((x : Int) :: (us.take k).map fun i => 2 * i) ++ [2 * us.getD k 0] by
        rw [List.take_succ_eq_append_getElem hlt, List.map_append, show us.getD k 0 = us[k] by rw [List.getD_eq_getElem?_getD, List.getElem?_eq_getElem hlt]; rfl]; rfl)
      have k0 : (0 : Int) ≤ (k : Int) := by omega
      have k1 : (k : Int) < (us.length : Int) := by omega
      generalize us.getD k 0 = z at hcw HT hz
      obtain ⟨z0, z1⟩ := hz
      have hwr : IntKind.i64.wrap (2 * z) = 2 * z := IntWalk.i64_in _ (by omega)
      have o2 := Ownv.kept ho ((Kept.refl wr).alloc (.cells #[.int .i64 (2 * z)] 3))
      have hk2a := hkw.alloc (.cells #[.int .i64 (2 * z)] 3)
      have hsz := hkw.size
      have hll : ((x : Int) :: (us.take k).map fun i => 2 * i).length + 1 ≤ 10000000000 := by have := HUL.out; simp [List.length_take]; omega
      generalize hys : ((x : Int) :: (us.take k).map fun i => 2 * i) = ys at o2 hll HT
      clear hys ho
      go_wp2_with (at_builtin; refine go_appi w.heap.size v ys rfl o2 _ [2 * z] rfl (OwnI.rd (OwnI.lit1 wr _)) hll (by simp; omega) ?_; intro v6 w6 o6 t6 l6; have k6 : Kept w w6 := Turn.keptOf hk2a t6 (fun b hb => (Ownv.lt o2 hb).2))
      go_roundw
      case rel => exact ⟨k + 1, hlt, by go_num, ⟨v6, rfl, by rw [HT.out]; exact o6⟩, k6⟩
      case measure => simp [intOf]; omega
    · have e : k = us.length := by omega
      have HE := Shut.mk e
      have k9 : ¬ (k : Int) < (us.length : Int) := by omega
      clear e
      go_wp2
      go_ret
      exact ⟨_, rfl, by rw [HR.out]; have := ho; rw [HE.out, List.take_length] at this; exact this, hkw⟩
set_option maxHeartbeats 4000000 in
theorem rresLeaf_any {w : World} {tv : Value} {t : List TN} {n x : Nat} (m : MayN t n) (hx : x < 2 * n - 1) (h0 : (nd t x).kd = 0) (hl : Mth.lvl x = 0) (ht : RdTs w tv t) (hT : Tabs w) :
    Calls Tryd.prog 24 #[tv, .int .i64 (x : Int)] w (MemPost w (res t x)) := by
  have hlen := m.len
  have hb := fulls_bd m.hn
  obtain ⟨tb, to, tc, la, lc, rfl, hat, hun⟩ := ht.at (k := x) (by omega)
  obtain ⟨g0, g1, g2, g3, g4, g5⟩ := hat w (Kept.refl w)
  have hne : ((nd t x).kd != 0) = false := by rw [h0]; rfl
  have HR := Shut.mk (res_leaf h0 hl)
  have hev : ((x : Int) % 2 == 0) = true := by
    have := (even_node (x := x) (by omega)).1.2 hl
    rw [beq_iff_eq]; omega
  have x0 : (0 : Int) ≤ (x : Int) := by omega
  have x1 : (x : Int) < (t.length : Int) := by omega
  clear hat hlen hun hl
  generalize nd t x = d at *
  have h0' := Shut.mk h0
  clear h0
  generalize d.kd = kd at *
  go_enter Tryd.func24, Tryd.ntmps24
  go_wp2
  go_ret
  exact ⟨_, rfl, by rw [HR.out]; exact OwnI.nil _ _, Kept.refl _⟩
set_option maxHeartbeats 8000000 in
set_option maxRecDepth 100000 in
theorem rresL_any {t : List TN} {n : Nat} (m : MayN t n) : ∀ (k x : Nat), Mth.lvl x = k → x < 2 * n - 1 → ∀ (w : World) (tv : Value), RdTs w tv t → Tabs w →
    Calls Tryd.prog 24 #[tv, .int .i64 (x : Int)] w (MemPost w (res t x)) := by
  intro k
  induction k with
  | zero =>
    intro x hk hx w tv ht hT
    by_cases h0 : (nd t x).kd = 0
    · exact rresLeaf_any m hx h0 hk ht hT
    · rw [res_there h0]; exact rresOwn_any m hx h0 ht
  | succ k ih =>
    intro x hk hx w tv ht hT
    by_cases h0 : (nd t x).kd ≠ 0
    · rw [res_there h0]; exact rresOwn_any m hx h0 ht
    have h0 : (nd t x).kd = 0 := by omega
    have hlen := m.len
    have hb := fulls_bd m.hn
    obtain ⟨c1, c2, c3, c4⟩ := kids_lvl (x := x) (by omega) (by omega)
    obtain ⟨d1, d2⟩ := kids_in m.hn hx (by omega)
    have HI1 := Lib.hid (fun W (k : Kept w W) => ih (Mth.left x) (by omega) d1 W tv (ht.kept k) (hT.kept k))
    have HI2 := Lib.hid (fun W (k : Kept w W) => ih (Mth.right x) (by omega) d2 W tv (ht.kept k) (hT.kept k))
    have HR := Shut.mk (res_kids h0 (show x < 511 by omega) (by omega))
    have HL1 := Shut.mk (res_len m d1)
    have HL2 := Shut.mk (res_len m d2)
    have HL := Lib.hid (fun W => RLeft_any (x : Int) W ⟨by omega, by omega⟩)
    have HRi := Lib.hid (fun W => RRight_any (x : Int) W ⟨by omega, by omega⟩)
    rw [kidB_nat (show x < 511 by omega), decide_eq_true (show 0 < Mth.lvl x by omega)] at HL HRi
    have HL : Hid (∀ W, Calls Tryd.prog 47 #[.int .i64 (x : Int)] W fun e w' => e = .returned (.tuple #[.int .i64 (Mth.left x : Nat), .int .i64 0]) ∧ W = w') := HL
    have HRi : Hid (∀ W, Calls Tryd.prog 48 #[.int .i64 (x : Int)] W fun e w' => e = .returned (.tuple #[.int .i64 (Mth.right x : Nat), .int .i64 0]) ∧ W = w') := HRi
    have hev : ((x : Int) % 2 == 0) = false := by
      have := (even_node (x := x) (by omega)).1.1
      rw [beq_eq_false_iff_ne]; omega
    obtain ⟨tb, to, tc, la, lc, rfl, hat, hun⟩ := ht.at (k := x) (by omega)
    obtain ⟨g0, g1, g2, g3, g4, g5⟩ := hat w (Kept.refl w)
    have hne : ((nd t x).kd != 0) = false := by rw [h0]; rfl
    have x0 : (0 : Int) ≤ (x : Int) := by omega
    have x1 : (x : Int) < (t.length : Int) := by omega
    clear hat hlen hun c1 c2 c3 c4 d1 d2 hk hx ih h0
    generalize res t x = out at HR ⊢
    generalize res t (Mth.left x) = o1 at HR HI1 HL1
    generalize res t (Mth.right x) = o2 at HR HI2 HL2
    generalize Mth.left x = xl at HL HI1
    generalize Mth.right x = xr at HRi HI2
    generalize nd t x = d at *
    generalize d.kd = kd at *
    go_enter Tryd.func24, Tryd.ntmps24
    go_wp2_with fail
    (with_reducible refine (HL.out _).mono ?_); rintro e w1 ⟨rfl, rfl⟩
    go_wp2_with fail
    (with_reducible refine (HRi.out _).mono ?_); rintro e w1 ⟨rfl, rfl⟩
    have k2 := Kept.refl w
    go_wp2_with fail
    (with_reducible refine (HI1.out _ k2).mono ?_); rintro e w3 ⟨v3, rfl, r3, q3⟩
    have k3 := k2.trans q3
    go_wp2_with fail
    (with_reducible refine (HI2.out _ k3).mono ?_); rintro e w4 ⟨v4, rfl, r4, q4⟩
    have k4 := k3.trans q4
    have r3' := Ownv.kept (Ownv.mono r3 k2.size) q4
    have hsz := k4.size
    have hll : o1.length + o2.length ≤ 10000000000 := by have := HL1.out; have := HL2.out; omega
    go_wp2_with (at_builtin; refine go_appi w.heap.size v3 o1 rfl r3' v4 o2 rfl (OwnI.rd r4) hll hsz ?_; intro v6 w6 o6 t6 l6; have k6 : Kept w w6 := Turn.keptOf k4 t6 (fun b hb => (Ownv.lt r3' hb).2))
    go_ret
    exact ⟨_, rfl, by rw [HR.out]; exact o6, k6⟩
end Go.Proofs.YtekmdklobejbeaaDoor
end

section
/- Walks of the document's answer: Copath. -/
set_option linter.unusedSimpArgs false
set_option linter.unusedVariables false
namespace Go.Proofs.YtekmdklobejbeaaDoor
open Go.RowKit

set_option maxHeartbeats 2000000 in
theorem RCopath_any (x n : Int) (w : World) (hx : I64 x) (hn : I64 n) : Calls Tryd.prog 31 #[.int .i64 x, .int .i64 n] w (ListPost w (inB x n) (ints (Mth.copath x.toNat n.toNat))) := by
  have HA := Lib.hid (fun w => RPath_any x n w hx hn)
  cases hi : inB x n with
  | false =>
    rw [hi] at HA
    clear hi
    go_enter Tryd.func31, Tryd.ntmps31
    go_wp2_with fail
    refine (HA.out _).mono ?_
    rintro e w1 ⟨v, rfl, hr, hk⟩
    simp only [er_false]
    clear hr
    go_wp2
    go_ret2
    exact ⟨_, rfl, RdI.nil _, hk⟩
  | true =>
    rw [hi] at HA
    obtain ⟨m, k, hm, hk, hkf, h4, h5⟩ := in_nat hi
    subst hm hk
    have hkb := fulls_bd hkf
    have hp := Mth.path_of hkf h4
    have hl8 := lvl_top hkf
    have hL8 : Mth.lvl (k - 1) - Mth.lvl m ≤ 8 := by omega
    have HCP := Shut.mk (cl_copath hkf h4)
    have hat := hp.at'
    have hplen := hp.len
    have HA : Hid (∀ w, Calls Tryd.prog 30 #[.int .i64 (m : Int), .int .i64 (k : Int)] w (ListPost w true (ints (Mth.pathF 9 m k)))) := HA
    generalize Mth.lvl (k - 1) - Mth.lvl m = L at hat hL8 HCP hplen
    have HAt := Shut.mk hat
    have HL := Shut.mk hL8
    generalize hq : ints (Mth.pathF 9 m k) = q at HA
    have hql : q.length = L := by rw [← hq, ints_len, hplen]
    have hqa : ∀ i, i < L → q.getD i 0 = ((Mth.itr (i + 1) m : Nat) : Int) := fun i h => by rw [← hq, ints_get (by omega), (hat i h).1]
    clear hat hp hL8 hi hq hplen
    have HQA := Shut.mk hqa
    clear hqa
    have HQL := Shut.mk hql
    clear hql
    have hk1 : (1 : Int) ≤ (k : Int) := by omega
    have hk2 : (k : Int) ≤ 256 := by omega
    go_enter Tryd.func31, Tryd.ntmps31
    go_wp2_with fail
    refine (HA.out _).mono ?_
    rintro e w1 ⟨pv, rfl, hr, hkw⟩
    have hr : RdI w1 pv q := hr
    obtain ⟨pa, pc, rfl, _, hpc, _⟩ := hr.len
    simp only [er_true]
    have q63 : ((q.length : Nat) : Int) ≤ 9223372036854775807 := by unfold maxLen at hpc; omega
    go_wp2
    go_loopw [0, 8, 24] (fun y l c wr => ∃ i : Nat, i ≤ q.length ∧ y = .int .i64 (Mth.itr i m : Nat) ∧ (∃ v, v = l ∧ OwnI w1.heap.size wr v (cl Mth.sib m i)) ∧ c = .int .i64 i ∧ Kept w1 wr) (fun _ _ c _ => q.length - (intOf c).toNat)
    case atStart => exact ⟨0, Nat.zero_le _, rfl, ⟨_, rfl, OwnI.nil _ _⟩, rfl, Kept.refl _⟩
    case round =>
      obtain ⟨i, hi, rfl, ⟨v, rfl, ho⟩, rfl, hk⟩ := hrel
      by_cases hlt : i < q.length
      · have hiL : i < L := by have := HQL.out; omega
        obtain ⟨_, _, a3, a4, _⟩ := HAt.out i hiL
        have hm : Mth.itr i m < 511 := by omega
        have HCl := Shut.mk (cl_succ Mth.sib m i)
        obtain ⟨rb, ro, rc, hrv, _, _, hrb, hcl⟩ := hr.addr (by omega)
        simp only [Value.slice.injEq] at hrv
        obtain ⟨rfl, _, rfl⟩ := hrv
        have x1 := hk.cell (p := ⟨rb, ro + i, none⟩) hrb |>.trans (hcl i hlt)
        rw [HQA.out i hiL] at x1
        have HPy := Lib.hid (fun W => RSibling_any (Mth.itr i m : Nat) (k : Int) W ⟨by omega, by omega⟩ ⟨by omega, by omega⟩)
        rw [upB_nat hkf a3, decide_eq_true a4] at HPy
        have HPy : Hid (∀ W, Calls Tryd.prog 58 #[.int .i64 (Mth.itr i m : Nat), .int .i64 (k : Int)] W fun e w' => e = .returned (.tuple #[.int .i64 (Mth.sib (Mth.itr i m) : Nat), .int .i64 0]) ∧ W = w') := HPy
        generalize Mth.sib (Mth.itr i m) = ty at HCl HPy
        generalize Mth.itr i m = y at HPy
        generalize hz : Mth.itr (i + 1) m = z at x1
        have HZ := Shut.mk hz
        clear hz
        clear a3 a4 hm hcl hiL
        have hk2a := hk.alloc (.cells #[.int .i64 (ty : Int)] 3)
        have o2 := Ownv.kept ho ((Kept.refl wr).alloc (.cells #[.int .i64 (ty : Int)] 3))
        have hsz := hk.size
        have hlen : (cl Mth.sib m i).length + 1 ≤ 10000000000 := by rw [cl_len]; have := HL.out; have := HQL.out; omega
        have i0 : (0 : Int) ≤ (i : Int) := by omega
        have i1 : (i : Int) < (q.length : Int) := by omega
        go_wp2_with (first | (go_at_call 58; refine (HPy.out _).mono ?_; rintro e w' ⟨rfl, rfl⟩) | (at_builtin; refine go_appi w1.heap.size v (cl Mth.sib m i) rfl o2 _ [(ty : Int)] rfl (OwnI.rd (OwnI.lit1 wr _)) hlen (by simp; omega) ?_; intro v6 w6 o6 t6 l6; have k6 : Kept w1 w6 := Turn.keptOf hk2a t6 (fun b hb => (Ownv.lt o2 hb).2)))
        go_roundw
        case rel => exact ⟨i + 1, hlt, by rw [HZ.out], ⟨v6, rfl, by rw [HCl.out]; exact o6⟩, by go_num, k6⟩
        case measure => simp [intOf]; omega
      · have e : i = q.length := by omega
        have hE := Shut.mk (e.trans HQL.out)
        have i1 : ¬ (i : Int) < (q.length : Int) := by omega
        clear e
        go_wp2
        go_ret2
        exact ⟨_, rfl, by show RdI _ _ (ints (Mth.copath m k)); rw [← HCP.out, ← hE.out]; exact OwnI.rd ho, hkw.trans hk⟩
end Go.Proofs.YtekmdklobejbeaaDoor
end

section
/- Walks of the document's answer: bad, noLeaf, Resolution, Path. -/
set_option linter.unusedSimpArgs false
set_option linter.unusedVariables false
namespace Go.Proofs.YtekmdklobejbeaaDoor
open Go.RowKit
open Rt

set_option maxHeartbeats 4000000 in
theorem rbad_any {w : World} {tv : Value} {t : List TN} (ht : RdTs w tv t) (hok : ∀ d ∈ t, TnOk d) (x : Int) (hx : I64 x) :
    Calls Tryd.prog 23 #[tv, .int .i64 x] w fun e w' => e = .returned (.bool (!okN t x)) ∧ Kept w w' := by
  have HC := Lib.hid (rcheck_any ht hok)
  have HR := Shut.mk (show okN t x = (chkB t && (decide (0 ≤ x) && decide (x < (t.length : Int)))) from rfl)
  obtain ⟨ta, tc, rfl, _, t9, _⟩ := ht.len
  cases hc : chkB t with
  | false =>
    rw [hc] at HC HR
    have HC2 : Hid (Calls Tryd.prog 13 #[.slice ta t.length tc] w fun e w' => e = .returned (.int .i64 1) ∧ Kept w w') := HC
    have HF := Shut.mk (show okN t x = false from HR.out)
    clear hc HC
    go_enter Tryd.func23, Tryd.ntmps23
    go_wp2_with fail
    (with_reducible refine HC2.out.mono ?_); rintro e w1 ⟨rfl, k1⟩
    go_wp2
    go_ret
    exact ⟨by rw [HF.out]; rfl, k1⟩
  | true =>
    rw [hc] at HC HR
    have HC2 : Hid (Calls Tryd.prog 13 #[.slice ta t.length tc] w fun e w' => e = .returned (.int .i64 0) ∧ Kept w w') := HC
    clear hc HC
    by_cases h0 : x < 0
    · have HF := Shut.mk (show okN t x = false by rw [HR.out, decide_eq_false (by omega : ¬ 0 ≤ x)]; rfl)
      go_enter Tryd.func23, Tryd.ntmps23
      go_wp2_with fail
      (with_reducible refine HC2.out.mono ?_); rintro e w1 ⟨rfl, k1⟩
      go_wp2
      go_ret
      exact ⟨by rw [HF.out]; rfl, k1⟩
    · by_cases h1 : (t.length : Int) ≤ x
      · have HF := Shut.mk (show okN t x = false by rw [HR.out, decide_eq_false (by omega : ¬ x < (t.length : Int)), Bool.and_false]; rfl)
        go_enter Tryd.func23, Tryd.ntmps23
        go_wp2_with fail
        (with_reducible refine HC2.out.mono ?_); rintro e w1 ⟨rfl, k1⟩
        go_wp2
        go_ret
        exact ⟨by rw [HF.out]; rfl, k1⟩
      · have HD := Shut.mk (show (decide (x < 0) || decide ((t.length : Int) ≤ x)) = false by rw [decide_eq_false (by omega : ¬ x < 0), decide_eq_false (by omega : ¬ (t.length : Int) ≤ x)]; rfl)
        have HF := Shut.mk (show okN t x = true by rw [HR.out, decide_eq_true (by omega : 0 ≤ x), decide_eq_true (by omega : x < (t.length : Int))]; rfl)
        go_enter Tryd.func23, Tryd.ntmps23
        go_wp2_with fail
        (with_reducible refine HC2.out.mono ?_); rintro e w1 ⟨rfl, k1⟩
        go_wp2
        go_ret
        exact ⟨by rw [HF.out]; show Ending.returned (Value.bool (decide (x < 0) || decide ((t.length : Int) ≤ x))) = _; rw [HD.out]; rfl, k1⟩
set_option maxHeartbeats 4000000 in
theorem rnoleaf_any {w : World} {tv : Value} {t : List TN} (ht : RdTs w tv t) (hok : ∀ d ∈ t, TnOk d) (i : Int) (hi : I64 i) :
    Calls Tryd.prog 29 #[tv, .int .i64 i] w fun e w' => e = .returned (.bool (!okL t i)) ∧ Kept w w' := by
  by_cases h0 : i < 0
  · have HF := Shut.mk (show okL t i = false from not_true fun h => by have := (okL_iff.1 h).2.1; omega)
    go_enter Tryd.func29, Tryd.ntmps29
    go_wp2
    go_ret
    exact ⟨by rw [HF.out]; rfl, Kept.refl _⟩
  · by_cases h1 : 300 < i
    · have HF := Shut.mk (show okL t i = false from not_true fun h => by have := okL_le h; omega)
      go_enter Tryd.func29, Tryd.ntmps29
      go_wp2
      go_ret
      exact ⟨by rw [HF.out]; rfl, Kept.refl _⟩
    · have HB := Lib.hid (rbad_any ht hok (2 * i) ⟨by omega, by omega⟩)
      have hwr : IntKind.i64.wrap (2 * i) = 2 * i := IntWalk.i64_in _ (by omega)
      have HF := Shut.mk (okL_two (t := t) (i := i) (by omega))
      generalize okN t (2 * i) = q at HB HF
      go_enter Tryd.func29, Tryd.ntmps29
      go_wp2_with fail
      (with_reducible refine HB.out.mono ?_); rintro e w1 ⟨rfl, k1⟩
      go_wp2
      go_ret
      exact ⟨by rw [HF.out]; rfl, k1⟩
set_option maxHeartbeats 4000000 in
theorem RResolution_any {w : World} {tv : Value} {t : List TN} (ht : RdTs w tv t) (hok : ∀ d ∈ t, TnOk d) (hT : Tabs w) (x : Int) (hx : I64 x) :
    Calls Tryd.prog 9 #[tv, .int .i64 x] w (OwnPost w (okN t x) (res t x.toNat)) := by
  have HB := Lib.hid (rbad_any ht hok x hx)
  obtain ⟨ta, tc, rfl, _, _, _⟩ := ht.len
  cases ho : okN t x with
  | false =>
    rw [ho] at HB
    have HB2 : Hid (Calls Tryd.prog 23 #[.slice ta t.length tc, .int .i64 x] w fun e w' => e = .returned (.bool true) ∧ Kept w w') := HB
    clear ho HB
    go_enter Tryd.func9, Tryd.ntmps9
    go_wp2_with fail
    (with_reducible refine HB2.out.mono ?_); rintro e w1 ⟨rfl, k1⟩
    go_wp2
    go_ret2
    exact ⟨_, rfl, OwnI.nil _ _, k1⟩
  | true =>
    rw [ho] at HB
    have HB2 : Hid (Calls Tryd.prog 23 #[.slice ta t.length tc, .int .i64 x] w fun e w' => e = .returned (.bool false) ∧ Kept w w') := HB
    obtain ⟨k, rfl, hk⟩ := okN_nat ho
    have m := chk_mayN (okN_iff.1 ho).1
    have hlen := m.len
    have HRs := Lib.hid (fun W (q : Kept w W) => rresL_any m _ k rfl (by omega) W _ (ht.kept q) (hT.kept q))
    rw [Int.toNat_natCast]
    clear ho HB m hlen
    go_enter Tryd.func9, Tryd.ntmps9
    go_wp2_with fail
    (with_reducible refine HB2.out.mono ?_); rintro e w1 ⟨rfl, k1⟩
    go_wp2_with fail
    (with_reducible refine (HRs.out _ k1).mono ?_); rintro e w2 ⟨v2, rfl, o2, q2⟩
    go_wp2
    go_ret2
    exact ⟨_, rfl, Ownv.mono o2 k1.size, k1.trans q2⟩
end Go.Proofs.YtekmdklobejbeaaDoor
end

section
/- Walk of the document's Path (written by gen_path.py). -/
set_option linter.unusedSimpArgs false
set_option linter.unusedVariables false
namespace Go.Proofs.YtekmdklobejbeaaDoor
open Go.RowKit
open Rt

set_option maxHeartbeats 16000000 in
set_option maxRecDepth 100000 in
theorem RPath8_any {w : World} {tv : Value} {t : List TN} (ht : RdTs w tv t) (hok : ∀ d ∈ t, TnOk d) (hT : Tabs w) (i : Int) (hi : I64 i) :
    Calls Tryd.prog 11 #[tv, .int .i64 i] w (TwoPost w (okL t i) (pthN t i.toNat ((t.length + 1) / 2)) (pthO t i.toNat ((t.length + 1) / 2))) := by
  have HB := Lib.hid (rnoleaf_any ht hok i hi)
  obtain ⟨ta, tc, rfl, _, t9, _⟩ := ht.len
  cases ho : okL t i with
  | false =>
    rw [ho] at HB
    have HB2 : Hid (Calls Tryd.prog 29 #[.slice ta t.length tc, .int .i64 i] w fun e w' => e = .returned (.bool true) ∧ Kept w w') := HB
    clear ho HB
    go_enter Tryd.func11, Tryd.ntmps11
    go_wp2_with fail
    (with_reducible refine HB2.out.mono ?_); rintro e w1 ⟨rfl, k1⟩
    go_wp2
    go_ret3
    exact ⟨_, _, rfl, RdI.nil _, RdI.nil _, k1⟩
  | true =>
    rw [ho] at HB
    have HB2 : Hid (Calls Tryd.prog 29 #[.slice ta t.length tc, .int .i64 i] w fun e w' => e = .returned (.bool false) ∧ Kept w w') := HB
    obtain ⟨i, rfl, hin⟩ := okL_nat ho
    have m := chk_mayN (okL_iff.1 ho).1
    have hlen := m.len
    have hbd := fulls_bd m.hn
    rw [Int.toNat_natCast]
    skip
    generalize hN : (t.length + 1) / 2 = n at *
    have hin2 : inB (2 * (i : Int)) (n : Int) = true := inB_mk (treeB_mk m.hn) (by omega) (by omega)
    have pT := pathT_of m.hn hin
    have HP := Lib.hid (fun W (k : Kept w W) => RPath_own (2 * (i : Int)) (n : Int) W ⟨by omega, by omega⟩ ⟨by omega, by omega⟩)
    have HQ := Lib.hid (fun W (k : Kept w W) => RCopath_any (2 * (i : Int)) (n : Int) W ⟨by omega, by omega⟩ ⟨by omega, by omega⟩)
    rw [hin2, show (2 * (i : Int)).toNat = 2 * i by omega, Int.toNat_natCast] at HP HQ
    have HRs := Lib.hid (fun W (q : Kept w W) (x : Nat) (hx : x < 2 * n - 1) => rresL_any m _ x rfl hx W _ (ht.kept q) (hT.kept q))
    have HD1 := Shut.mk (show pthN t i n = selL (pthP t i n) (fun k => (((Mth.path (2 * i) n).getD k 0 : Nat) : Int)) (Mth.path (2 * i) n).length from rfl)
    have HD2 := Shut.mk (show pthO t i n = selL (pthP t i n) (fun k => (((Mth.copath (2 * i) n).getD k 0 : Nat) : Int)) (Mth.path (2 * i) n).length from rfl)
    have HPP := Shut.mk (show ∀ k, pthP t i n k = decide (0 < (res t ((Mth.copath (2 * i) n).getD k 0)).length) from fun k => rfl)
    have HCin := Shut.mk pT.cin
    have hpl := pT.plen
    have HPg := Shut.mk (fun k (hk : k < (Mth.path (2 * i) n).length) => ints_get hk)
    have HCg := Shut.mk (fun k (hk : k < (Mth.path (2 * i) n).length) => ints_get (l := Mth.copath (2 * i) n) (show k < (Mth.copath (2 * i) n).length by rw [pT.clen]; exact hk))
    have hl1 : (ints (Mth.path (2 * i) n)).length = (Mth.path (2 * i) n).length := ints_len _
    have hl2 : (ints (Mth.copath (2 * i) n)).length = (Mth.path (2 * i) n).length := by rw [ints_len, pT.clen]
    have hwr : IntKind.i64.wrap (2 * (i : Int)) = 2 * (i : Int) := IntWalk.i64_in _ (by omega)
    have hlt63 : (t.length : Int) ≤ 511 := by omega
    have hi255 : (i : Int) ≤ 255 := by omega
    have HNn := Shut.mk (show ((t.length : Int) + 1) / 2 = (n : Int) by omega)
    clear ho HB hin2 pT hlen hbd
    generalize pthN t i n = o1 at HD1 ⊢
    generalize pthO t i n = o2 at HD2 ⊢
    generalize pthP t i n = P at HD1 HD2 HPP
    generalize ints (Mth.path (2 * i) n) = q1 at *
    generalize ints (Mth.copath (2 * i) n) = q2 at *
    generalize (Mth.path (2 * i) n).length = L at *
    generalize hA : (fun k => (((Mth.path (2 * i) n).getD k 0 : Nat) : Int)) = fa at HD1
    generalize hC : (fun k => (((Mth.copath (2 * i) n).getD k 0 : Nat) : Int)) = fc at HD2
    have HPg2 : Shut (∀ k, k < L → q1.getD k 0 = fa k) := ⟨fun k hk => by rw [HPg.out k hk, ← hA]⟩
    have HCg2 : Shut (∀ k, k < L → ∃ y : Nat, q2.getD k 0 = (y : Int) ∧ fc k = (y : Int) ∧ y < 2 * n - 1 ∧ P k = decide (0 < (res t y).length)) := ⟨fun k hk => ⟨_, HCg.out k hk, by rw [← hC], HCin.out k hk, HPP.out k⟩⟩
    clear HPg HCg HCin HPP hA hC
    have HL1 := Shut.mk hl1
    have HL2 := Shut.mk hl2
    clear hl1 hl2
    have HNN := Shut.mk hN
    clear hN m
    have HT := Lib.hid ht
    have HTb := Lib.hid hT
    clear ht hT hok
    go_enter Tryd.func11, Tryd.ntmps11
    go_wp2_with fail
    (with_reducible refine HB2.out.mono ?_); rintro e w1 ⟨rfl, k1⟩
    go_wp2_with fail
    rw [HNn.out]
    (with_reducible refine (HP.out _ k1).mono ?_); rintro e w2 ⟨v1, rfl, ho1, q2'⟩
    have k2 := k1.trans q2'
    simp only [er_true]
    go_wp2_with fail
    rw [HNn.out]
    (with_reducible refine (HQ.out _ k2).mono ?_); rintro e w3 ⟨v2, rfl, ho2, q3'⟩
    have k3 := k2.trans q3'
    simp only [er_true]
    have r1 : RdI w3 v1 q1 := (OwnI.rd ho1).kept q3'
    have r2 : RdI w3 v2 q2 := ho2
    clear ho1 ho2
    obtain ⟨a1, c1, rfl, _, m1, _⟩ := r1.len
    obtain ⟨a2, c2, rfl, _, m2, _⟩ := r2.len
    have q63 : ((q1.length : Nat) : Int) ≤ 9223372036854775807 := by unfold maxLen at m1; omega
    have q64 : ((q2.length : Nat) : Int) ≤ 9223372036854775807 := by unfold maxLen at m2; omega
    go_wp2
    go_loopw [11, 12, 40] (fun l1 l2 c wr => ∃ k : Nat, k ≤ q1.length ∧ c = .int .i64 k ∧ (∃ u v, u = l1 ∧ v = l2 ∧ OwnI w3.heap.size wr u (selL P fa k) ∧ OwnI w3.heap.size wr v (selL P fc k) ∧ ∀ b, Blks v b → ¬ Blks u b) ∧ Kept w3 wr) (fun _ _ c _ => q1.length - (intOf c).toNat)
    case atStart => exact ⟨0, Nat.zero_le _, rfl, ⟨_, _, rfl, rfl, OwnI.nil _ _, OwnI.nil _ _, fun b h => absurd h blks_none⟩, Kept.refl _⟩
    case round =>
      obtain ⟨k, hk0, rfl, ⟨u, v, rfl, rfl, hou, hov, hap⟩, hkw⟩ := hrel
      by_cases hlt : k < q1.length
      · have hkL : k < L := by have := HL1.out; have := HL2.out; omega
        obtain ⟨rb, ro, rc, hrv, _, _, hrb, hcl⟩ := r1.addr (by have := HL1.out; omega)
        simp only [Value.slice.injEq] at hrv
        obtain ⟨rfl, _, rfl⟩ := hrv
        obtain ⟨sb, so, sc, hsv, _, _, hsb, hcs⟩ := r2.addr (by have := HL2.out; omega)
        simp only [Value.slice.injEq] at hsv
        obtain ⟨rfl, _, rfl⟩ := hsv
        have HA := Lib.hid (fun W (q : Kept w3 W) => (q.cell (p := ⟨rb, ro + k, none⟩) hrb).trans ((hcl k (by have := HL1.out; omega)).trans (by rw [HPg2.out k hkL])))
        obtain ⟨y, hy1, hy2, hy3, hy4⟩ := HCg2.out k hkL
        have HB9 := Lib.hid (fun W (q : Kept w3 W) => (q.cell (p := ⟨sb, so + k, none⟩) hsb).trans ((hcs k (by have := HL2.out; omega)).trans (by rw [hy1])))
        clear hcl hcs hy1 hkL
        have x1 := HA.out _ hkw
        have x2 := HB9.out _ hkw
        have HR2 := Lib.hid (fun W (q : Kept w3 W) => HRs.out W (k3.trans q) y hy3)
        have i0 : (0 : Int) ≤ (k : Int) := by omega
        have i1 : (k : Int) < (q1.length : Int) := by have := HL1.out; have := HL2.out; omega
        have i2 : (k : Int) < (q2.length : Int) := by have := HL1.out; have := HL2.out; omega
        have HS1 := Shut.mk (selL_len P fa k)
        have HS2 := Shut.mk (selL_len P fc k)
        have HK8 : Shut (k ≤ 8) := ⟨by have := HL1.out; have := HL2.out; omega⟩
        cases hp : P k with
        | false =>
          have hz : (res t y).length = 0 := by
            rw [hp] at hy4
            have := of_decide_eq_false hy4.symm
            omega
          have HZ := Shut.mk hz
          have HN1 := Shut.mk (selL_no (a := fa) hp)
          have HN2 := Shut.mk (selL_no (a := fc) hp)
          clear hp hy4 hz hy3 hlt
          go_wp2_with fail
          (with_reducible refine (HR2.out _ hkw).mono ?_); rintro e w4 ⟨v4, rfl, o4, q4⟩
          obtain ⟨a4, c4, rfl, _, _, _⟩ := (OwnI.rd o4).len
          rw [HZ.out]
          have hou := Ownv.kept hou q4
          have hov := Ownv.kept hov q4
          go_wp2
          go_roundw
          case rel => exact ⟨k + 1, by omega, by go_num, ⟨u, v, rfl, rfl, by rw [HN1.out]; exact hou, by rw [HN2.out]; exact hov, hap⟩, hkw.trans q4⟩
          case measure => simp [intOf]; omega
        | true =>
          have hz : 0 < (res t y).length := by
            rw [hp] at hy4
            exact of_decide_eq_true hy4.symm
          have HZ := Shut.mk hz
          have HN1 := Shut.mk (selL_yes (a := fa) hp)
          have HN2 := Shut.mk (selL_yes (a := fc) hp)
          have HY2 := Shut.mk hy2
          clear hp hy4 hz hy3 hlt hy2
          generalize selL P fa k = ya at *
          generalize selL P fc k = yc at *
          generalize fa k = xa at *
          go_wp2_with fail
          (with_reducible refine (HR2.out _ hkw).mono ?_); rintro e w4 ⟨v4, rfl, o4, q4⟩
          obtain ⟨a4, c4, rfl, _, _, _⟩ := (OwnI.rd o4).len
          have hz2 : decide ((0 : Int) < ((res t y).length : Int)) = true := decide_eq_true (by have := HZ.out; omega)
          have hk4 := hkw.trans q4
          have x1 := HA.out _ hk4
          have x2 := HB9.out _ hk4
          have hsz := hk4.size
          have hk5 := hk4.alloc (.cells #[.int .i64 xa] 3)
          have hou := Ownv.kept (Ownv.kept hou q4) ((Kept.refl w4).alloc (.cells #[.int .i64 xa] 3))
          have hov := Ownv.kept (Ownv.kept hov q4) ((Kept.refl w4).alloc (.cells #[.int .i64 xa] 3))
          have hll : ya.length + 1 ≤ 10000000000 := by have := HS1.out; have := HK8.out; omega
          have hlm : yc.length + 1 ≤ 10000000000 := by have := HS2.out; have := HK8.out; omega
          have hz3 : (0 : Int) < ((res t y).length : Int) := by have := HZ.out; omega
          have hz4 : 0 < (res t y).length := HZ.out
          clear HZ
          generalize (res t y).length = rl at hz2 hz3 hz4 ⊢
          go_wp2_with (first | (at_builtin; refine go_appi w3.heap.size u ya rfl hou _ [xa] rfl (OwnI.rd (OwnI.lit1 w4 _)) hll (by simp; omega) ?_; intro u6 w6 o6 t6 l6; have k6 : Kept w3 w6 := Turn.keptOf hk5 t6 (fun b hb => (Ownv.lt hou hb).2); have x2 := HB9.out _ k6; have hov6 := Ownv.turn hov t6 hap; have k7 := k6.alloc (.cells #[.int .i64 (y : Int)] 3); have ov7 := Ownv.kept hov6 ((Kept.refl w6).alloc (.cells #[.int .i64 (y : Int)] 3)); have ou7 := Ownv.kept o6 ((Kept.refl w6).alloc (.cells #[.int .i64 (y : Int)] 3)); have sz7 := k6.size; have ap7 : ∀ b, Blks v b → ¬ Blks u6 b := fun b hb hb6 => (l6 b hb6).elim (hap b hb) (fun hge => by have := (Ownv.lt hov hb).1; omega)) | (at_builtin; refine go_appi w3.heap.size v yc rfl ov7 _ [(y : Int)] rfl (OwnI.rd (OwnI.lit1 w6 _)) hlm (by simp; omega) ?_; intro v8 w8 o8 t8 l8; have k8 : Kept w3 w8 := Turn.keptOf k7 t8 (fun b hb => (Ownv.lt ov7 hb).2); have ou8 := Ownv.turn ou7 t8 (fun b hb hbv => ap7 b hbv hb); have ap8 : ∀ b, Blks v8 b → ¬ Blks u6 b := fun b hb hb6 => (l8 b hb).elim (fun q => ap7 b q hb6) (fun hge => by have := (Ownv.lt ou7 hb6).1; omega)))
          go_roundw
          case rel => exact ⟨k + 1, by omega, by go_num, ⟨u6, v8, rfl, rfl, by rw [HN1.out]; exact ou8, by rw [HN2.out, HY2.out]; exact o8, ap8⟩, k8⟩
          case measure => simp [intOf]; omega
      · have e : k = q1.length := by omega
        have HE := Shut.mk (show k = L by have := HL1.out; have := HL2.out; omega)
        have i1 : ¬ (k : Int) < (q1.length : Int) := by omega
        clear e
        go_wp2
        go_ret3
        exact ⟨_, _, rfl, by rw [HD1.out, ← HE.out]; exact OwnI.rd hou, by rw [HD2.out, ← HE.out]; exact OwnI.rd hov, k3.trans hkw⟩
end Go.Proofs.YtekmdklobejbeaaDoor
end

section
/- Walk of the program's Path (written by gen_path.py). -/
set_option linter.unusedSimpArgs false
set_option linter.unusedVariables false
namespace Go.Proofs.YtekmdklobejbeaaDoor
open Go.RowKit
open Rt

set_option maxHeartbeats 16000000 in
set_option maxRecDepth 100000 in
theorem PPath_any {w : World} {tv : Value} {t : List TN} (ht : RdTs w tv t) (hok : ∀ d ∈ t, TnOk d) (hl : t.length ≤ 1000000) (hun : ∀ d ∈ t, d.un.length ≤ 1000) (hT : Tabs w) (i : Int) (hi : I64 i) :
    Calls Tryd.prog 10 #[tv, .int .i64 i] w (TwoPost w (okL t i) (pthN t i.toNat ((t.length + 1) / 2)) (pthO t i.toNat ((t.length + 1) / 2))) := by
  have HB := Lib.hid (pisLeaf_any ht hl i hi)
  have HC := Lib.hid (fun W (k : Kept w W) => pcheck_any (ht.kept k) hok hl hun (hT.kept k))
  have HLv := Lib.hid (fun W (k : Kept w W) => pleaves8_any (ht.kept k) hl)
  have HO := Shut.mk (show okL t i = (chkB t && islB t i) from rfl)
  obtain ⟨ta, tc, rfl, _, t9, _⟩ := ht.len
  cases ho : okL t i with
  | false =>
    cases hs : islB t i with
    | false =>
      rw [hs] at HB
      clear ho HO hs
      go_enter Tryd.func10, Tryd.ntmps10
      go_wp2_with fail
      (with_reducible refine HB.out.mono ?_); rintro e w1 ⟨rfl, k1⟩
      go_wp2
      go_ret3
      exact ⟨_, _, rfl, RdI.nil _, RdI.nil _, k1⟩
    | true =>
      have hc : chkB t = false := by have := HO.out; rw [ho, hs, Bool.and_true] at this; exact this.symm
      rw [hs] at HB
      rw [hc] at HC
      have HC2 : Hid (∀ W, Kept w W → Calls Tryd.prog 21 #[.slice ta t.length tc] W fun e w' => e = .returned (.int .i64 1) ∧ Kept W w') := HC
      clear ho HO hs hc HC
      go_enter Tryd.func10, Tryd.ntmps10
      go_wp2_with fail
      (with_reducible refine HB.out.mono ?_); rintro e w1 ⟨rfl, k1⟩
      go_wp2_with fail
      (with_reducible refine (HC2.out _ k1).mono ?_); rintro e w2 ⟨rfl, q2⟩
      go_wp2
      go_ret3
      exact ⟨_, _, rfl, RdI.nil _, RdI.nil _, k1.trans q2⟩
  | true =>
    have hs : islB t i = true := by have := HO.out; rw [ho] at this; exact (Bool.and_eq_true _ _ ▸ this.symm).2
    have hc : chkB t = true := (okL_iff.1 ho).1
    rw [hs] at HB
    rw [hc] at HC
    have HC2 : Hid (∀ W, Kept w W → Calls Tryd.prog 21 #[.slice ta t.length tc] W fun e w' => e = .returned (.int .i64 0) ∧ Kept W w') := HC
    obtain ⟨i, rfl, hin⟩ := okL_nat ho
    have m := chk_mayN (okL_iff.1 ho).1
    have hlen := m.len
    have hbd := fulls_bd m.hn
    rw [Int.toNat_natCast]
    skip
    generalize hN : (t.length + 1) / 2 = n at *
    have hin2 : inB (2 * (i : Int)) (n : Int) = true := inB_mk (treeB_mk m.hn) (by omega) (by omega)
    have pT := pathT_of m.hn hin
    have HP := Lib.hid (fun W (k : Kept w W) => Path_own (2 * (i : Int)) (n : Int) W ⟨by omega, by omega⟩ ⟨by omega, by omega⟩ (hT.kept k))
    have HQ := Lib.hid (fun W (k : Kept w W) => Copath_any (2 * (i : Int)) (n : Int) W ⟨by omega, by omega⟩ ⟨by omega, by omega⟩ (hT.kept k))
    rw [hin2, show (2 * (i : Int)).toNat = 2 * i by omega, Int.toNat_natCast] at HP HQ
    have HRs := Lib.hid (fun W (q : Kept w W) (x : Nat) (hx : x < 2 * n - 1) => presL_any m _ x rfl hx W _ (ht.kept q) (hT.kept q))
    have HD1 := Shut.mk (show pthN t i n = selL (pthP t i n) (fun k => (((Mth.path (2 * i) n).getD k 0 : Nat) : Int)) (Mth.path (2 * i) n).length from rfl)
    have HD2 := Shut.mk (show pthO t i n = selL (pthP t i n) (fun k => (((Mth.copath (2 * i) n).getD k 0 : Nat) : Int)) (Mth.path (2 * i) n).length from rfl)
    have HPP := Shut.mk (show ∀ k, pthP t i n k = decide (0 < (res t ((Mth.copath (2 * i) n).getD k 0)).length) from fun k => rfl)
    have HCin := Shut.mk pT.cin
    have hpl := pT.plen
    have HPg := Shut.mk (fun k (hk : k < (Mth.path (2 * i) n).length) => ints_get hk)
    have HCg := Shut.mk (fun k (hk : k < (Mth.path (2 * i) n).length) => ints_get (l := Mth.copath (2 * i) n) (show k < (Mth.copath (2 * i) n).length by rw [pT.clen]; exact hk))
    have hl1 : (ints (Mth.path (2 * i) n)).length = (Mth.path (2 * i) n).length := ints_len _
    have hl2 : (ints (Mth.copath (2 * i) n)).length = (Mth.path (2 * i) n).length := by rw [ints_len, pT.clen]
    have hwr : IntKind.i64.wrap (2 * (i : Int)) = 2 * (i : Int) := IntWalk.i64_in _ (by omega)
    have hlt63 : (t.length : Int) ≤ 511 := by omega
    have hi255 : (i : Int) ≤ 255 := by omega
    have HNn := Shut.mk (show ((t.length : Int) + 1) / 2 = (n : Int) by omega)
    clear ho HO hs hc HC hin2 pT hlen hbd
    generalize pthN t i n = o1 at HD1 ⊢
    generalize pthO t i n = o2 at HD2 ⊢
    generalize pthP t i n = P at HD1 HD2 HPP
    generalize ints (Mth.path (2 * i) n) = q1 at *
    generalize ints (Mth.copath (2 * i) n) = q2 at *
    generalize (Mth.path (2 * i) n).length = L at *
    generalize hA : (fun k => (((Mth.path (2 * i) n).getD k 0 : Nat) : Int)) = fa at HD1
    generalize hC : (fun k => (((Mth.copath (2 * i) n).getD k 0 : Nat) : Int)) = fc at HD2
    have HPg2 : Shut (∀ k, k < L → q1.getD k 0 = fa k) := ⟨fun k hk => by rw [HPg.out k hk, ← hA]⟩
    have HCg2 : Shut (∀ k, k < L → ∃ y : Nat, q2.getD k 0 = (y : Int) ∧ fc k = (y : Int) ∧ y < 2 * n - 1 ∧ P k = decide (0 < (res t y).length)) := ⟨fun k hk => ⟨_, HCg.out k hk, by rw [← hC], HCin.out k hk, HPP.out k⟩⟩
    clear HPg HCg HCin HPP hA hC
    have HL1 := Shut.mk hl1
    have HL2 := Shut.mk hl2
    clear hl1 hl2
    have HNN := Shut.mk hN
    clear hN m
    have HT := Lib.hid ht
    have HTb := Lib.hid hT
    clear ht hT hok
    go_enter Tryd.func10, Tryd.ntmps10
    go_wp2_with fail
    (with_reducible refine HB.out.mono ?_); rintro e w0 ⟨rfl, k0⟩
    go_wp2_with fail
    (with_reducible refine (HC2.out _ k0).mono ?_); rintro e w1 ⟨rfl, q1'⟩
    have k1 := k0.trans q1'
    go_wp2_with (go_at_call 27; refine (HLv.out _ k1).mono ?_; rintro e w1' ⟨rfl, rfl⟩)
    (with_reducible refine (HP.out _ k1).mono ?_); rintro e w2 ⟨v1, rfl, ho1, q2'⟩
    have k2 := k1.trans q2'
    simp only [er_true]
    go_wp2_with (go_at_call 27; refine (HLv.out _ k2).mono ?_; rintro e w2' ⟨rfl, rfl⟩)
    (with_reducible refine (HQ.out _ k2).mono ?_); rintro e w3 ⟨v2, rfl, ho2, q3'⟩
    have k3 := k2.trans q3'
    simp only [er_true]
    have r1 : RdI w3 v1 q1 := (OwnI.rd ho1).kept q3'
    have r2 : RdI w3 v2 q2 := ho2
    clear ho1 ho2
    obtain ⟨a1, c1, rfl, _, m1, _⟩ := r1.len
    obtain ⟨a2, c2, rfl, _, m2, _⟩ := r2.len
    have q63 : ((q1.length : Nat) : Int) ≤ 9223372036854775807 := by unfold maxLen at m1; omega
    have q64 : ((q2.length : Nat) : Int) ≤ 9223372036854775807 := by unfold maxLen at m2; omega
    go_wp2
    go_loopw [11, 12, 42] (fun l1 l2 c wr => ∃ k : Nat, k ≤ q2.length ∧ c = .int .i64 k ∧ (∃ u v, u = l1 ∧ v = l2 ∧ OwnI w3.heap.size wr u (selL P fa k) ∧ OwnI w3.heap.size wr v (selL P fc k) ∧ ∀ b, Blks v b → ¬ Blks u b) ∧ Kept w3 wr) (fun _ _ c _ => q2.length - (intOf c).toNat)
    case atStart => exact ⟨0, Nat.zero_le _, rfl, ⟨_, _, rfl, rfl, OwnI.nil _ _, OwnI.nil _ _, fun b h => absurd h blks_none⟩, Kept.refl _⟩
    case round =>
      obtain ⟨k, hk0, rfl, ⟨u, v, rfl, rfl, hou, hov, hap⟩, hkw⟩ := hrel
      by_cases hlt : k < q2.length
      · have hkL : k < L := by have := HL1.out; have := HL2.out; omega
        obtain ⟨rb, ro, rc, hrv, _, _, hrb, hcl⟩ := r1.addr (by have := HL1.out; omega)
        simp only [Value.slice.injEq] at hrv
        obtain ⟨rfl, _, rfl⟩ := hrv
        obtain ⟨sb, so, sc, hsv, _, _, hsb, hcs⟩ := r2.addr (by have := HL2.out; omega)
        simp only [Value.slice.injEq] at hsv
        obtain ⟨rfl, _, rfl⟩ := hsv
        have HA := Lib.hid (fun W (q : Kept w3 W) => (q.cell (p := ⟨rb, ro + k, none⟩) hrb).trans ((hcl k (by have := HL1.out; omega)).trans (by rw [HPg2.out k hkL])))
        obtain ⟨y, hy1, hy2, hy3, hy4⟩ := HCg2.out k hkL
        have HB9 := Lib.hid (fun W (q : Kept w3 W) => (q.cell (p := ⟨sb, so + k, none⟩) hsb).trans ((hcs k (by have := HL2.out; omega)).trans (by rw [hy1])))
        clear hcl hcs hy1 hkL
        have x1 := HA.out _ hkw
        have x2 := HB9.out _ hkw
        have HR2 := Lib.hid (fun W (q : Kept w3 W) => HRs.out W (k3.trans q) y hy3)
        have i0 : (0 : Int) ≤ (k : Int) := by omega
        have i1 : (k : Int) < (q1.length : Int) := by have := HL1.out; have := HL2.out; omega
        have i2 : (k : Int) < (q2.length : Int) := by have := HL1.out; have := HL2.out; omega
        have HS1 := Shut.mk (selL_len P fa k)
        have HS2 := Shut.mk (selL_len P fc k)
        have HK8 : Shut (k ≤ 8) := ⟨by have := HL1.out; have := HL2.out; omega⟩
        cases hp : P k with
        | false =>
          have hz : (res t y).length = 0 := by
            rw [hp] at hy4
            have := of_decide_eq_false hy4.symm
            omega
          have HZ := Shut.mk hz
          have HN1 := Shut.mk (selL_no (a := fa) hp)
          have HN2 := Shut.mk (selL_no (a := fc) hp)
          clear hp hy4 hz hy3 hlt
          go_wp2_with fail
          (with_reducible refine (HR2.out _ hkw).mono ?_); rintro e w4 ⟨v4, rfl, o4, q4⟩
          obtain ⟨a4, c4, rfl, _, _, _⟩ := (OwnI.rd o4).len
          rw [HZ.out]
          have hou := Ownv.kept hou q4
          have hov := Ownv.kept hov q4
          go_wp2
          go_roundw
          case rel => exact ⟨k + 1, by omega, by go_num, ⟨u, v, rfl, rfl, by rw [HN1.out]; exact hou, by rw [HN2.out]; exact hov, hap⟩, hkw.trans q4⟩
          case measure => simp [intOf]; omega
        | true =>
          have hz : 0 < (res t y).length := by
            rw [hp] at hy4
            exact of_decide_eq_true hy4.symm
          have HZ := Shut.mk hz
          have HN1 := Shut.mk (selL_yes (a := fa) hp)
          have HN2 := Shut.mk (selL_yes (a := fc) hp)
          have HY2 := Shut.mk hy2
          clear hp hy4 hz hy3 hlt hy2
          generalize selL P fa k = ya at *
          generalize selL P fc k = yc at *
          generalize fa k = xa at *
          go_wp2_with fail
          (with_reducible refine (HR2.out _ hkw).mono ?_); rintro e w4 ⟨v4, rfl, o4, q4⟩
          obtain ⟨a4, c4, rfl, _, _, _⟩ := (OwnI.rd o4).len
          have hz2 : decide ((0 : Int) < ((res t y).length : Int)) = true := decide_eq_true (by have := HZ.out; omega)
          have hk4 := hkw.trans q4
          have x1 := HA.out _ hk4
          have x2 := HB9.out _ hk4
          have hsz := hk4.size
          have hk5 := hk4.alloc (.cells #[.int .i64 xa] 3)
          have hou := Ownv.kept (Ownv.kept hou q4) ((Kept.refl w4).alloc (.cells #[.int .i64 xa] 3))
          have hov := Ownv.kept (Ownv.kept hov q4) ((Kept.refl w4).alloc (.cells #[.int .i64 xa] 3))
          have hll : ya.length + 1 ≤ 10000000000 := by have := HS1.out; have := HK8.out; omega
          have hlm : yc.length + 1 ≤ 10000000000 := by have := HS2.out; have := HK8.out; omega
          have hz3 : (0 : Int) < ((res t y).length : Int) := by have := HZ.out; omega
          have hz4 : 0 < (res t y).length := HZ.out
          clear HZ
          generalize (res t y).length = rl at hz2 hz3 hz4 ⊢
          go_wp2_with (first | (at_builtin; refine go_appi w3.heap.size u ya rfl hou _ [xa] rfl (OwnI.rd (OwnI.lit1 w4 _)) hll (by simp; omega) ?_; intro u6 w6 o6 t6 l6; have k6 : Kept w3 w6 := Turn.keptOf hk5 t6 (fun b hb => (Ownv.lt hou hb).2); have x2 := HB9.out _ k6; have hov6 := Ownv.turn hov t6 hap; have k7 := k6.alloc (.cells #[.int .i64 (y : Int)] 3); have ov7 := Ownv.kept hov6 ((Kept.refl w6).alloc (.cells #[.int .i64 (y : Int)] 3)); have ou7 := Ownv.kept o6 ((Kept.refl w6).alloc (.cells #[.int .i64 (y : Int)] 3)); have sz7 := k6.size; have ap7 : ∀ b, Blks v b → ¬ Blks u6 b := fun b hb hb6 => (l6 b hb6).elim (hap b hb) (fun hge => by have := (Ownv.lt hov hb).1; omega)) | (at_builtin; refine go_appi w3.heap.size v yc rfl ov7 _ [(y : Int)] rfl (OwnI.rd (OwnI.lit1 w6 _)) hlm (by simp; omega) ?_; intro v8 w8 o8 t8 l8; have k8 : Kept w3 w8 := Turn.keptOf k7 t8 (fun b hb => (Ownv.lt ov7 hb).2); have ou8 := Ownv.turn ou7 t8 (fun b hb hbv => ap7 b hbv hb); have ap8 : ∀ b, Blks v8 b → ¬ Blks u6 b := fun b hb hb6 => (l8 b hb).elim (fun q => ap7 b q hb6) (fun hge => by have := (Ownv.lt ou7 hb6).1; omega)))
          go_roundw
          case rel => exact ⟨k + 1, by omega, by go_num, ⟨u6, v8, rfl, rfl, by rw [HN1.out]; exact ou8, by rw [HN2.out, HY2.out]; exact o8, ap8⟩, k8⟩
          case measure => simp [intOf]; omega
      · have e : k = q2.length := by omega
        have HE := Shut.mk (show k = L by have := HL1.out; have := HL2.out; omega)
        have i1 : ¬ (k : Int) < (q2.length : Int) := by omega
        clear e
        go_wp2
        go_ret3
        exact ⟨_, _, rfl, by rw [HD1.out, ← HE.out]; exact OwnI.rd hou, by rw [HD2.out, ← HE.out]; exact OwnI.rd hov, k3.trans hkw⟩
end Go.Proofs.YtekmdklobejbeaaDoor
end

section
/- The walk of the statement ResolveTells. -/
set_option linter.unusedSimpArgs false
set_option linter.unusedVariables false
namespace Go.Proofs.YtekmdklobejbeaaDoor
open Go.RowKit
open Rt

set_option maxHeartbeats 8000000 in
set_option maxRecDepth 100000 in
theorem tells_any {tv : Value} {t : List TN} {w : World} (ht : RdTs w tv t) (hok : ∀ d ∈ t, TnOk d) {x i : Int} (hx : I64 x) (hi : I64 i) (hT : Tabs w) :
    Calls Tryd.prog 3 #[tv, .int .i64 x, .int .i64 i] w fun e w' => e = .returned (.bool true) ∧ Kept w w' := by
  have HL := Lib.hid (live08_any w hT)
  have HF := Lib.hid (fun W (k : Kept w W) => few08_any (ht.kept k))
  have HPR := Lib.hid (fun (h : FewT8 t) W (k : Kept w W) => PResolution_any (ht.kept k) hok (few8_fit h).1 (few8_fit h).2 (hT.kept k) x hx)
  have HRR := Lib.hid (fun W (k : Kept w W) => RResolution_any (ht.kept k) hok (hT.kept k) x hx)
  have HPP := Lib.hid (fun (h : FewT8 t) W (k : Kept w W) => PPath_any (ht.kept k) hok (few8_fit h).1 (few8_fit h).2 (hT.kept k) i hi)
  have HRP := Lib.hid (fun W (k : Kept w W) => RPath8_any (ht.kept k) hok (hT.kept k) i hi)
  have HS := Lib.hid (fun W (u v : Value) (a b : List Int) (ha : RdI W u a) (hb : RdI W v b) (h : a = b) => sameI_yes ha hb h)
  obtain ⟨ta, tc, rfl, _, _, _⟩ := ht.len
  unfold OwnPost at HPR HRR
  unfold TwoPost at HPP HRP
  unfold FewPost8 at HF
  generalize (bif okN t x then res t x.toNat else []) = l at *
  generalize er (okN t x) = eN at *
  generalize (bif okL t i then pthN t i.toNat ((t.length + 1) / 2) else []) = l1 at *
  generalize (bif okL t i then pthO t i.toNat ((t.length + 1) / 2) else []) = l2 at *
  generalize er (okL t i) = eL at *
  clear ht hok hT hx hi
  go_enter Tryd.func3, Tryd.ntmps3
  go_wp2_with fail
  (with_reducible refine HL.out.mono ?_); rintro e w1 ⟨rfl, k1⟩
  go_wp2_with fail
  (with_reducible refine (HF.out _ k1).mono ?_); rintro e w2 ⟨r, rfl, hr, q2⟩
  have k2 := k1.trans q2
  cases r with
  | false =>
    clear hr
    go_wp2
    go_ret
    exact ⟨rfl, k2⟩
  | true =>
    have hfw := hr rfl
    clear hr
    have HFW := Shut.mk hfw
    clear hfw
    go_wp2_with fail
    (with_reducible refine (HPR.out HFW.out _ k2).mono ?_); rintro e w3 ⟨va, rfl, oa, q3⟩
    have k3 := k2.trans q3
    have ra := OwnI.rd oa
    obtain ⟨aa, ca, rfl, _, _, _⟩ := ra.len
    clear oa
    go_wp2_with fail
    (with_reducible refine (HRR.out _ k3).mono ?_); rintro e w4 ⟨vb, rfl, ob, q4⟩
    have k4 := k3.trans q4
    have ra := ra.kept q4
    have rb := OwnI.rd ob
    obtain ⟨ab, cb, rfl, _, _, _⟩ := rb.len
    clear ob
    go_wp2_with fail
    (with_reducible refine (HPP.out HFW.out _ k4).mono ?_); rintro e w5 ⟨vc, vd, rfl, rc, rd, q5⟩
    have k5 := k4.trans q5
    have ra := ra.kept q5
    have rb := rb.kept q5
    obtain ⟨ac, cc, rfl, _, _, _⟩ := rc.len
    obtain ⟨ad, cd, rfl, _, _, _⟩ := rd.len
    go_wp2_with fail
    (with_reducible refine (HRP.out _ k5).mono ?_); rintro e w6 ⟨vp, vq, rfl, rp, rq, q6⟩
    have k6 := k5.trans q6
    have ra := ra.kept q6
    have rb := rb.kept q6
    have rc := rc.kept q6
    have rd := rd.kept q6
    obtain ⟨ap, cp, rfl, _, _, _⟩ := rp.len
    obtain ⟨aq, cq, rfl, _, _, _⟩ := rq.len
    have H1 := Lib.hid (HS.out _ _ _ _ _ ra rb rfl)
    have H2 := Lib.hid (fun W (k : Kept w6 W) => HS.out _ _ _ _ _ (rc.kept k) (rp.kept k) rfl)
    have H3 := Lib.hid (fun W (k : Kept w6 W) => HS.out _ _ _ _ _ (rd.kept k) (rq.kept k) rfl)
    go_wp2_with fail
    (with_reducible refine H1.out.mono ?_); rintro e w7 ⟨rfl, q7⟩
    go_wp2_with fail
    (with_reducible refine (H2.out _ q7).mono ?_); rintro e w8 ⟨rfl, q8⟩
    go_wp2_with fail
    (with_reducible refine (H3.out _ (q7.trans q8)).mono ?_); rintro e w9 ⟨rfl, q9⟩
    go_wp2
    go_ret
    exact ⟨rfl, k6.trans ((q7.trans q8).trans q9)⟩
end Go.Proofs.YtekmdklobejbeaaDoor
end
