/- The walk of the statement MathCopath. -/
import Derived.Test.YtlohedmpcjpaeaaDoorMthL
set_option linter.unusedSimpArgs false
set_option linter.unusedVariables false
namespace Go.Proofs.YtlohedmpcjpaeaaDoor
open Go.RowKit

theorem cnt_snoc (b : Nat) (l : List Nat) (y : Nat) : Mth.cnt b (l ++ [y]) = Mth.cnt b l + (bif Mth.hasB y b then 1 else 0) := by
  induction l with
  | nil => simp [Mth.cnt]
  | cons z l ih => show _ + Mth.cnt b (l ++ [y]) = _ + Mth.cnt b l + _; rw [ih]; omega
theorem cnt_pos {b y : Nat} {l : List Nat} (hm : y ∈ l) (h : Mth.hasB y b = true) : 1 ≤ Mth.cnt b l := by
  induction l with
  | nil => cases hm
  | cons z l ih =>
    show 1 ≤ (bif Mth.hasB z b then 1 else 0) + Mth.cnt b l
    rcases List.mem_cons.1 hm with rfl | hm
    · rw [h]; simp only [cond_true]; omega
    · have := ih hm; omega
theorem cnt_uniq {b y z : Nat} {l : List Nat} (h1 : Mth.cnt b l = 1) (hy : y ∈ l) (hz : z ∈ l) (ay : Mth.hasB y b = true) (az : Mth.hasB z b = true) : y = z := by
  induction l with
  | nil => cases hy
  | cons u l ih =>
    have h1 : (bif Mth.hasB u b then 1 else 0) + Mth.cnt b l = 1 := h1
    rcases List.mem_cons.1 hy with e | hy <;> rcases List.mem_cons.1 hz with e2 | hz
    · rw [e, e2]
    · have := cnt_pos hz az
      rw [← e, ay] at h1
      simp only [cond_true] at h1; omega
    · have := cnt_pos hy ay
      rw [← e2, az] at h1
      simp only [cond_true] at h1; omega
    · refine ih ?_ hy hz
      have := cnt_pos hy ay
      omega
theorem take_snoc_nat {l : List Nat} {c : Nat} (h : c < l.length) : l.take (c + 1) = l.take c ++ [l.getD c 0] := by
  rw [List.take_succ_eq_append_getElem h, List.getD_eq_getElem?_getD, List.getElem?_eq_getElem h]; rfl
/-- Each node of a copath is a node of the tree, and not its root. -/
theorem copath_mem {x n c : Nat} (hn : n ∈ Mth.fulls) (hx : x < 2 * n - 1) (hc : c < (Mth.copath x n).length) : (Mth.copath x n).getD c 0 < 2 * n - 1 ∧ (Mth.copath x n).getD c 0 ≠ n - 1 := by
  have hp := Mth.path_of hn hx
  have hl : (Mth.copath x n).length = _ := hp.clen
  obtain ⟨_, a2, a3, a4, _⟩ := hp.at' c (by omega)
  have a2 : (Mth.copath x n).getD c 0 = Mth.sib (Mth.itr c x) := a2
  rw [a2]
  have st := Mth.step_at hn a3 a4
  refine ⟨st.inS, fun e => ?_⟩
  have a := st.same
  rw [e, par_root hn] at a
  have := st.inP
  have := (fulls_bd hn).1
  omega
theorem copath_len {x n : Nat} (hn : n ∈ Mth.fulls) (hx : x < 2 * n - 1) : (Mth.copath x n).length ≤ 8 := by
  have hp := Mth.path_of hn hx
  have hl : (Mth.copath x n).length = _ := hp.clen
  have := lvl_top hn
  omega
/-- What the document says of two leaves, as the statement asks it. -/
theorem meet_facts {a b n : Nat} (hn : n ∈ Mth.fulls) (ha : 2 * a < 2 * n - 1) (hb : 2 * b < 2 * n - 1) (hne : a ≠ b) :
    Mth.cnt b (Mth.copath (2 * a) n) = 1 ∧ ∀ y ∈ Mth.copath (2 * a) n, Mth.hasB y b = true → Mth.par y = Mth.comc (2 * a) (2 * b) := by
  obtain ⟨h1, y, h2, h3, h4⟩ := Mth.meet_leaves' hn (i := a) (j := b) (by omega) (by omega) hne
  exact ⟨h1, fun z hz az => by rw [h4, cnt_uniq h1 hz h2 az h3]⟩
set_option maxHeartbeats 4000000 in
set_option maxRecDepth 100000 in
theorem copath_core (a b n : Nat) (hn : n ∈ Mth.fulls) (ha : 2 * a < 2 * n - 1) (hb : 2 * b < 2 * n - 1) (hne : a ≠ b) {w : World} (ht : Tabs w) :
    Calls Tryd.prog 7 #[.int .i64 a, .int .i64 b, .int .i64 n] w fun e w' => e = .returned (.bool true) ∧ Kept w w' := by
  have HL := Lib.hid (live_any w ht)
  have hnb := fulls_bd hn
  obtain ⟨m1, m2⟩ := meet_facts hn ha hb hne
  have hcm := fun c h => copath_mem (c := c) hn ha h
  have hcl := copath_len hn ha
  have e1 : ((a : Int) == (b : Int)) = false := by rw [beq_eq_false_iff_ne]; omega
  have HC1 : Hid (∀ W, Kept w W → Calls Tryd.prog 29 #[.int .i64 (2 * (a : Int)), .int .i64 n] W (OkPost W (ints (Mth.copath (2 * a) n)))) := Lib.hid (fun W kk => by
    have := Copath_any ((2 * a : Nat) : Int) n W ⟨by omega, by omega⟩ ⟨by omega, by omega⟩ (ht.kept kk)
    rw [nat_in hn ha] at this
    exact this)
  have HC2 : Hid (∀ W, Kept w W → Calls Tryd.prog 29 #[.int .i64 (2 * (b : Int)), .int .i64 n] W (OkPost W (ints (Mth.copath (2 * b) n)))) := Lib.hid (fun W kk => by
    have := Copath_any ((2 * b : Nat) : Int) n W ⟨by omega, by omega⟩ ⟨by omega, by omega⟩ (ht.kept kk)
    rw [nat_in hn hb] at this
    exact this)
  have HCm : Hid (∀ W, Kept w W → Calls Tryd.prog 32 #[.int .i64 (2 * (a : Int)), .int .i64 (2 * (b : Int)), .int .i64 n] W fun e w' => e = .returned (.tuple #[.int .i64 (Mth.comc (2 * a) (2 * b) : Nat), .int .i64 0]) ∧ Kept W w') := Lib.hid (fun W kk => by
    have := Common_any ((2 * a : Nat) : Int) ((2 * b : Nat) : Int) n W ⟨by omega, by omega⟩ ⟨by omega, by omega⟩ ⟨by omega, by omega⟩ (ht.kept kk)
    rw [nat_in hn ha, nat_in hn hb] at this
    exact this)
  generalize ints (Mth.copath (2 * b) n) = l2 at HC2
  generalize Mth.comc (2 * a) (2 * b) = cc at HCm m2
  generalize hcl0 : Mth.copath (2 * a) n = l at HC1 m1 m2 hcm hcl
  have HM1 := Shut.mk m1
  have HM2 := Shut.mk m2
  have HCM := Shut.mk hcm
  have HCL := Shut.mk hcl
  have HN := Shut.mk hn
  have hll : (ints l).length = l.length := ints_len l
  have a0 : (0 : Int) ≤ (a : Int) := by omega
  have a1 : (a : Int) ≤ 300 := by omega
  have b0 : (0 : Int) ≤ (b : Int) := by omega
  have b1 : (b : Int) ≤ 300 := by omega
  have d1 : decide ((a : Int) < 0) = false := decide_eq_false (by omega)
  have d2 : decide ((b : Int) < 0) = false := decide_eq_false (by omega)
  have d3 : decide (300 < (a : Int)) = false := decide_eq_false (by omega)
  have d4 : decide (300 < (b : Int)) = false := decide_eq_false (by omega)
  clear m1 m2 hcm hcl0 ha hb hne hn hll hcl
  go_enter Tryd.func7, Tryd.ntmps7
  go_wp2_with fail
  refine HL.out.mono ?_; rintro e w1 ⟨rfl, k1⟩
  go_wp2_with fail
  refine (HC1.out _ k1).mono ?_; rintro e w2 ⟨cv, rfl, rc, q⟩
  have k2 := k1.trans q
  clear q k1
  go_wp2_with fail
  refine (HC2.out _ k2).mono ?_; rintro e w3 ⟨cv2, rfl, _, q⟩
  have k3 := k2.trans q
  have rc := rc.kept q
  clear q k2
  obtain ⟨pa, pc, rfl, _, hpc, _⟩ := rc.len
  have q63 : ((l.length : Nat) : Int) ≤ 9223372036854775807 := by have := HCL.out; omega
  rw [ints_len] at *
  go_wp2_with fail
  go_loopw [12, 13, 67] (fun m at' c wr => ∃ (i : Nat) (z : Int), i ≤ l.length ∧ c = .int .i64 i ∧ m = .int .i64 (Mth.cnt b (l.take i) : Nat) ∧ at' = .int .i64 z ∧ (Mth.cnt b (l.take i) ≠ 0 → ∃ y : Nat, z = y ∧ y ∈ l ∧ Mth.hasB y b = true) ∧ Kept w3 wr) (fun _ _ c _ => l.length - (intOf c).toNat)
  case atStart => exact ⟨0, -1, Nat.zero_le _, rfl, rfl, rfl, fun h => absurd rfl h, Kept.refl _⟩
  case round =>
    obtain ⟨i, z, hi, rfl, rfl, rfl, hat, hk⟩ := hrel
    have HAt := Shut.mk hat
    clear hat
    have kk := k3.trans hk
    by_cases hlt : i < l.length
    · obtain ⟨y1, y2⟩ := HCM.out i hlt
      obtain ⟨rb, ro, rcp, hrv, _, _, hrb, hcl⟩ := rc.addr (by rw [ints_len]; omega)
      simp only [Value.slice.injEq] at hrv
      obtain ⟨rfl, -, rfl⟩ := hrv
      have x1 := hk.cell (p := ⟨rb, ro + i, none⟩) hrb |>.trans (hcl i (by rw [ints_len]; exact hlt))
      rw [ints_get hlt] at x1
      have HT := Shut.mk (show Mth.cnt b (l.take (i + 1)) = Mth.cnt b (l.take i) + (bif Mth.hasB (l.getD i 0) b then 1 else 0) by rw [take_snoc_nat hlt, cnt_snoc])
      have HMem := Shut.mk (show l.getD i 0 ∈ l by rw [List.getD_eq_getElem?_getD, List.getElem?_eq_getElem hlt]; exact List.getElem_mem hlt)
      clear hcl
      generalize l.getD i 0 = y at y1 y2 x1 HT HMem
      have HLv : Hid (∀ W, Kept w W → Calls Tryd.prog 21 #[.int .i64 y] W fun e w' => e = .returned (.tuple #[.int .i64 (Mth.lo y : Nat), .int .i64 (Mth.hi y : Nat), .int .i64 0]) ∧ Kept W w') := Lib.hid (fun W kq => by
        have := Leaves_any y W ⟨by omega, by omega⟩ (ht.kept kq)
        rw [in_any (show y < 511 by omega)] at this
        exact this)
      have hcb : Mth.cnt b (l.take i) ≤ 1 := by
        have h0 := HM1.out
        have : ∀ (l1 l2 : List Nat), Mth.cnt b (l1 ++ l2) = Mth.cnt b l1 + Mth.cnt b l2 := by
          intro l1 l2
          induction l1 with
          | nil => show Mth.cnt b l2 = 0 + _; omega
          | cons u l1 ih => show _ + Mth.cnt b (l1 ++ l2) = _ + Mth.cnt b l1 + _; rw [ih]; omega
        have h2 := this (l.take i) (l.drop i)
        rw [List.take_append_drop] at h2
        omega
      generalize Mth.cnt b (l.take i) = ct at HT HAt hcb
      have c0 : (0 : Int) ≤ (ct : Int) := by omega
      have c1 : (ct : Int) ≤ 1 := by omega
      have i0 : (0 : Int) ≤ (i : Int) := by omega
      cases hh : Mth.hasB y b with
      | true =>
        have hh2 := Mth.hasB_iff.1 hh
        rw [hh] at HT
        have HH := Shut.mk hh
        clear hh
        generalize Mth.lo y = lo at HLv hh2
        generalize Mth.hi y = hi at HLv hh2
        have g1 : decide (lo ≤ b) = true := decide_eq_true hh2.1
        have g2 : decide (b < hi) = true := decide_eq_true hh2.2
        go_wp2_with fail
        refine (HLv.out _ kk).mono ?_; rintro e w4 ⟨rfl, q4⟩
        go_wp2
        go_roundw
        case rel => exact ⟨i + 1, y, hlt, by go_num, by rw [HT.out]; rfl, rfl, fun _ => ⟨y, rfl, HMem.out, HH.out⟩, hk.trans q4⟩
        case measure => simp [intOf]; omega
      | false =>
        have hh2 : ¬ (Mth.lo y ≤ b ∧ b < Mth.hi y) := fun c => by rw [Mth.hasB_iff.2 c] at hh; cases hh
        rw [hh] at HT
        clear hh
        generalize Mth.lo y = lo at HLv hh2
        generalize Mth.hi y = hi at HLv hh2
        by_cases g1 : lo ≤ b
        · have d5 : decide (lo ≤ b) = true := decide_eq_true g1
          have d6 : decide (b < hi) = false := decide_eq_false (by omega)
          go_wp2_with fail
          refine (HLv.out _ kk).mono ?_; rintro e w4 ⟨rfl, q4⟩
          go_wp2
          go_roundw
          case rel => exact ⟨i + 1, z, hlt, by go_num, by rw [HT.out]; rfl, rfl, fun h => HAt.out (by have := HT.out; simp only [cond_false] at this; omega), hk.trans q4⟩
          case measure => simp [intOf]; omega
        · have d5 : decide (lo ≤ b) = false := decide_eq_false g1
          go_wp2_with fail
          refine (HLv.out _ kk).mono ?_; rintro e w4 ⟨rfl, q4⟩
          go_wp2
          go_roundw
          case rel => exact ⟨i + 1, z, hlt, by go_num, by rw [HT.out]; rfl, rfl, fun h => HAt.out (by have := HT.out; simp only [cond_false] at this; omega), hk.trans q4⟩
          case measure => simp [intOf]; omega
    · have e : i = l.length := by omega
      have hone : Mth.cnt b (l.take i) = 1 := by rw [e, List.take_length]; exact HM1.out
      obtain ⟨y, rfl, hy, hyb⟩ := HAt.out (by omega)
      rw [hone]
      have hpar := HM2.out y hy hyb
      obtain ⟨c, hc, hg⟩ := List.getElem_of_mem hy
      have hym := HCM.out c hc
      rw [List.getD_eq_getElem?_getD, List.getElem?_eq_getElem hc, hg] at hym
      have hym : y < 2 * n - 1 ∧ y ≠ n - 1 := hym
      have HPr : Hid (∀ W, Kept w W → Calls Tryd.prog 23 #[.int .i64 y, .int .i64 n] W fun e w' => e = .returned (.tuple #[.int .i64 cc, .int .i64 0]) ∧ Kept W w') := Lib.hid (fun W kq => by
        have := Parent_any y n W ⟨by omega, by omega⟩ ⟨by omega, by omega⟩ (ht.kept kq)
        rw [upB_nat HN.out hym.1, decide_eq_true hym.2] at this
        rw [← hpar]; exact this)
      have HE := Shut.mk e
      have q1 : ¬ (i : Int) < (l.length : Int) := by omega
      clear hone hpar hym hg hc hy hyb HAt e
      go_wp2_with fail
      refine (HPr.out _ kk).mono ?_; rintro e w4 ⟨rfl, q4⟩
      have k4 := kk.trans q4
      go_wp2_with fail
      refine (HCm.out _ k4).mono ?_; rintro e w5 ⟨rfl, q5⟩
      go_wp2
      go_ret
      exact ⟨rfl, k4.trans q5⟩
set_option maxHeartbeats 4000000 in
set_option maxRecDepth 100000 in
theorem copath_out0 (i j n : Int) {w : World} (ht : Tabs w) (d0 : decide (i < 0) = true) : Calls Tryd.prog 7 #[.int .i64 i, .int .i64 j, .int .i64 n] w fun e w' => e = .returned (.bool true) ∧ Kept w w' := by
  have HL := Lib.hid (live_any w ht)
  go_enter Tryd.func7, Tryd.ntmps7
  go_wp2_with fail
  refine HL.out.mono ?_; rintro e w1 ⟨rfl, k1⟩
  go_wp2
  go_ret
  exact ⟨rfl, k1⟩
set_option maxHeartbeats 4000000 in
set_option maxRecDepth 100000 in
theorem copath_out1 (i j n : Int) {w : World} (ht : Tabs w) (d0 : decide (i < 0) = false) (d1 : decide (j < 0) = true) : Calls Tryd.prog 7 #[.int .i64 i, .int .i64 j, .int .i64 n] w fun e w' => e = .returned (.bool true) ∧ Kept w w' := by
  have HL := Lib.hid (live_any w ht)
  go_enter Tryd.func7, Tryd.ntmps7
  go_wp2_with fail
  refine HL.out.mono ?_; rintro e w1 ⟨rfl, k1⟩
  go_wp2
  go_ret
  exact ⟨rfl, k1⟩
set_option maxHeartbeats 4000000 in
set_option maxRecDepth 100000 in
theorem copath_out2 (i j n : Int) {w : World} (ht : Tabs w) (d0 : decide (i < 0) = false) (d1 : decide (j < 0) = false) (d2 : decide (300 < i) = true) : Calls Tryd.prog 7 #[.int .i64 i, .int .i64 j, .int .i64 n] w fun e w' => e = .returned (.bool true) ∧ Kept w w' := by
  have HL := Lib.hid (live_any w ht)
  go_enter Tryd.func7, Tryd.ntmps7
  go_wp2_with fail
  refine HL.out.mono ?_; rintro e w1 ⟨rfl, k1⟩
  go_wp2
  go_ret
  exact ⟨rfl, k1⟩
set_option maxHeartbeats 4000000 in
set_option maxRecDepth 100000 in
theorem copath_out3 (i j n : Int) {w : World} (ht : Tabs w) (d0 : decide (i < 0) = false) (d1 : decide (j < 0) = false) (d2 : decide (300 < i) = false) (d3 : decide (300 < j) = true) : Calls Tryd.prog 7 #[.int .i64 i, .int .i64 j, .int .i64 n] w fun e w' => e = .returned (.bool true) ∧ Kept w w' := by
  have HL := Lib.hid (live_any w ht)
  go_enter Tryd.func7, Tryd.ntmps7
  go_wp2_with fail
  refine HL.out.mono ?_; rintro e w1 ⟨rfl, k1⟩
  go_wp2
  go_ret
  exact ⟨rfl, k1⟩
set_option maxHeartbeats 4000000 in
set_option maxRecDepth 100000 in
theorem copath_out4 (i j n : Int) {w : World} (ht : Tabs w) (d0 : decide (i < 0) = false) (d1 : decide (j < 0) = false) (d2 : decide (300 < i) = false) (d3 : decide (300 < j) = false) (d4 : (i == j) = true) : Calls Tryd.prog 7 #[.int .i64 i, .int .i64 j, .int .i64 n] w fun e w' => e = .returned (.bool true) ∧ Kept w w' := by
  have HL := Lib.hid (live_any w ht)
  go_enter Tryd.func7, Tryd.ntmps7
  go_wp2_with fail
  refine HL.out.mono ?_; rintro e w1 ⟨rfl, k1⟩
  go_wp2
  go_ret
  exact ⟨rfl, k1⟩
set_option maxHeartbeats 4000000 in
set_option maxRecDepth 100000 in
theorem copath_no1 (i j n : Int) (hi : 0 ≤ i ∧ i ≤ 300) (hj : 0 ≤ j ∧ j ≤ 300) (hne : i ≠ j) (hn : I64 n) {w : World} (ht : Tabs w) (h1 : inB (2 * i) n = false) : Calls Tryd.prog 7 #[.int .i64 i, .int .i64 j, .int .i64 n] w fun e w' => e = .returned (.bool true) ∧ Kept w w' := by
  have HL := Lib.hid (live_any w ht)
  obtain ⟨i0, i1⟩ := hi
  obtain ⟨j0, j1⟩ := hj
  have d0 : decide (i < 0) = false := decide_eq_false (by omega)
  have d1 : decide (j < 0) = false := decide_eq_false (by omega)
  have d2 : decide (300 < i) = false := decide_eq_false (by omega)
  have d3 : decide (300 < j) = false := decide_eq_false (by omega)
  have d4 : (i == j) = false := by rw [beq_eq_false_iff_ne]; exact hne
  clear hne
  have H1 := Lib.hid (fun W (kk : Kept w W) => (Copath_any (2 * i) n W ⟨by omega, by omega⟩ hn (ht.kept kk)).mono fun e w' h => ListPost.no h h1)
  have H2 : Hid (∀ W, Kept w W → Calls Tryd.prog 29 #[.int .i64 (2 * j), .int .i64 n] W (ListPost W (inB (2 * j) n) (ints (Mth.copath (2 * j).toNat n.toNat)))) := Lib.hid (fun W kk => Copath_any (2 * j) n W ⟨by omega, by omega⟩ hn (ht.kept kk))
  unfold ListPost at H2
  generalize er (inB (2 * j) n) = e2 at H2
  go_enter Tryd.func7, Tryd.ntmps7
  go_wp2_with fail
  refine HL.out.mono ?_; rintro e w1 ⟨rfl, k1⟩
  go_wp2_with fail
  refine (H1.out _ k1).mono ?_; rintro e w2 ⟨cv, rfl, _, q⟩
  replace k1 := k1.trans q
  clear q
  go_wp2_with fail
  refine (H2.out _ k1).mono ?_; rintro e w3 ⟨cv2, rfl, QQ⟩
  have q : Kept w2 w3 := by first | exact QQ.2 | exact QQ.2.2
  clear QQ
  go_wp2
  go_ret
  exact ⟨rfl, k1.trans q⟩
set_option maxHeartbeats 4000000 in
set_option maxRecDepth 100000 in
theorem copath_no2 (i j n : Int) (hi : 0 ≤ i ∧ i ≤ 300) (hj : 0 ≤ j ∧ j ≤ 300) (hne : i ≠ j) (hn : I64 n) {w : World} (ht : Tabs w) (h1 : inB (2 * i) n = true) (h2 : inB (2 * j) n = false) : Calls Tryd.prog 7 #[.int .i64 i, .int .i64 j, .int .i64 n] w fun e w' => e = .returned (.bool true) ∧ Kept w w' := by
  have HL := Lib.hid (live_any w ht)
  obtain ⟨i0, i1⟩ := hi
  obtain ⟨j0, j1⟩ := hj
  have d0 : decide (i < 0) = false := decide_eq_false (by omega)
  have d1 : decide (j < 0) = false := decide_eq_false (by omega)
  have d2 : decide (300 < i) = false := decide_eq_false (by omega)
  have d3 : decide (300 < j) = false := decide_eq_false (by omega)
  have d4 : (i == j) = false := by rw [beq_eq_false_iff_ne]; exact hne
  clear hne
  have H1 := Lib.hid (fun W (kk : Kept w W) => (Copath_any (2 * i) n W ⟨by omega, by omega⟩ hn (ht.kept kk)).mono fun e w' h => ListPost.ok h h1 rfl)
  have H2 := Lib.hid (fun W (kk : Kept w W) => (Copath_any (2 * j) n W ⟨by omega, by omega⟩ hn (ht.kept kk)).mono fun e w' h => ListPost.no h h2)
  go_enter Tryd.func7, Tryd.ntmps7
  go_wp2_with fail
  refine HL.out.mono ?_; rintro e w1 ⟨rfl, k1⟩
  go_wp2_with fail
  refine (H1.out _ k1).mono ?_; rintro e w2 ⟨cv, rfl, _, q⟩
  replace k1 := k1.trans q
  clear q
  go_wp2_with fail
  refine (H2.out _ k1).mono ?_; rintro e w3 ⟨cv2, rfl, QQ⟩
  have q : Kept w2 w3 := by first | exact QQ.2 | exact QQ.2.2
  clear QQ
  go_wp2
  go_ret
  exact ⟨rfl, k1.trans q⟩
theorem copath_any {i : Int} (hi : I64 i) {j : Int} (hj : I64 j) {n : Int} (hn : I64 n) {w : World} (ht : Tabs w) : Calls Tryd.prog 7 #[.int .i64 i, .int .i64 j, .int .i64 n] w fun e w' => e = .returned (.bool true) ∧ Kept w w' := by
  by_cases c0 : i < 0
  · exact copath_out0 i j n ht (decide_eq_true c0)
  by_cases c1 : j < 0
  · exact copath_out1 i j n ht (decide_eq_false c0) (decide_eq_true c1)
  by_cases c2 : 300 < i
  · exact copath_out2 i j n ht (decide_eq_false c0) (decide_eq_false c1) (decide_eq_true c2)
  by_cases c3 : 300 < j
  · exact copath_out3 i j n ht (decide_eq_false c0) (decide_eq_false c1) (decide_eq_false c2) (decide_eq_true c3)
  by_cases c4 : i = j
  · exact copath_out4 i j n ht (decide_eq_false c0) (decide_eq_false c1) (decide_eq_false c2) (decide_eq_false c3) (by simpa using c4)
  cases h1 : inB (2 * i) n with
  | false => exact copath_no1 i j n ⟨by omega, by omega⟩ ⟨by omega, by omega⟩ c4 hn ht h1
  | true =>
    cases h2 : inB (2 * j) n with
    | false => exact copath_no2 i j n ⟨by omega, by omega⟩ ⟨by omega, by omega⟩ c4 hn ht h1 h2
    | true =>
      obtain ⟨m, k, hm, hk, hkf, h4, -⟩ := in_nat h1
      obtain ⟨m', k', hm', hk', -, h4', -⟩ := in_nat h2
      obtain ⟨a, rfl⟩ : ∃ a : Nat, i = a := ⟨i.toNat, by omega⟩
      obtain ⟨b, rfl⟩ : ∃ b : Nat, j = b := ⟨j.toNat, by omega⟩
      subst hk
      exact copath_core a b k hkf (by omega) (by omega) (by omega) ht
end Go.Proofs.YtlohedmpcjpaeaaDoor
