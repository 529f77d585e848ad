/- Texts of one proof, put together: RpF, RpG, RefD, RefX, RefM, RefN, RefO, HhN. -/
import Derived.Test.YtnmaiokhndbicaaGreatDoorMg07
import Derived.Test.YtnmaiokhndbicaaGreatDoorMg04
import Derived.BigQuiet
import Derived.Deep.QuietTactic
import Derived.IntWalk
import Derived.Lib.ItoaLen
import Derived.Test.YtnmaiokhndbicaaGreatDoorMg06
import Derived.StillTailTactics
import Derived.Test.YtnmaiokhndbicaaGreatDoorMg05
section
/- Walks of the program's ratchet: unmergedAgree, Check, Members, Same. -/
set_option linter.unusedSimpArgs false
set_option linter.unusedVariables false
namespace Go.Proofs.YtnmaiokhndbicaaGreatDoor
open Go.RowKit
open Rt

def agA (t : List TN) (x i : Nat) (a b : Bool) : Bool := bif (nd t x).kd == 2 then a && (b || !hasU t x i) else a
def agB (t : List TN) (x i : Nat) (b : Bool) : Bool := bif (nd t x).kd == 2 then hasU t x i else b
theorem ag_step {W : World} {b3 b5 q : Nat} {a b a' b' : Bool} (c3 : Blk W b3 4 [.bool a]) (c5 : Blk W b5 4 [.bool b]) (hne : b3 ≠ b5) :
    Blk (((W.drewN q).setCell ⟨b3, 0, none⟩ (.bool a')).setCell ⟨b5, 0, none⟩ (.bool b')) b3 4 [.bool a'] ∧ Blk (((W.drewN q).setCell ⟨b3, 0, none⟩ (.bool a')).setCell ⟨b5, 0, none⟩ (.bool b')) b5 4 [.bool b'] ∧
    Turn (fun k => k = b3 ∨ k = b5) W (((W.drewN q).setCell ⟨b3, 0, none⟩ (.bool a')).setCell ⟨b5, 0, none⟩ (.bool b')) := by
  have k := (Kept.refl W).drewN q
  have c3' := (c3.kept k).set 0 (.bool a')
  have c5' := Blk.turn (c5.kept k) (turn_setCell (W.drewN q) ⟨b3, 0, none⟩ (.bool a')) (fun e => hne e.symm)
  refine ⟨Blk.turn c3' (turn_setCell _ ⟨b5, 0, none⟩ _) hne, c5'.set 0 _, ?_⟩
  exact Turn.trans (Turn.trans (k.turn _) (turn_setCell _ _ _) (fun x e => .inl (.inl e))) (turn_setCell _ _ _) (fun x e => .inl (.inr e))
set_option maxHeartbeats 4000000 in
set_option maxRecDepth 100000 in
theorem pag1_any {W : World} {tv : Value} {t : List TN} {x i b1 b4 b3 b5 : Nat} {a b : Bool} (ht : RdTs W tv t) (hx : x < t.length) (hl : t.length ≤ 511) (hun : (nd t x).kd = 2 → (nd t x).un.Pairwise (· < ·) ∧ (nd t x).un.length ≤ 1000)
    (c1 : Blk W b1 22 [tv]) (c4 : Blk W b4 3 [.int .i64 i]) (c3 : Blk W b3 4 [.bool a]) (c5 : Blk W b5 4 [.bool b]) (hne : b3 ≠ b5) :
    Calls Tryz.prog 97 #[.int .i64 x, .pointer (some ⟨b1, 0, none⟩), .pointer (some ⟨b4, 0, none⟩), .pointer (some ⟨b3, 0, none⟩), .pointer (some ⟨b5, 0, none⟩)] W fun e w' =>
      e = .returned (.tuple #[]) ∧ Blk w' b3 4 [.bool (agA t x i a b)] ∧ Blk w' b5 4 [.bool (agB t x i b)] ∧ Turn (fun k => k = b3 ∨ k = b5) W w' := by
  obtain ⟨tb, to, tc, la, lc, rfl, hat, hru⟩ := ht.at hx
  obtain ⟨g0, _, _, _, _, g5⟩ := hat W (Kept.refl W)
  have d1 := c1.cell 0
  have d4 := c4.cell 0
  have d3 := c3.cell 0
  have d5 := c5.cell 0
  have f3 := c3.frozen 0
  have f5 := c5.frozen 0
  simp only [List.getElem?_cons_zero] at d1 d4 d3 d5
  have x0 : (0 : Int) ≤ (x : Int) := by omega
  have x1 : (x : Int) < (t.length : Int) := by omega
  have x2 : (x : Int) ≤ 511 := by omega
  have HA := Shut.mk (show agA t x i a b = bif (nd t x).kd == 2 then a && (b || !hasU t x i) else a from rfl)
  have HB := Shut.mk (show agB t x i b = bif (nd t x).kd == 2 then hasU t x i else b from rfl)
  have HSt := Lib.hid (fun (q : Nat) (a' b' : Bool) => ag_step (q := q) (a' := a') (b' := b') c3 c5 hne)
  have HC3 := Lib.hid c3
  have HC5 := Lib.hid c5
  clear hat ht c1 c4 c3 c5
  cases hk : ((nd t x).kd == 2) with
  | false =>
    have hk2 : ((nd t x).kd != 2) = true := by simpa using hk
    rw [hk] at HA HB
    have HA2 := Shut.mk (show agA t x i a b = a from HA.out)
    have HB2 := Shut.mk (show agB t x i b = b from HB.out)
    clear hk HA HB
    go_enter Tryz.func97, Tryz.ntmps97
    go_wp2
    refine bodyPost_ret (results_none rfl _ _ _) rfl ?_
    exact ⟨rfl, by rw [HA2.out]; exact HC3.out, by rw [HB2.out]; exact HC5.out, Turn.refl _ _⟩
  | true =>
    have hk2 : ((nd t x).kd != 2) = false := by simpa using hk
    obtain ⟨hp, hul⟩ := hun (by simpa using hk)
    rw [hk] at HA HB
    have HA2 := Shut.mk (show agA t x i a b = (a && (b || !hasU t x i)) from HA.out)
    have HB2 := Shut.mk (show agB t x i b = hasU t x i from HB.out)
    have HBS := Lib.hid (fun n => Calls.quiet_of (pbs_any (hru.kept ((Kept.refl W).drewN n)) hp (by omega) (i : Int)))
    have hU : hasU t x i = decide ((i : Int) ∈ (nd t x).un) := rfl
    rw [hU] at HA2 HB2
    generalize decide ((i : Int) ∈ (nd t x).un) = u at HBS HA2 HB2
    generalize (List.countP (fun z => decide (z < (i : Int))) (nd t x).un) = cp at HBS
    clear hk HA HB hp hU
    cases a with
    | false =>
      have HA3 := Shut.mk (show agA t x i false b = false from HA2.out)
      go_enter Tryz.func97, Tryz.ntmps97
      go_wp2
      go_quiet ((go_at_call 98; exact HBS.out _))
      go_wp2
      go_end0
      exact ⟨rfl, by rw [HA3.out, HB2.out]; exact HSt.out _ _ _⟩
    | true =>
      cases b with
      | true =>
        have HA3 := Shut.mk (show agA t x i true true = true from HA2.out)
        go_enter Tryz.func97, Tryz.ntmps97
        go_wp2
        go_quiet ((go_at_call 98; exact HBS.out _))
        go_wp2
        go_end0
        exact ⟨rfl, by rw [HA3.out, HB2.out]; exact HSt.out _ _ _⟩
      | false =>
        have HA3 := Shut.mk (show agA t x i true false = !u from HA2.out)
        go_enter Tryz.func97, Tryz.ntmps97
        go_wp2
        go_quiet ((go_at_call 98; exact HBS.out _))
        go_wp2
        go_end0
        exact ⟨rfl, by rw [HA3.out, HB2.out]; exact HSt.out _ _ _⟩
/-- Behind the first j of a leaf's path. -/
def AgI (tv : Value) (t : List TN) (i b1 b4 b3 b5 : Nat) (p : List Nat) (r : Bool) (w : World) (j : Nat) (W : World) : Prop :=
  Blk W b1 22 [tv] ∧ Blk W b4 3 [.int .i64 i] ∧ Kept w W ∧ ∃ a b : Bool, Blk W b3 4 [.bool a] ∧ Blk W b5 4 [.bool b] ∧ r = (a && agF t i b (p.drop j))
theorem agF_cons (t : List TN) (i : Nat) (a b : Bool) (x : Nat) (r : List Nat) : (a && agF t i b (x :: r)) = (agA t x i a b && agF t i (agB t x i b) r) := by
  unfold agA agB
  show (a && (bif (nd t x).kd == 2 then (b || !hasU t x i) && agF t i (hasU t x i) r else agF t i b r)) = _
  cases (nd t x).kd == 2 with
  | false => rfl
  | true =>
    show (a && ((b || !hasU t x i) && agF t i (hasU t x i) r)) = ((a && (b || !hasU t x i)) && agF t i (hasU t x i) r)
    rw [Bool.and_assoc]
set_option maxHeartbeats 8000000 in
set_option maxRecDepth 100000 in
theorem pagree_any {w : World} {tv : Value} {t : List TN} {n : Nat} (ht : RdTs w tv t) (hn : n ∈ Mth.fulls) (hlen : t.length = 2 * n - 1) (hfit : ∀ x, x < t.length → (nd t x).kd = 2 → (nd t x).un.Pairwise (· < ·) ∧ (nd t x).un.length ≤ 1000) (hT : TabsM w) :
    Calls Tryz.prog 69 #[tv] w fun e w' => e = .returned (.bool (agreeB t n)) ∧ Kept w w' := by
  have hnb := fulls_bd hn
  obtain ⟨ta, tc, htv, _, _, _⟩ := ht.len
  subst htv
  have HAl := Shut.mk (show agreeB t n = (List.range n).all fun i => agF t i true (Mth.path (2 * i) n) from rfl)
  have kB : Kept w ((w.alloc (.cells #[.slice ta t.length tc] 22)).alloc (.cells #[.bool true] 4)) := ((Kept.refl w).alloc _).alloc _
  have bT : Blk ((w.alloc (.cells #[.slice ta t.length tc] 22)).alloc (.cells #[.bool true] 4)) w.heap.size 22 [.slice ta t.length tc] := (Blk.new w [.slice ta t.length tc] 22).kept ((Kept.refl _).alloc _)
  have bA : Blk ((w.alloc (.cells #[.slice ta t.length tc] 22)).alloc (.cells #[.bool true] 4)) (w.heap.size + 1) 4 [.bool true] := by
    have := Blk.new (w.alloc (.cells #[.slice ta t.length tc] 22)) [.bool true] 4
    rwa [alloc_size] at this
  have HLv := Lib.hid (fun W (k : Kept w W) => pleaves_of (ht.kept k) hn hlen)
  have HAb := Lib.hid (fun (i : Nat) (hi : i < n) (W : World) (k : Kept w W) (caps : Array Value) (F : Nat → Prop) (I : Nat → World → Prop) => pabove_any (caps := caps) (F := F) (I := I) (ht.kept k) hn hlen hi (hT.kept k) (enters_of Tryz.func97 (by kernel_rfl) rfl))
  have HAg := Lib.hid (fun (W : World) (k : Kept w W) (x : Nat) (hx : x < t.length) => fun i b1 b4 b3 b5 a b => pag1_any (i := i) (b1 := b1) (b4 := b4) (b3 := b3) (b5 := b5) (a := a) (b := b) (ht.kept k) hx (by omega) (hfit x hx))
  have HPf := Shut.mk (show ∀ i, i < n → ∀ j, j < (Mth.path (2 * i) n).length → (Mth.path (2 * i) n).getD j 0 < t.length from fun i hi j hj => by have := (path_fresh hn hi hj).2.2; omega)
  have n0 : (1 : Int) ≤ (n : Int) := by omega
  have n1 : (n : Int) ≤ 256 := by omega
  have HFit := Shut.mk hfit
  clear hfit hlen hn ht
  go_enter Tryz.func69, Tryz.ntmps69
  go_wp2_with fail
  (with_reducible refine (HLv.out _ kB).mono ?_); rintro e w1 ⟨rfl, rfl⟩
  go_wp2
  generalize ((w.alloc (.cells #[.slice ta t.length tc] 22)).alloc (.cells #[.bool true] 4)) = wB at kB bT bA ⊢
  go_loopw [8] (fun c wr => ∃ k : Nat, k ≤ n ∧ c = .int .i64 k ∧ Blk wr w.heap.size 22 [.slice ta t.length tc] ∧ Blk wr (w.heap.size + 1) 4 [.bool ((List.range k).all fun i => agF t i true (Mth.path (2 * i) n))] ∧ Kept w wr) (fun c _ => n - (intOf c).toNat)
  case atStart => exact ⟨0, Nat.zero_le _, rfl, bT, bA, kB⟩
  case round =>
    obtain ⟨k, hk, rfl, hbT, hbA, hkw⟩ := hrel
    have hszT := hbA.lt
    by_cases hlt : k < n
    · have k0 : (0 : Int) ≤ (k : Int) := by omega
      have k1 : (k : Int) < (n : Int) := by omega
      have kC : Kept wr ((wr.alloc (.cells #[.int .i64 k] 3)).alloc (.cells #[.bool true] 4)) := ((Kept.refl wr).alloc _).alloc _
      have b4 : Blk ((wr.alloc (.cells #[.int .i64 k] 3)).alloc (.cells #[.bool true] 4)) wr.heap.size 3 [.int .i64 k] := (Blk.new wr [.int .i64 k] 3).kept ((Kept.refl _).alloc _)
      have b5 : Blk ((wr.alloc (.cells #[.int .i64 k] 3)).alloc (.cells #[.bool true] 4)) (wr.heap.size + 1) 4 [.bool true] := by
        have := Blk.new (wr.alloc (.cells #[.int .i64 k] 3)) [.bool true] 4
        rwa [alloc_size] at this
      have c1 := hbT.kept kC
      have c3 := hbA.kept kC
      generalize hacc : ((List.range k).all fun i => agF t i true (Mth.path (2 * i) n)) = acc at hbA c3
      have d1 := hbT.cell 0
      have d4 : ((wr.alloc (.cells #[.int .i64 k] 3)).alloc (.cells #[.bool true] 4)).cell? ⟨w.heap.size, 0, none⟩ = some (.slice ta t.length tc) := by rw [c1.cell 0]; rfl
      simp only [List.getElem?_cons_zero] at d1
      have hab := HAb.out k hlt _ (hkw.trans kC) #[.pointer (some ⟨w.heap.size, 0, none⟩), .pointer (some ⟨wr.heap.size, 0, none⟩), .pointer (some ⟨w.heap.size + 1, 0, none⟩), .pointer (some ⟨wr.heap.size + 1, 0, none⟩)]
        (fun b => b = w.heap.size + 1 ∨ b = wr.heap.size + 1) (AgI (.slice ta t.length tc) t k w.heap.size wr.heap.size (w.heap.size + 1) (wr.heap.size + 1) (Mth.path (2 * k) n) (acc && agF t k true (Mth.path (2 * k) n)) w)
        (fun b h => by have := b5.lt; omega)
        (fun W q => ⟨c1.kept q, b4.kept q, (hkw.trans kC).trans q, acc, true, c3.kept q, b5.kept q, by rw [List.drop_zero]⟩)
        (fun j hj W ⟨q1, q4, qk, a, b, q3, q5, qr⟩ => by
          refine (HAg.out W qk _ (HPf.out k hlt j hj) k _ _ _ _ a b q1 q4 q3 q5 (by omega)).mono ?_
          rintro e W' ⟨rfl, r3, r5, tr⟩
          refine ⟨rfl, ⟨Blk.turn q1 tr (by have := hkw.size; omega), Blk.turn q4 tr (by omega), Turn.keptOf qk tr (fun b hb => by have := hkw.size; omega), _, _, r3, r5, ?_⟩, tr⟩
          rw [qr, List.drop_eq_getElem_cons hj, agF_cons]
          rw [List.getD_eq_getElem?_getD, List.getElem?_eq_getElem hj]; rfl)
      have HAB := Lib.hid hab
      have HAcc := Shut.mk hacc
      clear hab hacc c1 c3 b4 b5 kC
      go_wp2_with fail
      (with_reducible refine HAB.out.mono ?_); rintro e w3 ⟨rfl, ⟨q1, q4, qk, a, b, q3, q5, qr⟩, tr⟩
      have hres : ((List.range (k + 1)).all fun i => agF t i true (Mth.path (2 * i) n)) = a := by
        rw [List.range_succ, List.all_append, HAcc.out]
        show (acc && (agF t k true (Mth.path (2 * k) n) && true)) = a
        rw [Bool.and_true, qr, List.drop_length]
        exact Bool.and_true _
      have HRes := Shut.mk hres
      clear hres qr
      go_wp2
      go_roundw
      case rel => exact ⟨k + 1, hlt, by go_num, q1, by rw [HRes.out]; exact q3, qk⟩
      case measure => simp [intOf]; omega
    · have e : k = n := by omega
      have k9 : ¬ (k : Int) < (n : Int) := by omega
      have d3 := hbA.cell 0
      simp only [List.getElem?_cons_zero] at d3
      have HE := Shut.mk (show ((List.range k).all fun i => agF t i true (Mth.path (2 * i) n)) = agreeB t n by rw [HAl.out, e])
      generalize ((List.range k).all fun i => agF t i true (Mth.path (2 * i) n)) = acc at d3 HE
      clear e
      go_wp2
      go_ret
      exact ⟨by rw [← HE.out]; rfl, hkw⟩
end Go.Proofs.YtnmaiokhndbicaaGreatDoor
end

section
/- Walks of the program's ratchet: Check, Members, Same. -/
set_option linter.unusedSimpArgs false
set_option linter.unusedVariables false
namespace Go.Proofs.YtnmaiokhndbicaaGreatDoor
open Go.RowKit
open Rt

theorem fits_un {t : List TN} {n : Nat} (hn : n ∈ Mth.fulls) (hlen : t.length = 2 * n - 1) (h : fitsB t = true) (hun : ∀ d ∈ t, d.un.length ≤ 1000) : ∀ x, x < t.length → (nd t x).kd = 2 → (nd t x).un.Pairwise (· < ·) ∧ (nd t x).un.length ≤ 1000 := by
  intro x hx h2
  have hx2 : x < 2 * n - 1 := by omega
  obtain ⟨a, b, c⟩ := (fit_iff hn hlen hx2).1 (List.all_eq_true.1 h x (List.mem_range.2 hx))
  refine ⟨?_, hun _ (by rw [nd_get hx]; exact List.getElem_mem hx)⟩
  by_cases ho : x % 2 = 0
  · rw [(b (by omega) ho).2]; exact List.Pairwise.nil
  · exact (c (by omega) (by omega)).2.2.2.1
set_option maxHeartbeats 4000000 in
theorem pcheck_any {w : World} {tv : Value} {t : List TN} (ht : RdTs w tv t) (hok : ∀ d ∈ t, TnOk d) (hl : t.length ≤ 1000000) (hun : ∀ d ∈ t, d.un.length ≤ 1000) (hT : TabsM w) :
    Calls Tryz.prog 42 #[tv] w fun e w' => e = .returned (.int .i64 (errI (chkB t))) ∧ Kept w w' := by
  obtain ⟨ta, tc, htv, _, _, _⟩ := ht.len
  subst htv
  have HC := Shut.mk (show chkB t = (shpB t && fitsB t && agreeB t (lvs t.length) && needB t (lvs t.length)) from (pchk_eq t).symm)
  have HS := Lib.hid (pshape_any ht hl)
  cases hs : shpB t with
  | false =>
    rw [hs] at HS HC
    have HF := Shut.mk (show errI (chkB t) = 1 by rw [HC.out]; rfl)
    clear hs HC
    go_enter Tryz.func42, Tryz.ntmps42
    go_wp2_with fail
    (with_reducible refine HS.out.mono ?_); rintro e w1 ⟨rfl, k1⟩
    go_wp2
    go_ret
    exact ⟨by rw [HF.out]; rfl, k1⟩
  | true =>
    rw [hs] at HS HC
    obtain ⟨n, hn, hlen, hll⟩ : ∃ n, n ∈ Mth.fulls ∧ t.length = 2 * n - 1 ∧ lvs t.length = n := by
      rcases lvs_spec t.length with ⟨a, b⟩ | ⟨a, _⟩
      · exact ⟨_, a, b.symm, rfl⟩
      · unfold shpB at hs; rw [a] at hs; cases hs
    rw [hll] at HC
    have HFt := Lib.hid (fun W (k : Kept w W) => pfits_any (ht.kept k) hok hn hlen (hT.kept k))
    have HAg := Lib.hid (fun (hf : fitsB t = true) W (k : Kept w W) => pagree_any (ht.kept k) hn hlen (fits_un hn hlen hf hun) (hT.kept k))
    have HNd := Lib.hid (fun W (k : Kept w W) => pneedsAll_any (ht.kept k) hn hlen)
    clear hs hn hlen hll hok hun ht
    cases hf : fitsB t with
    | false =>
      rw [hf] at HFt HC
      have HF := Shut.mk (show errI (chkB t) = 1 by rw [HC.out]; rfl)
      clear hf HC HAg
      go_enter Tryz.func42, Tryz.ntmps42
      go_wp2_with fail
      (with_reducible refine HS.out.mono ?_); rintro e w1 ⟨rfl, k1⟩
      go_wp2_with fail
      (with_reducible refine (HFt.out _ k1).mono ?_); rintro e w2 ⟨rfl, k2⟩
      go_wp2
      go_ret
      exact ⟨by rw [HF.out]; rfl, k1.trans k2⟩
    | true =>
      have HAg2 := Lib.hid (HAg.out hf)
      rw [hf] at HFt HC
      clear hf HAg
      cases ha : agreeB t n with
      | false =>
        rw [ha] at HAg2 HC
        have HF := Shut.mk (show errI (chkB t) = 1 by rw [HC.out]; rfl)
        clear ha HC
        go_enter Tryz.func42, Tryz.ntmps42
        go_wp2_with fail
        (with_reducible refine HS.out.mono ?_); rintro e w1 ⟨rfl, k1⟩
        go_wp2_with fail
        (with_reducible refine (HFt.out _ k1).mono ?_); rintro e w2 ⟨rfl, q2⟩
        have k2 := k1.trans q2
        go_wp2_with fail
        (with_reducible refine (HAg2.out _ k2).mono ?_); rintro e w3 ⟨rfl, q3⟩
        go_wp2
        go_ret
        exact ⟨by rw [HF.out]; rfl, k2.trans q3⟩
      | true =>
        rw [ha] at HAg2 HC
        have HF := Shut.mk (show errI (chkB t) = errI (needB t n) by rw [HC.out]; rfl)
        clear ha HC
        cases hnb : needB t n with
        | true =>
          rw [hnb] at HNd HF
          go_enter Tryz.func42, Tryz.ntmps42
          go_wp2_with fail
          (with_reducible refine HS.out.mono ?_); rintro e w1 ⟨rfl, k1⟩
          go_wp2_with fail
          (with_reducible refine (HFt.out _ k1).mono ?_); rintro e w2 ⟨rfl, q2⟩
          have k2 := k1.trans q2
          go_wp2_with fail
          (with_reducible refine (HAg2.out _ k2).mono ?_); rintro e w3 ⟨rfl, q3⟩
          have k3 := k2.trans q3
          go_wp2_with fail
          (with_reducible refine (HNd.out _ k3).mono ?_); rintro e w4 ⟨rfl, q4⟩
          go_wp2
          go_ret
          exact ⟨by rw [HF.out]; rfl, k3.trans q4⟩
        | false =>
          rw [hnb] at HNd HF
          go_enter Tryz.func42, Tryz.ntmps42
          go_wp2_with fail
          (with_reducible refine HS.out.mono ?_); rintro e w1 ⟨rfl, k1⟩
          go_wp2_with fail
          (with_reducible refine (HFt.out _ k1).mono ?_); rintro e w2 ⟨rfl, q2⟩
          have k2 := k1.trans q2
          go_wp2_with fail
          (with_reducible refine (HAg2.out _ k2).mono ?_); rintro e w3 ⟨rfl, q3⟩
          have k3 := k2.trans q3
          go_wp2_with fail
          (with_reducible refine (HNd.out _ k3).mono ?_); rintro e w4 ⟨rfl, q4⟩
          go_wp2
          go_ret
          exact ⟨by rw [HF.out]; rfl, k3.trans q4⟩
theorem same_false {a b : List TN} {k : Nat} (hk : k < a.length) (h : sameNB (nd a k) (nd b k) = false) : sameTB a b = false := by
  cases e : sameTB a b with
  | false => rfl
  | true =>
    rw [sameTB_iff.1 e] at h
    have : sameNB (nd b k) (nd b k) = true := sameNB_iff.2 rfl
    rw [this] at h; cases h
end Go.Proofs.YtnmaiokhndbicaaGreatDoor
end

section
/- The document's terms: Digits. -/
set_option linter.unusedSimpArgs false
set_option linter.unusedVariables false
namespace Go.Proofs.YtnmaiokhndbicaaGreatDoor
open Go.RowKit Go.Maps

def digs : ByteArray := ⟨#[48, 49, 50, 51, 52, 53, 54, 55, 56, 57]⟩
theorem strB_app (a b : List UInt8) : strB a ++ strB b = strB (a ++ b) := by
  unfold strB
  apply ByteArray.ext
  simp
theorem digs_at (k : Nat) (h : k < 10) : digs.extract k (k + 1) = strB [UInt8.ofNat (48 + k)] := by
  have : k = 0 ∨ k = 1 ∨ k = 2 ∨ k = 3 ∨ k = 4 ∨ k = 5 ∨ k = 6 ∨ k = 7 ∨ k = 8 ∨ k = 9 := by omega
  rcases this with rfl | rfl | rfl | rfl | rfl | rfl | rfl | rfl | rfl | rfl <;> rfl

theorem dd_len (n : Nat) (h : n ≤ 9223372036854775807) : (Lib.decDigits n).length ≤ 21 := by
  have := Lib.itoa_length_le (n : Int) (by omega) (by omega)
  rwa [itoa_of_nonneg (by omega), Int.toNat_natCast] at this

set_option maxHeartbeats 1000000 in
set_option maxRecDepth 20000 in
theorem digits_any (n : Nat) (hn : (n : Int) ≤ 9223372036854775807) (w : World) :
    Calls Tryz.prog 89 #[.int .i64 n] w fun e w' => e = .returned (.string (strB (Lib.decDigits n))) ∧ ∃ m, w' = w.drewN m := by
  induction n using Nat.strongRecOn generalizing w with
  | ind n ih =>
    by_cases h : n < 10
    · have HE := Shut.mk (Lib.decDigits_one h)
      have HD := Shut.mk (digs_at n h)
      have h1 : (n : Int) < 10 := by omega
      have h0 : (0 : Int) ≤ (n : Int) := by omega
      go_enter Tryz.func89, Tryz.ntmps89
      go_wp2
      go_ret
      exact ⟨by rw [HE.out, ← HD.out]; rfl, 0, rfl⟩
    · have hq : (((n / 10 : Nat) : Int)) ≤ 9223372036854775807 := by omega
      have e0 : (((n / 10 : Nat)) : Int) = (n : Int) / 10 := by omega
      have hih := fun W => ih (n / 10) (by omega) hq W
      rw [e0] at hih
      clear e0
      have hs := dd_step h
      have hlen := dd_len (n / 10) (by omega)
      have HS := Shut.mk hs
      have HD := Shut.mk (digs_at (n % 10) (by omega))
      have h0 : ¬ (n : Int) < 0 := by omega
      have h1 : ¬ (n : Int) < 10 := by omega
      have hsz : ¬ 9223372036854775807 < (strB (Lib.decDigits (n / 10))).size + (min (n % 10 + 1) 10 - n % 10) := by rw [strB_size]; omega
      clear hs ih
      go_enter Tryz.func89, Tryz.ntmps89
      go_wp2
      go_quiet ((go_at_call 89; exact Calls.quiet_of (hih _)))
      go_wp2
      go_ret
      refine ⟨?_, _, rfl⟩
      show Ending.returned (Value.string (strB (Lib.decDigits (n / 10)) ++ digs.extract (n % 10) (n % 10 + 1))) = _
      rw [HS.out, HD.out, strB_app]

theorem itoaR (n : Int) (h0 : 0 ≤ n) (hn : n ≤ 9223372036854775807) (w : World) :
    Calls Tryz.prog 89 #[.int .i64 n] w fun e w' => e = .returned (.string (strB (Lib.itoa n))) ∧ ∃ m, w' = w.drewN m := by
  obtain ⟨k, rfl⟩ := Int.eq_ofNat_of_zero_le h0
  rw [itoa_of_nonneg h0, Int.toNat_natCast]
  exact digits_any k hn w
end Go.Proofs.YtnmaiokhndbicaaGreatDoor
end

section
/- The document's terms: text. -/
set_option linter.unusedSimpArgs false
set_option linter.unusedVariables false
namespace Go.Proofs.YtnmaiokhndbicaaGreatDoor
open Go.RowKit Go.Maps

theorem partsKeyR_len (l : List Int) (h : ∀ x ∈ l, I64 x) : (partsKeyR l).length ≤ 22 * l.length := by
  induction l with
  | nil => simp [partsKeyR]
  | cons x l ih =>
    rw [partsKeyR_cons]
    have := ih fun y hy => h y (List.mem_cons_of_mem _ hy)
    have := itoa_len (h x List.mem_cons_self)
    simp
    omega
theorem drewKept (w : World) (n : Nat) : Kept w (w.drewN n) := (Kept.refl w).drewN n

set_option maxRecDepth 100000 in
set_option maxHeartbeats 4000000 in
theorem textR_any {w : World} {v : Value} {d : Nd} (hd : RdN w v d) (hop : 0 ≤ d.op) (hn : 0 ≤ d.n) (hok : NdOk d) (hs : d.s.length ≤ 200) (hl : d.l.length ≤ 64) (hpos : ∀ x ∈ d.l, 0 ≤ x) :
    Calls Tryz.prog 66 #[v] w fun e w' => e = .returned (.string (strB (keyR d))) ∧ Kept w w' := by
  obtain ⟨lv, rfl, hr⟩ := hd
  obtain ⟨op, n, s, l⟩ := d
  simp only at hr hop hs hl hn hpos ⊢
  have ho64 := hok.op
  have hn64 := hok.n
  have hll := hok.l
  simp only at ho64 hn64 hll
  obtain ⟨la, lc, rfl, l1, l2, l3⟩ := hr.len
  have h1 := fun W => itoaR op hop ho64.2 W
  have h2 := fun W => itoaR n hn hn64.2 W
  have h3 := fun W => itoaR (s.length : Int) (by omega) (by omega) W
  have g1 := itoa_len ho64
  have g2 := itoa_len hn64
  have g3 := itoa_len (i := (s.length : Int)) ⟨by omega, by omega⟩
  have e1 := strB_size (Lib.itoa op)
  have e2 := strB_size (Lib.itoa n)
  have e3 := strB_size (Lib.itoa (s.length : Int))
  have e4 := strB_size s
  have HK : Shut (strB (keyR ⟨op, n, s, []⟩) = strB (Lib.itoa op) ++ ⟨#[32]⟩ ++ strB (Lib.itoa n) ++ ⟨#[32]⟩ ++ strB (Lib.itoa (s.length : Int)) ++ ⟨#[32]⟩ ++ strB s) := ⟨by
    have e : (⟨#[32]⟩ : ByteArray) = strB [32] := rfl
    rw [e]
    simp only [strB_app]
    congr 1
    simp [keyR, partsKeyR]⟩
  generalize strB (Lib.itoa op) = A at *
  generalize strB (Lib.itoa n) = B at *
  generalize strB (Lib.itoa (s.length : Int)) = C at *
  generalize hS : strB s = S at *
  have HS := Shut.mk hS
  clear hS
  have f1 : A.size ≤ 21 := by omega
  have f2 : B.size ≤ 21 := by omega
  have f3 : C.size ≤ 21 := by omega
  have f4 : S.size ≤ 200 := by omega
  have F4 := Shut.mk e4
  clear e1 e2 e3 g1 g2 g3
  go_enter Tryz.func66, Tryz.ntmps66
  go_wp2
  refine wp_region_quiet_lit (by kernel_rfl) (by kernel_rfl) ?_
  repeat (go_big_quiet_step (fail))
  go_big_quiet_step ((go_at_call 89; exact Calls.quiet_of (h1 _)))
  repeat (go_big_quiet_step (fail))
  go_big_quiet_step ((go_at_call 89; exact Calls.quiet_of (h2 _)))
  repeat (go_big_quiet_step (fail))
  go_big_quiet_step ((go_at_call 89; exact Calls.quiet_of (h3 _)))
  repeat (go_big_quiet_step (fail))
  refine wpQuiet_nil ?_
  intro _ hw'
  obtain ⟨nq, hw''⟩ := hw'
  subst hw''
  rw [← HK.out]
  have k0 : Kept w ((w.alloc (.cells #[.int .i64 op, .int .i64 n, .string S, .slice la l.length lc] 50)).drewN nq) := ((Kept.refl w).alloc _).drewN _
  have hk0 : (keyR ⟨op, n, s, []⟩).length ≤ 300 := by
    have := congrArg ByteArray.size HK.out
    rw [strB_size] at this
    simp only [ByteArray.size_append] at this
    have e : (⟨#[32]⟩ : ByteArray).size = 1 := rfl
    omega
  have HE : Shut (keyR ⟨op, n, s, l⟩ = keyR ⟨op, n, s, []⟩ ++ partsKeyR l) := ⟨by simp [keyR, partsKeyR]⟩
  generalize keyR ⟨op, n, s, []⟩ = K0 at HK HE hk0
  clear h1 h2 h3 HK
  have l63 : ((l.length : Nat) : Int) ≤ 9223372036854775807 := by omega
  go_wp2
  go_loopw [3, 27] (fun b i wr => ∃ k : Nat, k ≤ l.length ∧ i = .int .i64 k ∧ b = .string (strB (K0 ++ partsKeyR (l.take k))) ∧ Kept w wr) (fun _ i _ => l.length - (intOf i).toNat)
  case atStart => exact ⟨0, Nat.zero_le _, rfl, by simp [partsKeyR], k0⟩
  case round =>
    obtain ⟨k, hk1, rfl, rfl, hkept⟩ := hrel
    by_cases hlt : k < l.length
    · obtain ⟨rb, ro, rc, hrv, _, _, hrb, hcell⟩ := hr.addr (by omega)
      simp only [Value.slice.injEq] at hrv
      obtain ⟨rfl, hdrop, rfl⟩ := hrv
      clear hdrop
      have hcw : wr.cell? ⟨rb, ro + k, none⟩ = some (.int .i64 (l.getD k 0)) := hkept.cell (p := ⟨rb, ro + k, none⟩) hrb |>.trans (hcell k hlt)
      clear hcell
      have hmem : l.getD k 0 ∈ l := by rw [List.getD_eq_getElem?_getD, List.getElem?_eq_getElem hlt]; exact List.getElem_mem _
      have hx64 : I64 (l.getD k 0) := hll _ hmem
      have hx0 := hpos _ hmem
      have hstep : partsKeyR (l.take (k + 1)) = partsKeyR (l.take k) ++ 32 :: Lib.itoa (l.getD k 0) := by
        rw [List.take_succ_eq_append_getElem hlt, partsKeyR_snoc, List.getD_eq_getElem?_getD, List.getElem?_eq_getElem hlt]; rfl
      have hpl : (partsKeyR (l.take k)).length ≤ 22 * k := by
        have := partsKeyR_len (l.take k) (fun x hx => hll x (List.mem_of_mem_take hx))
        rw [List.length_take] at this
        omega
      have HS2 := Shut.mk hstep
      clear hstep hmem
      generalize l.getD k 0 = x at hcw hx64 HS2 hx0
      have hil := itoa_len hx64
      have hd := itoaR x hx0 hx64.2 wr
      have HJ : Shut (strB (K0 ++ partsKeyR (l.take (k + 1))) = strB (K0 ++ partsKeyR (l.take k)) ++ ((⟨#[32]⟩ : ByteArray) ++ strB (Lib.itoa x))) := ⟨by
        have e : (⟨#[32]⟩ : ByteArray) = strB [32] := rfl
        rw [e, strB_app, strB_app, HS2.out]
        simp⟩
      have e1 : (strB (Lib.itoa x)).size ≤ 21 := by rw [strB_size]; exact hil
      have e2 : (strB (K0 ++ partsKeyR (l.take k))).size ≤ 3000 := by rw [strB_size]; simp; omega
      generalize strB (Lib.itoa x) = X at hd HJ e1
      generalize strB (K0 ++ partsKeyR (l.take k)) = Z at HJ e2
      go_wp2_with fail
      refine hd.mono ?_
      rintro e w1 ⟨rfl, m, rfl⟩
      go_wp2
      go_roundw
      case rel => exact ⟨k + 1, hlt, rfl, by rw [HJ.out], hkept.drewN _⟩
      case measure => simp [intOf]; omega
    · obtain rfl : k = l.length := by omega
      go_wp2
      go_ret
      exact ⟨by rw [List.take_length, ← HE.out]; rfl, hkept⟩
end Go.Proofs.YtnmaiokhndbicaaGreatDoor
end

section
/- The document's terms: which nodes may be. -/
set_option linter.unusedSimpArgs false
set_option linter.unusedVariables false
namespace Go.Proofs.YtnmaiokhndbicaaGreatDoor
open Go.RowKit Go.Maps

/-- How many parts a node has by its op; below 0: any, or there is no such op. -/
def arR (op : Int) : Int := if op = 3 ∨ op < 1 ∨ 12 < op then -1 else kMost op
theorem arR_no {op : Int} (h : op = 3 ∨ op < 1 ∨ 12 < op) : arR op = -1 := by unfold arR; rw [if_pos h]
theorem ne_beq {a b : Int} (h : a ≠ b) : (a == b) = false := by simpa using h

set_option maxRecDepth 100000 in
set_option maxHeartbeats 4000000 in
theorem arity_any (op : Int) (w : World) : Calls Tryz.prog 88 #[.int .i64 op] w fun e w' => e = .returned (.int .i64 (arR op)) ∧ w = w' := by
  by_cases h : op = 3 ∨ op < 1 ∨ 12 < op
  · rw [arR_no h]
    have c1 := ne_beq (show op ≠ 1 by omega)
    have c2 := ne_beq (show op ≠ 2 by omega)
    have c4 := ne_beq (show op ≠ 4 by omega)
    have c5 := ne_beq (show op ≠ 5 by omega)
    have c6 := ne_beq (show op ≠ 6 by omega)
    have c7 := ne_beq (show op ≠ 7 by omega)
    have c8 := ne_beq (show op ≠ 8 by omega)
    have c9 := ne_beq (show op ≠ 9 by omega)
    have c10 := ne_beq (show op ≠ 10 by omega)
    have c11 := ne_beq (show op ≠ 11 by omega)
    have c12 := ne_beq (show op ≠ 12 by omega)
    clear h
    go_enter Tryz.func88, Tryz.ntmps88
    go_wp2
    go_ret
    exact ⟨rfl, rfl⟩
  · have hc : op = 1 ∨ op = 2 ∨ op = 4 ∨ op = 5 ∨ op = 6 ∨ op = 7 ∨ op = 8 ∨ op = 9 ∨ op = 10 ∨ op = 11 ∨ op = 12 := by omega
    clear h
    rcases hc with rfl | rfl | rfl | rfl | rfl | rfl | rfl | rfl | rfl | rfl | rfl
    all_goals
      go_enter Tryz.func88, Tryz.ntmps88
      go_wp2
      go_ret
      exact ⟨rfl, rfl⟩

set_option maxRecDepth 100000 in
set_option maxHeartbeats 4000000 in
/-- The first tests of May: whether it comes to the parts. -/
theorem mayR_bad {w : World} {p v : Value} {d : Nd} (hd : RdN w v d) (hb : ¬ (1 ≤ d.op ∧ d.op ≤ 12 ∧ 0 ≤ d.n ∧ (d.n = 0 ∨ d.op = 1) ∧ d.s.length ≤ 200 ∧ (d.s = [] ∨ d.op = 2) ∧ kLeast d.op ≤ d.l.length ∧ (d.l.length : Int) ≤ kMost d.op)) :
    Calls Tryz.prog 65 #[p, v] w fun e w' => e = .returned (.bool false) ∧ Kept w w' := by
  obtain ⟨lv, rfl, hr⟩ := hd
  obtain ⟨op, n, s, l⟩ := d
  simp only at hr hb ⊢
  obtain ⟨la, lc, rfl, l1, l2, l3⟩ := hr.len
  have l63 : ((l.length : Nat) : Int) ≤ 9223372036854775807 := by unfold maxLen at l2; omega
  have e1 := strB_size s
  have e2 := strB_list s
  generalize strB s = S at e1 e2
  by_cases ho : op < 1 ∨ 12 < op
  · have HK := Shut.mk (arR_no (op := op) (by omega))
    have c3 := bne_int (show op ≠ 3 by omega)
    clear hb ho
    go_enter Tryz.func65, Tryz.ntmps65
    go_wp2_with (go_at_call 88; refine (arity_any _ _).mono ?_; rintro e w' ⟨rfl, rfl⟩; rw [HK.out])
    go_ret
    exact ⟨rfl, (Kept.refl w).alloc _⟩
  -- which op, and how many parts
  have hop : (op = 3 ∧ arR op = -1 ∧ kLeast op = 0 ∧ kMost op = 64) ∨ (op ≠ 3 ∧ 0 ≤ arR op ∧ arR op ≤ 4 ∧ kLeast op = arR op ∧ kMost op = arR op) := by
    have hc : op = 1 ∨ op = 2 ∨ op = 3 ∨ op = 4 ∨ op = 5 ∨ op = 6 ∨ op = 7 ∨ op = 8 ∨ op = 9 ∨ op = 10 ∨ op = 11 ∨ op = 12 := by omega
    rcases hc with rfl | rfl | rfl | rfl | rfl | rfl | rfl | rfl | rfl | rfl | rfl | rfl <;> decide
  have hlen : (op = 3 ∧ arR op = -1 ∧ ((l.length : Nat) : Int) ≤ 64 ∧ kLeast op ≤ l.length ∧ (l.length : Int) ≤ kMost op) ∨ (op = 3 ∧ arR op = -1 ∧ 64 < ((l.length : Nat) : Int)) ∨ (op ≠ 3 ∧ 0 ≤ arR op ∧ (l.length : Int) = arR op ∧ ((l.length : Nat) : Int) ≤ 64 ∧ kLeast op ≤ l.length ∧ (l.length : Int) ≤ kMost op) ∨ (op ≠ 3 ∧ 0 ≤ arR op ∧ (l.length : Int) ≠ arR op) := by omega
  generalize hK : arR op = k at hop hlen
  have HK := Shut.mk hK
  clear hK hop
  have hpre : ∀ (Q : Prop), (op = 3 → k = -1 → ((l.length : Nat) : Int) ≤ 64 → Q) → (((op != 3) = true) → 0 ≤ k → ((l.length : Int) != k) = false → ((l.length : Nat) : Int) ≤ 64 → Q) → (kLeast op ≤ l.length ∧ (l.length : Int) ≤ kMost op → Q) → True := fun _ _ _ _ => trivial
  clear hpre
  rcases hlen with ⟨rfl, rfl, q1, q2, q3⟩ | ⟨rfl, rfl, q1⟩ | ⟨q0, q1, q2, q3, q4, q5⟩ | ⟨q0, q1, q2⟩
  · have hb2 : ¬ (n = 0 ∧ s = []) := fun h => hb ⟨by omega, by omega, by omega, .inl h.1, by rw [h.2]; simp, .inl h.2, q2, q3⟩
    clear q2 q3
    by_cases hn : n = 0
    · subst hn
      have hs : s.isEmpty = false := by simpa using fun e => hb2 ⟨rfl, e⟩
      clear hb hb2
      go_enter Tryz.func65, Tryz.ntmps65
      go_wp2_with (go_at_call 88; refine (arity_any _ _).mono ?_; rintro e w' ⟨rfl, rfl⟩; rw [HK.out])
      go_ret
      exact ⟨rfl, (Kept.refl w).alloc _⟩
    · have c1 := bne_int hn
      clear hb hb2 hn
      go_enter Tryz.func65, Tryz.ntmps65
      go_wp2_with (go_at_call 88; refine (arity_any _ _).mono ?_; rintro e w' ⟨rfl, rfl⟩; rw [HK.out])
      go_ret
      exact ⟨rfl, (Kept.refl w).alloc _⟩
  · clear hb
    go_enter Tryz.func65, Tryz.ntmps65
    go_wp2_with (go_at_call 88; refine (arity_any _ _).mono ?_; rintro e w' ⟨rfl, rfl⟩; rw [HK.out])
    go_ret
    exact ⟨rfl, (Kept.refl w).alloc _⟩
  · have c3 := bne_int q0
    have c4 := beq_int q2
    clear q2
    by_cases o1 : op = 1
    · subst o1
      have hb2 : ¬ (0 ≤ n ∧ s = []) := fun h => hb ⟨by omega, by omega, h.1, .inr rfl, by rw [h.2]; simp, .inl h.2, q4, q5⟩
      clear hb q4 q5 q0
      by_cases hs : s = []
      · subst hs
        have hn : n < 0 := by
          apply Classical.byContradiction
          intro c
          exact hb2 ⟨by omega, rfl⟩
        clear hb2
        go_enter Tryz.func65, Tryz.ntmps65
        go_wp2_with (go_at_call 88; refine (arity_any _ _).mono ?_; rintro e w' ⟨rfl, rfl⟩; rw [HK.out])
        go_ret
        exact ⟨rfl, (Kept.refl w).alloc _⟩
      · have hs2 : s.isEmpty = false := by simpa using hs
        clear hb2 hs
        go_enter Tryz.func65, Tryz.ntmps65
        go_wp2_with (go_at_call 88; refine (arity_any _ _).mono ?_; rintro e w' ⟨rfl, rfl⟩; rw [HK.out])
        go_ret
        exact ⟨rfl, (Kept.refl w).alloc _⟩
    · have d1 := bne_int o1
      by_cases hn : n = 0
      · subst hn
        by_cases o2 : op = 2
        · subst o2
          have hs : 200 < s.length := by
            apply Classical.byContradiction
            intro c
            exact hb ⟨by omega, by omega, by omega, .inl rfl, by omega, .inr rfl, q4, q5⟩
          clear hb q4 q5 q0
          go_enter Tryz.func65, Tryz.ntmps65
          go_wp2_with (go_at_call 88; refine (arity_any _ _).mono ?_; rintro e w' ⟨rfl, rfl⟩; rw [HK.out])
          go_ret
          exact ⟨rfl, (Kept.refl w).alloc _⟩
        · have d2 := bne_int o2
          have hs : s.isEmpty = false := by simpa using fun e => hb ⟨by omega, by omega, by omega, .inl rfl, by rw [e]; simp, .inl e, q4, q5⟩
          clear hb q4 q5 q0 o2 o1
          go_enter Tryz.func65, Tryz.ntmps65
          go_wp2_with (go_at_call 88; refine (arity_any _ _).mono ?_; rintro e w' ⟨rfl, rfl⟩; rw [HK.out])
          go_ret
          exact ⟨rfl, (Kept.refl w).alloc _⟩
      · have d3 := bne_int hn
        clear hb q4 q5 q0 o1 hn
        go_enter Tryz.func65, Tryz.ntmps65
        go_wp2_with (go_at_call 88; refine (arity_any _ _).mono ?_; rintro e w' ⟨rfl, rfl⟩; rw [HK.out])
        go_ret
        exact ⟨rfl, (Kept.refl w).alloc _⟩
  · have c3 := bne_int q0
    have c4 := bne_int q2
    clear hb q2 q0
    go_enter Tryz.func65, Tryz.ntmps65
    go_wp2_with (go_at_call 88; refine (arity_any _ _).mono ?_; rintro e w' ⟨rfl, rfl⟩; rw [HK.out])
    go_ret
    exact ⟨rfl, (Kept.refl w).alloc _⟩
end Go.Proofs.YtnmaiokhndbicaaGreatDoor
end

section
/- The document's terms: which nodes may be, whole. -/
set_option linter.unusedSimpArgs false
set_option linter.unusedVariables false
namespace Go.Proofs.YtnmaiokhndbicaaGreatDoor
open Go.RowKit Go.Maps

def MayPost (w : World) (ds : List Nd) (d : Nd) (e : Ending) (w' : World) : Prop := ∃ b : Bool, e = .returned (.bool b) ∧ (b = true ↔ May ds d) ∧ Kept w w'

set_option maxRecDepth 100000 in
set_option maxHeartbeats 4000000 in
theorem mayR_good {F : Nat → Prop} {w : World} {p : Value} {ds : List Nd} (h : ArR F w p ds) {v : Value} {d : Nd} (hd : RdN w v d) (hb : 1 ≤ d.op ∧ d.op ≤ 12 ∧ 0 ≤ d.n ∧ (d.n = 0 ∨ d.op = 1) ∧ d.s.length ≤ 200 ∧ (d.s = [] ∨ d.op = 2) ∧ kLeast d.op ≤ d.l.length ∧ (d.l.length : Int) ≤ kMost d.op) :
    Calls Tryz.prog 65 #[p, v] w (MayPost w ds d) := by
  have h64 : d.l.length ≤ 64 := by
    have hb := hb
    have := hb.2.2.2.2.2.2.2
    rcases op_cases hb.1 hb.2.1 with e | e | e | e | e | e | e | e | e | e | e | e <;> rw [e] at this <;> simp [kMost, kTab] at this <;> (try rw [this]) <;> simp <;> omega
  obtain ⟨lv, rfl, hr⟩ := hd
  obtain ⟨op, n, s, l⟩ := d
  simp only at hr hb h64 ⊢
  obtain ⟨la, lc, rfl, l1, l2, l3⟩ := hr.len
  have HB := Shut.mk hb
  obtain ⟨o1, o2, o3, o4, o5, o6, o7, o8⟩ := hb
  have hop : (op = 3 ∧ arR op = -1) ∨ (op ≠ 3 ∧ 0 ≤ arR op ∧ kLeast op = arR op ∧ kMost op = arR op) := by
    rcases op_cases o1 o2 with rfl | rfl | rfl | rfl | rfl | rfl | rfl | rfl | rfl | rfl | rfl | rfl <;> decide
  have hL : ((l.length : Nat) : Int) ≤ 9223372036854775807 := by unfold maxLen at l2; omega
  have hL64 : ((l.length : Nat) : Int) ≤ 64 := by omega
  have e1 := strB_size s
  have e2 := strB_list s
  have MM : Shut ((∀ x ∈ l, 0 ≤ x ∧ x < ds.length) → (op = 6 → (ds.getD (l.getD 1 0).toNat nd0).op = 2) → May ds ⟨op, n, s, l⟩) :=
    ⟨fun a b => ⟨o1, o2, o3, o4, o5, o6, o7, o8, a, b⟩⟩
  have hl3 : Shut (op = 6 → l.length = 3) := ⟨fun e => by
    rw [e] at o7 o8
    simp [kLeast, kMost, kTab] at o7 o8
    omega⟩
  have hcase : (arR op = -1 ∧ (op != 3) = false ∧ (op != 1) = true ∧ (op != 2) = true ∧ n = 0 ∧ s = []) ∨ (arR op = 0 ∧ (op != 1) = false ∧ (op != 2) = true ∧ ((l.length : Int) != 0) = false ∧ s = []) ∨ (arR op = 0 ∧ (op != 1) = true ∧ (op != 2) = false ∧ ((l.length : Int) != 0) = false ∧ n = 0) ∨ ((op != 1) = true ∧ (op != 2) = true ∧ 0 ≤ arR op ∧ ((l.length : Int) != arR op) = false ∧ n = 0 ∧ s = []) := by
    rcases hop with ⟨a, b⟩ | ⟨a, b, c, d⟩
    · exact .inl ⟨b, beq_int a, bne_int (by omega), bne_int (by omega), o4.resolve_right (by omega), o6.resolve_right (by omega)⟩
    · by_cases c1 : op = 1
      · subst c1
        exact .inr (.inl ⟨rfl, rfl, rfl, beq_int (by have : arR 1 = 0 := rfl; omega), o6.resolve_right (by omega)⟩)
      · by_cases c2 : op = 2
        · subst c2
          exact .inr (.inr (.inl ⟨rfl, rfl, rfl, beq_int (by have : arR 2 = 0 := rfl; omega), o4.resolve_right (by omega)⟩))
        · exact .inr (.inr (.inr ⟨bne_int c1, bne_int c2, b, beq_int (by omega), o4.resolve_right c1, o6.resolve_right c2⟩))
  generalize hK : arR op = kk at hcase
  have HK := Shut.mk hK
  clear hK hop o4 o6 o7 o8
  generalize hS : strB s = S at e1 e2
  have HS := Shut.mk hS
  clear hS
  obtain ⟨pb, mb, nv, rfl, q0, q1, qn⟩ := ArG.nodes h
  obtain ⟨na, ncap, rfl, n1, n2, n3⟩ := qn.len
  have dl : ((ds.length : Nat) : Int) ≤ 9223372036854775807 := by unfold maxLen at n2; omega
  have q0a : ∀ ob, (w.alloc ob).cell? ⟨pb, 0, none⟩ = some (.slice na ds.length ncap) := fun ob => by rw [World.cell?_alloc_past _ _ _ (World.block_lt_of_cell? _ _ q0)]; exact q0
  rcases hcase with ⟨rfl, c1, c2, c3, rfl, rfl⟩ | ⟨rfl, c1, c2, c3, rfl⟩ | ⟨rfl, c1, c2, c3, rfl⟩ | ⟨c1, c2, c3, c4, rfl, rfl⟩
  all_goals
    go_enter Tryz.func65, Tryz.ntmps65
    go_wp2_with (go_at_call 88; refine (arity_any _ _).mono ?_; rintro e w' ⟨rfl, rfl⟩; rw [HK.out])
    go_loop [69] (fun s => ∃ k : Nat, (k ≤ l.length ∧ ∀ i, i < k → 0 ≤ l.getD i 0 ∧ l.getD i 0 < ds.length) ∧ s = .int .i64 k) (fun s => l.length - (intOf s).toNat)
    case atStart => exact ⟨0, ⟨Nat.zero_le _, fun i hi => absurd hi (Nat.not_lt_zero _)⟩, rfl⟩
    case round =>
      obtain ⟨k, ⟨hk0, hk1⟩, rfl⟩ := hrel
      have HK1 := Shut.mk hk1
      clear hk1
      by_cases hlt : k < l.length
      · obtain ⟨rb, ro, rc, hrv, _, _, hrb, hcell⟩ := hr.addr (by omega)
        simp only [Value.slice.injEq] at hrv
        obtain ⟨rfl, hdrop, rfl⟩ := hrv
        clear hdrop
        have hcw : ∀ (ob : Obj), (w.alloc ob).cell? ⟨rb, ro + k, none⟩ = some (.int .i64 (l.getD k 0)) := fun ob => ((Kept.refl w).alloc ob).cell (p := ⟨rb, ro + k, none⟩) hrb |>.trans (hcell k hlt)
        clear hcell
        generalize hx : l.getD k 0 = x at hcw
        have HX := Shut.mk hx
        clear hx
        by_cases hx0 : x < 0
        · go_wp2
          go_ret
          refine ⟨false, rfl, ⟨(fun h => by cases h), fun m => ?_⟩, ((Kept.refl w).alloc _)⟩
          have := m.all x (by rw [← HX.out, List.getD_eq_getElem?_getD, List.getElem?_eq_getElem hlt]; exact List.getElem_mem _)
          omega
        · by_cases hx1 : x < ds.length
          · go_wp2
            go_round
            case rel => exact ⟨k + 1, ⟨hlt, fun i hi => by
              by_cases c : i < k
              · exact HK1.out i c
              · obtain rfl : i = k := by omega
                rw [HX.out]; omega⟩, rfl⟩
            case measure => simp [intOf]; omega
          · go_wp2
            go_ret
            refine ⟨false, rfl, ⟨(fun h => by cases h), fun m => ?_⟩, ((Kept.refl w).alloc _)⟩
            have := m.all x (by rw [← HX.out, List.getD_eq_getElem?_getD, List.getElem?_eq_getElem hlt]; exact List.getElem_mem _)
            omega
      · obtain rfl : k = l.length := by omega
        have hall : Shut (∀ x ∈ l, 0 ≤ x ∧ x < ds.length) := ⟨fun x hx => by
          obtain ⟨i, hi, e⟩ := List.mem_iff_getElem.1 hx
          have := HK1.out i hi
          rwa [List.getD_eq_getElem?_getD, List.getElem?_eq_getElem hi, Option.getD_some, e] at this⟩
        by_cases h6 : op = 6
        · have hb6 := beq_int h6
          have hl3' : l.length = 3 := hl3.out h6
          have hx1 := HK1.out 1 (by omega)
          obtain ⟨j, hj⟩ := Int.eq_ofNat_of_zero_le hx1.1
          have hjl : j < ds.length := by omega
          obtain ⟨nb, noff, ncap', lvs, hnv, _, _, hnb, hnc, _⟩ := qn.addr (by omega)
          simp only [Value.slice.injEq] at hnv
          obtain ⟨rfl, hdrop, rfl⟩ := hnv
          clear hdrop
          obtain ⟨nc, _, _, _⟩ := hnc j hjl
          obtain ⟨rb, ro, rc, hrv, _, _, hrb, hcell⟩ := hr.addr (by omega)
          simp only [Value.slice.injEq] at hrv
          obtain ⟨rfl, hdrop, rfl⟩ := hrv
          clear hdrop
          have hc1 := hcell 1 (by omega)
          rw [hj] at hc1
          clear hcell hnc
          have nca : ∀ ob, (w.alloc ob).cell? ⟨nb, noff + j * 4, none⟩ = some (.int .i64 (ds.getD j nd0).op) := fun ob => by rw [World.cell?_alloc_past _ _ _ (World.block_lt_of_cell? _ _ nc)]; exact nc
          have hca : ∀ ob, (w.alloc ob).cell? ⟨rb, ro + 1, none⟩ = some (.int .i64 (j : Int)) := fun ob => by rw [World.cell?_alloc_past _ _ _ (World.block_lt_of_cell? _ _ hc1)]; exact hc1
          have j0 : (0 : Int) ≤ (j : Int) := by omega
          have j1 : (j : Int) < (ds.length : Int) := by omega
          have l31 : (1 : Int) < (l.length : Int) := by omega
          have HL3 := Shut.mk hl3'
          have H6 := Shut.mk h6
          have HJ := Shut.mk hj
          clear hl3' h6 hj hx1
          generalize hop' : (ds.getD j nd0).op = oj at nc nca
          have HO := Shut.mk hop'
          clear hop'
          go_wp2
          go_quiet (fail)
          go_wp2
          go_ret
          refine ⟨_, rfl, ⟨fun hh => ?_, fun m => ?_⟩, ?_⟩
          · exact MM.out hall.out (fun e => by
              simp only [HJ.out, Int.toNat_natCast, HO.out]
              simpa using hh)
          · have := m.key H6.out
            simp only [HJ.out, Int.toNat_natCast, HO.out] at this
            simp [this]
          · exact ((Kept.refl w).alloc _).drewN _
        · have hb6 := bne_int h6
          go_wp2
          go_quiet (fail)
          go_wp2
          go_ret
          refine ⟨true, rfl, ⟨fun _ => MM.out hall.out (fun e => absurd e h6), fun _ => rfl⟩, ((Kept.refl w).alloc _).drewN _⟩
theorem mayR_any {F : Nat → Prop} {w : World} {p : Value} {ds : List Nd} (h : ArR F w p ds) {v : Value} {d : Nd} (hd : RdN w v d) :
    Calls Tryz.prog 65 #[p, v] w (MayPost w ds d) := by
  by_cases hb : 1 ≤ d.op ∧ d.op ≤ 12 ∧ 0 ≤ d.n ∧ (d.n = 0 ∨ d.op = 1) ∧ d.s.length ≤ 200 ∧ (d.s = [] ∨ d.op = 2) ∧ kLeast d.op ≤ d.l.length ∧ (d.l.length : Int) ≤ kMost d.op
  · exact mayR_good h hd hb
  · exact (mayR_bad hd hb).mono fun e w' ⟨a, b⟩ => ⟨false, a, ⟨(fun x => by cases x), fun m => absurd ⟨m.op1, m.op12, m.n0, m.n1, m.s0, m.s1, m.least, m.most⟩ hb⟩, b⟩
end Go.Proofs.YtnmaiokhndbicaaGreatDoor
end

section
/- The document's terms: Make. -/
set_option linter.unusedSimpArgs false
set_option linter.unusedVariables false
namespace Go.Proofs.YtnmaiokhndbicaaGreatDoor
open Go.RowKit Go.Maps

theorem keyR_len {d : Nd} (hok : NdOk d) (hs : d.s.length ≤ 200) (hl : d.l.length ≤ 64) : (keyR d).length ≤ 2000 := by
  unfold keyR
  have h0 := itoa_len hok.op
  have h1 := itoa_len hok.n
  have h2 := partsKeyR_len d.l hok.l
  have h3 := itoa_len (i := (d.s.length : Int)) ⟨by omega, by omega⟩
  simp
  omega

set_option maxRecDepth 100000 in
set_option maxHeartbeats 4000000 in
theorem makeR_any {F : Nat → Prop} {w : World} {p : Value} {ds : List Nd} (h : ArR F w p ds) {v : Value} {d : Nd} (hd : RdN w v d) (hok : NdOk d) :
    Calls Tryz.prog 41 #[p, v] w fun e w' => ∃ F' : Nat → Prop, e = .returned (.tuple #[.int .i64 (mk ds d).2.1, .int .i64 (mk ds d).2.2]) ∧ ArR F' w' p (mk ds d).1 ∧ Turn F w w' ∧ (∀ b, F' b → F b ∨ w.heap.size ≤ b) := by
  obtain ⟨pb, mb, n, nv, lvs, D, rfl, h2, h3, h4, h5, h6, h7, h8, h9, h10, h11, h12⟩ := h.rep
  obtain ⟨lv, rfl, hr⟩ := hd
  obtain ⟨op, nn, s, l⟩ := d
  simp only at hr ⊢
  have hd1 : ∀ W, Kept w W → RdN W (.agg #[.int .i64 op, .int .i64 nn, .string (strB s), lv]) ⟨op, nn, s, l⟩ := fun W k => ⟨lv, rfl, hr.kept k⟩
  obtain ⟨la, lc, rfl, l1, l2, l3⟩ := hr.len
  have HH := Shut.mk h
  clear h
  go_enter Tryz.func41, Tryz.ntmps41
  go_wp2_with fail
  have k0 : Kept w (w.alloc (.cells #[.int .i64 op, .int .i64 nn, .string (strB s), .slice la l.length lc] 50)) := (Kept.refl w).alloc _
  have b0 := Blk.new w [.int .i64 op, .int .i64 nn, .string (strB s), .slice la l.length lc] 50
  generalize w.alloc (.cells #[.int .i64 op, .int .i64 nn, .string (strB s), .slice la l.length lc] 50) = w0 at k0 b0 ⊢
  refine (mayR_any (ArG.kept HH.out k0) (hd1 w0 k0)).mono ?_
  rintro e w1 ⟨b, rfl, hb, k1⟩
  have k01 := k0.trans k1
  have b1 := b0.kept k1
  cases b with
  | false =>
    have hng : ¬ May ds ⟨op, nn, s, l⟩ := fun m => by have := hb.2 m; cases this
    go_wp2
    go_ret2
    rw [mk_bad hng]
    exact ⟨F, rfl, ArG.kept HH.out k01, k01.turn F, fun b hb => .inl hb⟩
  | true =>
    have hm : May ds ⟨op, nn, s, l⟩ := hb.1 rfl
    have HM := Shut.mk hm
    have hs2 := hm.s0
    have hlen := hm.len64
    have hkl := keyR_len hok hs2 hlen
    have x0 := b1.cell 0
    have x1 := b1.cell 1
    have x2 := b1.cell 2
    have x3 := b1.cell 3
    simp only [List.getElem?_cons_succ, List.getElem?_cons_zero] at x0 x1 x2 x3
    clear hm hb
    go_wp2_with fail
    refine (textR_any (hd1 w1 k01) (by have := HM.out.op1; simp only at this ⊢; omega) HM.out.n0 hok hs2 hlen (fun x hx => (HM.out.all x hx).1)).mono ?_
    rintro e w2 ⟨rfl, k2⟩
    have k02 := k01.trans k2
    have b2 := b1.kept k2
    have m2 := ownsMap_kept h6 k02
    have q0 := (h2.kept k02).cell 0
    have q1 := (h2.kept k02).cell 1
    have y0 := b2.cell 0
    have y1 := b2.cell 1
    have y2 := b2.cell 2
    have y3 := b2.cell 3
    simp only [List.getElem?_cons_succ, List.getElem?_cons_zero] at q0 q1 y0 y1 y2 y3
    clear x0 x1 x2 x3
    obtain ⟨na, ncap, rfl, n1, n2, n3, n4, n5⟩ := h3.rdv
    have hkey : keyOf Tryz.prog 9 (.string (strB (keyR ⟨op, nn, s, l⟩))) = some (.string (keyR ⟨op, nn, s, l⟩)) := WideMaps.keyOf_string_mk Tryz.underlying9 (by rw [strB_size]; unfold maxLen; omega)
    have hlaw : Keyed Tryz.prog 9 := string_keyed Tryz.underlying9
    have hix := idx_has h8 HH.out.good (d := ⟨op, nn, s, l⟩) (fun i hi e => keyR_inj (HH.out.good.may' hi) HM.out e)
    have HKEY := Shut.mk hkey
    clear hkey
    generalize hKY : Value.string (strB (keyR ⟨op, nn, s, l⟩)) = KY at HKEY
    have HKY := Shut.mk hKY
    clear hKY
    rcases hix with ⟨hx1, hx2⟩ | ⟨i, hi, hx1, hx2, hx3⟩
    · have HX2 := Shut.mk hx2
      clear hx2
      by_cases hbig : 100000 ≤ ds.length
      · have HB := Shut.mk hbig
        have hdb : decide ((100000 : Int) ≤ (ds.length : Int)) = true := decide_eq_true (by omega)
        clear hbig
        go_wp2_with (at_lookup; refine wpList_lookup_own_ok_int _ rfl _ _ 64 rfl 9 3 .i64 hlaw Tryz.underlying64 Tryz.underlying3 (zeroInt _) mb n D rfl m2 _ _ rfl HKEY.out ?_; intro c hat hwc; rw [hx1])
        go_ret2
        rw [mk_full HM.out HX2.out HB.out]
        exact ⟨F, rfl, ArG.kept HH.out k02, k02.turn F, fun b hb => .inl hb⟩
      · have HB := Shut.mk hbig
        have hdb : decide ((100000 : Int) ≤ (ds.length : Int)) = false := decide_eq_false (by omega)
        have hl10 : ds.length < 10000000000 := by omega
        have HI : Shut (∀ i, i < ds.length → keyR (ds.getD i nd0) ≠ keyR ⟨op, nn, s, l⟩) := ⟨fun i hi e => find_none HX2.out i hi (keyR_inj (HH.out.good.may' hi) HM.out e)⟩
        clear hbig
        have c23 := b2.frozen 3
        go_wp2_with (first
          | (at_lookup; refine wpList_lookup_own_ok_int _ rfl _ _ 64 rfl 9 3 .i64 hlaw Tryz.underlying64 Tryz.underlying3 (zeroInt _) mb n D rfl m2 _ _ rfl HKEY.out ?_; intro c hat hwc; rw [hx1])
          | (at_builtin; refine go_appi w2.heap.size _ [] rfl (OwnI.nil _ _) _ l rfl (hr.kept k02) (by simp; omega) (Nat.le_refl _) ?_; intro v3 w3 o3 t3 l3'; obtain ⟨a3, cap3, rfl, _, _, _⟩ := (OwnI.rd o3).len;
             have k3 : Kept w2 w3 := Turn.keptOf (Kept.refl w2) t3 (fun x hx => by simp only [Blks] at hx; cases hx);
             have b3 : Blk w3 w.heap.size 50 [.int .i64 op, .int .i64 nn, .string (strB s), .slice la l.length lc] := b2.kept k3;
             have kw3 : Kept w w3 := k02.trans k3;
             have z3 := b3.cell 3; have f33 := b3.frozen 3))
        have b4 : Blk (w3.setCell ⟨w.heap.size, 3, none⟩ (.slice a3 l.length cap3)) w.heap.size 50 [.int .i64 op, .int .i64 nn, .string (strB s), (.slice a3 l.length cap3)] := b3.set 3 (.slice a3 l.length cap3)
        have kw4 : Kept w (w3.setCell ⟨w.heap.size, 3, none⟩ (.slice a3 l.length cap3)) := kw3.setCell (Nat.le_refl _) _
        have o4 : OwnI 0 (w3.setCell ⟨w.heap.size, 3, none⟩ (.slice a3 l.length cap3)) (.slice a3 l.length cap3) l := Ownv.setCell (Ownv.mono0 o3) (Ownv.notBlk o3 b3 (by decide)) _
        have hlv : ∀ b, Blks (.slice a3 l.length cap3) b → w.heap.size ≤ b := fun b hb => Nat.le_trans k02.size (Ownv.lt o3 hb).2
        generalize w3.setCell ⟨w.heap.size, 3, none⟩ (.slice a3 l.length cap3) = w4 at b4 kw4 o4 ⊢
        have q0 := (h2.kept kw4).cell 0
        have q1 := (h2.kept kw4).cell 1
        have qf := (h2.kept kw4).frozen 0
        have c40 := b4.cell 0
        have c41 := b4.cell 1
        have c42 := b4.cell 2
        have c43 := b4.cell 3
        simp only [List.getElem?_cons_succ, List.getElem?_cons_zero] at q0 q1 c40 c41 c42 c43
        have hn4 := h3.kept kw4
        obtain ⟨i0, hi, hz0, hz1, hz2⟩ := info_parts Tryz.infoNode
        have hgb : Blk w4 pb 80 [.slice na ds.length ncap, .map (some mb)] := h2.kept kw4
        have hnb : ¬ Blks (.slice na ds.length ncap) pb := Ownv.notBlk hn4 hgb (by decide)
        have hnq : ¬ Blks (.slice na ds.length ncap) w.heap.size := fun hb => Nat.lt_irrefl _ (h3.lt hb).1
        have gb := hgb.lt
        have hcz : ∀ ob, (w4.alloc ob).cell? ⟨pb, 0, none⟩ = some (.slice na ds.length ncap) := fun ob => (hgb.kept ((Kept.refl w4).alloc ob)).cell 0
        have hfz : ∀ ob, (w4.alloc ob).frozen? ⟨pb, 0, none⟩ = false := fun ob => by
          have := (hgb.kept ((Kept.refl w4).alloc ob)).frozen 0
          exact this
        have hnb' : some pb ≠ (Value.slice na ds.length ncap).ownBlock := fun e => hnb e.symm
        have hnq' : some w.heap.size ≠ (Value.slice na ds.length ncap).ownBlock := fun e => hnq e.symm
        have qb := b4.lt
        go_region_law
          ((refine step_append_lies _ (by rfl) _ _ _ (by rfl) 0 50 i0 _ 4 56 Tryz.underlying63 hi hz0 hz1 hz2 rfl (by omega) (.slice na ds.length ncap) ds.length (flat ds lvs) (by rfl) ((hn4.alloc _).drew)
              ⟨w4.heap.size, 0, none⟩ 1 1 [.int .i64 op, .int .i64 nn, .string (strB s), (.slice a3 l.length cap3)] (by rfl) (by rfl) (World.news_of_block (cs := #[.int .i64 op, .int .i64 nn, .string (strB s), (.slice a3 l.length cap3)]) (t := 50) (fr := (0, 0)) (heap_alloc_new w4 _)) (by simp [Value.oneCell'])
              (by omega) (by unfold maxLen; omega) (by omega) (by omega) (w4.heap.size + 1) (by simp) ?_; intro gg cap w5 hown5 hgrow hat hlt; have hfz5 : w5.frozen? ⟨pb, 0, none⟩ = false := (hgrow.frozen_far ⟨pb, 0, none⟩ (by simp; omega) hnb').trans (hfz _); have hcz5 : w5.cell? ⟨pb, 0, none⟩ = some (.slice na ds.length ncap) := (hgrow.cell_far ⟨pb, 0, none⟩ (by simp; omega) hnb').trans (hcz _);
            have t5 : Turn (Blks (.slice na ds.length ncap)) w4 w5 := ((((Kept.refl w4).alloc (.cells #[.int .i64 op, .int .i64 nn, .string (strB s), .slice a3 l.length cap3] 50)).drew).turn _).trans ((Grown.turn hgrow).mono fun b hb => hb.symm) (fun x hx => .inl hx)))
        all_goals
          have o6 : Ownv 0 50 4 (w5.setCell ⟨pb, 0, none⟩ (.slice (some ⟨gg, 0, none⟩) (ds.length + 1) cap)) (.slice (some ⟨gg, 0, none⟩) (ds.length + 1) cap) (ds.length + 1) (flat ds lvs ++ [.int .i64 op, .int .i64 nn, .string (strB s), .slice a3 l.length cap3]) :=
            Ownv.setCell hown5 (Ownv.notBlk hown5 (hgb.turn t5 hnb) (by decide)) _
          have g6 : Blk (w5.setCell ⟨pb, 0, none⟩ (.slice (some ⟨gg, 0, none⟩) (ds.length + 1) cap)) pb 80 [.slice (some ⟨gg, 0, none⟩) (ds.length + 1) cap, .map (some mb)] := (hgb.turn t5 hnb).set 0 _
          have t6 : Turn (fun b => Blks (.slice na ds.length ncap) b ∨ b = pb) w4 (w5.setCell ⟨pb, 0, none⟩ (.slice (some ⟨gg, 0, none⟩) (ds.length + 1) cap)) :=
            (t5.mono fun b hb => .inl hb).trans (turn_setCell w5 _ _) (fun x hx => .inl (.inr hx))
          have m6 := ownsMap_turn (ownsMap_kept h6 kw4) t6 (fun hb => hb.elim (ownsMap_notBlk (ownsMap_kept h6 kw4) hn4) (fun e => ownsMap_notBlk' (ownsMap_kept h6 kw4) hgb e.symm))
          have a6 := o4.turn t6 (fun b hb hc => hc.elim (Ownv.apart o4 hn4 (by decide) hb) (fun e => Ownv.notBlk o4 hgb (by decide) (e ▸ hb)))
          generalize w5.setCell ⟨pb, 0, none⟩ (.slice (some ⟨gg, 0, none⟩) (ds.length + 1) cap) = w6 at o6 g6 t6 m6 a6 ⊢
          have z0 := g6.cell 0
          have z1 := g6.cell 1
          simp only [List.getElem?_cons_succ, List.getElem?_cons_zero] at z0 z1
          have hlaw : Keyed Tryz.prog 9 := string_keyed Tryz.underlying9
          go_wp2_with fail
          go_still_tail 11, (by kernel_rfl)
          change wpList _ _ _ _ _ w6.drew
          have kd : Kept w6 w6.drew := (Kept.refl _).drew
          have o7 := Ownv.kept o6 kd
          have g7 := g6.kept kd
          have t7 := t6.kept kd
          have m7 := ownsMap_kept m6 kd
          have a7 := Ownv.kept a6 kd
          clear o6 g6 t6 m6 a6 kd z0 z1
          generalize w6.drew = w7 at o7 g7 t7 m7 a7 ⊢
          have z0 := g7.cell 0
          have z1 := g7.cell 1
          simp only [List.getElem?_cons_succ, List.getElem?_cons_zero] at z0 z1
          have hsub : (((ds.length + 1 : Nat) : Int) - 1) = (ds.length : Int) := by omega
          have hw : IntKind.i64.wrap (ds.length : Int) = (ds.length : Int) := by exact IntWalk.i64_in _ (by omega)
          have hpe : plainElem Tryz.prog 3 (.int .i64 (IntKind.i64.wrap (ds.length : Int))) = some ((.lit (.int .i64 ds.length) : DataW Unit), []) := by rw [hw]; exact plainElem_int Tryz.underlying3 (WalkArith.wf_i64 (by omega))
          have HPE := Shut.mk hpe
          have HW := Shut.mk hw
          have HSUB := Shut.mk hsub
          clear hpe hw hsub
          go_wp2_with (at_mapUpdate; refine wpList_mapUpdate_own _ rfl _ _ _ 64 rfl 9 3 hlaw Tryz.underlying64 (plainElem Tryz.prog 3) mb n D rfl m7 (by unfold maxLen; omega) _ _ (.string (keyR ⟨op, nn, s, l⟩)) rfl rfl HKEY.out (.lit (.int .i64 ds.length)) [] (by first | exact HPE.out | exact plainElem_int Tryz.underlying3 (WalkArith.wf_i64 (by omega))) ?_; intro w8 own8 hg8; have t8 : Turn (fun b => b = mb) w7 w8 := ((Grown.turn hg8).mono fun b hb => by simpa using hb); have g8 := g7.turn t8 (ownsMap_notBlk' m7 g7); have z8 := g8.cell 0; simp only [List.getElem?_cons_zero] at z8)
          go_ret2
          obtain ⟨F', r1, r2, r3⟩ := arg_grow HH.out.good (Nat.lt_of_not_le HB.out) HH.out.oks hok HM.out HX2.out HI.out (by decide) h2 h3 h4 h5 h6 h7 h8 h9 h10 h11 h12 HH.out.lt kw4 t7 g7 (by unfold ndCells; exact o7) (fun b hb => by
            obtain rfl : gg = b := by simpa [Blks, Value.ownBlock] using hb
            rcases hat with c | c
            · exact .inl c
            · have := kw4.size
              exact .inr (by omega)) a7 hlv own8 m7 t8
          rw [mk_new HM.out HX2.out HB.out]
          exact ⟨F', by first | rfl | (simp only [HSUB.out]) | (simp only [HW.out]), r1, r2, r3⟩
    · have HX3 := Shut.mk hx3
      clear hx3
      go_wp2_with (at_lookup; refine wpList_lookup_own_ok_int _ rfl _ _ 64 rfl 9 3 .i64 hlaw Tryz.underlying64 Tryz.underlying3 (zeroInt _) mb n D rfl m2 _ _ rfl HKEY.out ?_; intro c hat hwc; rw [hx1])
      rw [hx2] at hat
      simp only [DataW.lit.injEq, Lit.int.injEq, true_and] at hat
      go_ret2
      rw [mk_old HM.out HX3.out]
      exact ⟨F, by rw [← hat]; rfl, ArG.kept HH.out k02, k02.turn F, fun b hb => .inl hb⟩
end Go.Proofs.YtnmaiokhndbicaaGreatDoor
end

section
/- The statements' helpers of layer 9: two. -/
set_option linter.unusedSimpArgs false
set_option linter.unusedVariables false
namespace Go.Proofs.YtnmaiokhndbicaaGreatDoor
open Go.RowKit Go.Maps

/-- The Atoms below k. -/
def atomsL (k : Nat) : List Nd := (List.range k).map fun n : Nat => ⟨1, (n : Int), [], []⟩
theorem atomsL_len (k : Nat) : (atomsL k).length = k := by simp [atomsL]
theorem atomsL_succ (k : Nat) : atomsL (k + 1) = atomsL k ++ [⟨1, (k : Int), [], []⟩] := by simp [atomsL, List.range_succ]
theorem mk_atoms {k : Nat} (h : k < 100000) : mk (atomsL k) ⟨1, (k : Int), [], []⟩ = (atomsL (k + 1), (k : Int), 0) := by
  have hf : find (atomsL k) ⟨1, (k : Int), [], []⟩ = none := by
    unfold find
    rw [List.findIdx?_eq_none_iff]
    intro e he
    obtain ⟨n, hn, rfl⟩ := List.mem_map.1 he
    have := List.mem_range.1 hn
    rw [decide_eq_false]
    intro c
    injection c with _ c _ _
    omega
  rw [mk_new (may_atom _ (by omega)) hf (by rw [atomsL_len]; omega), atomsL_succ, atomsL_len]
theorem atoms_is {k n : Nat} (h : n < k) : Is (atomsL k) (n : Int) ⟨1, (n : Int), [], []⟩ :=
  ⟨by omega, by rw [atomsL_len]; omega, by
    rw [Int.toNat_natCast, List.getD_eq_getElem?_getD]
    simp [atomsL, h]⟩
theorem nd_atom_ok {n : Int} (h : I64 n) : NdOk ⟨1, n, [], []⟩ := ⟨i64_lit (by simp), h, by simp, fun x hx => by cases hx⟩

set_option maxHeartbeats 4000000 in
theorem atomR_any {F : Nat → Prop} {w : World} {p : Value} {ds : List Nd} (h : ArR F w p ds) {n : Int} (hn : I64 n) :
    Calls Tryz.prog 19 #[p, .int .i64 n] w fun e w' => ∃ F' : Nat → Prop, e = .returned (.tuple #[.int .i64 (mk ds ⟨1, n, [], []⟩).2.1, .int .i64 (mk ds ⟨1, n, [], []⟩).2.2]) ∧ ArR F' w' p (mk ds ⟨1, n, [], []⟩).1 ∧ Turn F w w' ∧ ∀ b, F' b → F b ∨ w.heap.size ≤ b := by
  have hm := makeR_any h (v := .agg #[.int .i64 1, .int .i64 n, .string ⟨#[]⟩, .slice none 0 0]) (d := ⟨1, n, [], []⟩) ⟨_, rfl, RdI.nil _⟩ (nd_atom_ok hn)
  obtain ⟨pb, mb, nv, rfl, _, _, _⟩ := ArG.nodes h
  generalize mk ds ⟨1, n, [], []⟩ = m at hm ⊢
  have HM := Lib.hid hm
  clear hm h
  go_enter Tryz.func19, Tryz.ntmps19
  go_wp2_with fail
  (with_reducible refine HM.out.mono ?_); rintro e w1 ⟨F', rfl, h1, h2, h3⟩
  go_wp2
  go_ret2
  exact ⟨F', rfl, h1, h2, h3⟩

/-- Both arenas, apart from one another, in memory of their own. -/
def TwoS (w : World) (p q : Value) (k : Nat) (wr : World) : Prop := ∃ F G : Nat → Prop, Ar F wr p (atomsL k) ∧ ArR G wr q (atomsL k) ∧ (∀ b, F b → ¬ G b) ∧ (∀ b, F b → w.heap.size ≤ b) ∧ (∀ b, G b → w.heap.size ≤ b) ∧ Kept w wr
def TwoPost9 (w : World) (e : Ending) (w' : World) : Prop := ∃ p q a, e = .returned (.tuple #[p, q]) ∧ p = .pointer (some a) ∧ TwoS w p q 10 w'
set_option maxHeartbeats 8000000 in
set_option maxRecDepth 100000 in
theorem two09_any {w : World} (hT : Tabs w) : Calls Tryz.prog 7 #[] w (TwoPost9 w) := by
  have HT := Lib.hid hT
  clear hT
  go_enter Tryz.func7, Tryz.ntmps7
  go_wp2_with fail
  refine (new_any w).mono ?_
  rintro e w1 ⟨F, p, rfl, h1, k1, hF, hp⟩
  go_wp2_with fail
  refine (newR_any w1).mono ?_
  rintro e w2 ⟨G, q, rfl, h2, k2, hG, hq⟩
  have hs : TwoS w p q 0 w2 := ⟨F, G, ArG.kept h1 k2, h2, fun b hb hg => by have := h1.lt b hb; have := hG b hg; omega, hF, fun b hg => Nat.le_trans k1.size (hG b hg), k1.trans k2⟩
  subst hp hq
  have HS := Lib.hid hs
  clear h1 h2 k1 k2 hF hG hs
  generalize w.heap.size + 1 = pb at *
  generalize w1.heap.size + 1 = qb at *
  go_wp2
  go_loopw [7] (fun c wr => ∃ k : Nat, k ≤ 10 ∧ c = .int .i64 k ∧ TwoS w (.pointer (some ⟨pb, 0, none⟩)) (.pointer (some ⟨qb, 0, none⟩)) k wr) (fun c _ => 10 - (intOf c).toNat)
  case atStart => exact ⟨0, Nat.zero_le _, rfl, HS.out⟩
  case round =>
    obtain ⟨k, hk, rfl, F, G, hA, hR, hFG, hF, hG, hkw⟩ := hrel
    by_cases hlt : k < 10
    · have k0 : (0 : Int) ≤ (k : Int) := by omega
      have k1 : (k : Int) < 10 := by omega
      have HM := Lib.hid (make_any hA (HT.out.kept hkw) (v := .agg #[.int .i64 1, .int .i64 (k : Int), .string ⟨#[]⟩, .slice none 0 0]) (d := ⟨1, (k : Int), [], []⟩) ⟨_, rfl, RdI.nil _⟩ (nd_atom_ok ⟨by omega, by omega⟩))
      rw [mk_atoms (by omega)] at HM
      have HR := Lib.hid hR
      have HFG := Shut.mk hFG
      have HF := Shut.mk hF
      have HG := Shut.mk hG
      clear hA hR hFG hF hG
      go_wp2_with fail
      (with_reducible refine HM.out.mono ?_); rintro e w4 ⟨F', rfl, h4, t4, hF4⟩
      have hR4 := ArG.turn HR.out t4 (fun b hb hg => HFG.out b hg hb)
      have HA := Lib.hid (atomR_any hR4 (n := (k : Int)) ⟨by omega, by omega⟩)
      rw [mk_atoms (by omega)] at HA
      have H4 := Lib.hid h4
      have T4 := Lib.hid t4
      have HF4 := Shut.mk hF4
      have GL := Shut.mk (show ∀ b, G b → b < wr.heap.size from HR.out.lt)
      clear hR4 h4 t4 hF4
      go_wp2_with fail
      (with_reducible refine HA.out.mono ?_); rintro e w5 ⟨G', rfl, h5, t5, hG5⟩
      have hd : ∀ b, F' b → ¬ G b := fun b hb hg => by
        rcases HF4.out b hb with c | c
        · exact HFG.out b c hg
        · have := GL.out b hg; omega
      have hs5 : TwoS w (.pointer (some ⟨pb, 0, none⟩)) (.pointer (some ⟨qb, 0, none⟩)) (k + 1) w5 := by
        refine ⟨F', G', ArG.turn H4.out t5 hd, h5, fun b hb hg => ?_, fun b hb => ?_, fun b hb => ?_, ?_⟩
        · rcases hG5 b hg with c | c
          · exact hd b hb c
          · have := H4.out.lt b hb; omega
        · rcases HF4.out b hb with c | c
          · exact HF.out b c
          · exact Nat.le_trans hkw.size c
        · rcases hG5 b hb with c | c
          · exact HG.out b c
          · exact Nat.le_trans (Nat.le_trans hkw.size T4.out.size) c
        · exact Turn.keptOf (Turn.keptOf hkw T4.out HF.out) t5 HG.out
      have HS5 := Lib.hid hs5
      clear h5 t5 hG5 hd hs5
      go_wp2
      go_roundw
      case rel => exact ⟨k + 1, hlt, by go_num, HS5.out⟩
      case measure => simp [intOf]; omega
    · obtain rfl : k = 10 := by omega
      have hkn : ¬ ((10 : Nat) : Int) < 10 := by decide
      go_wp2
      go_ret2
      exact ⟨_, _, _, rfl, rfl, F, G, hA, hR, hFG, hF, hG, hkw⟩
end Go.Proofs.YtnmaiokhndbicaaGreatDoor
end
