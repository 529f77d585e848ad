/- Texts of one proof, put together: RpM, RpN, RtV, RtW, RpO. -/
import Derived.Test.YtlmpejfkpidbeaaDoorMg07
import Derived.Deep.RegionHeld3
import Derived.Test.YtlmpejfkpidbeaaDoorMg05
section
/- Walks of the program's ratchet: Add (written by gen_padd.py). -/
set_option linter.unusedSimpArgs false
set_option linter.unusedVariables false
namespace Go.Proofs.YtlmpejfkpidbeaaDoor
open Go.RowKit
open Rt

/-- Behind the first j of the new leaf's path. -/
def AdI (B g cap bu bi : Nat) (ds : List TN) (ls0 : List Value) (k : Nat) (p : List Nat) (w : World) (j : Nat) (W : World) : Prop :=
  ∃ us ls, OwnT B W (.slice (some ⟨g, 0, none⟩) ds.length cap) us ls ∧ us.length = ds.length ∧ (∀ x, x < ds.length → nd us x = if x ∈ p.take j then adN ds x k else nd ds x) ∧ (∀ y, y ∉ p.take j → ls.getD y undef = ls0.getD y undef) ∧
    Blk W bu 22 [.slice (some ⟨g, 0, none⟩) ds.length cap] ∧ Blk W bi 3 [.int .i64 (k : Int)] ∧ Kept w W
/-- What Add leaves. -/
def PAdd (w : World) (ts : List TN) (i er : Int) (e : Ending) (w' : World) : Prop := ∃ v, e = .returned (.tuple #[v, .int .i64 i, .int .i64 er]) ∧ RdTs w' v ts ∧ Row0 w.heap.size w' v ts.length ∧ Kept w w'
theorem un_fit {t : List TN} {n k : Nat} (m : MayN t n) (hk : lk t k = false) : ∀ x, x < t.length → (nd t x).kd = 2 → (nd t x).un.Pairwise (· < ·) ∧ (nd t x).un.length ≤ 1000 ∧ (k : Int) ∉ (nd t x).un := fun x hx h2 => by
  refine ⟨may_ris m x hx h2, may_un2 m x hx, fun hm => ?_⟩
  have hx' : x < 2 * n - 1 := by rw [← m.len]; exact hx
  by_cases ho : x % 2 = 0
  · have := (m.leaf x hx' (by omega) ho).1
    omega
  · obtain ⟨j, hj, _, _, hl, _⟩ := (m.par x hx' (by omega) (by omega)).2.2.2.2 _ hm
    rw [show j = k by omega, hk] at hl
    cases hl
theorem un_fit2 {t : List TN} {n k r : Nat} (m : MayN t n) (hk : lk t k = false) : ∀ x, x < (t ++ List.replicate r tn0).length → (nd (t ++ List.replicate r tn0) x).kd = 2 → (nd (t ++ List.replicate r tn0) x).un.Pairwise (· < ·) ∧ (nd (t ++ List.replicate r tn0) x).un.length ≤ 1000 ∧ (k : Int) ∉ (nd (t ++ List.replicate r tn0) x).un := fun x hx h2 => by
  rw [nd_zeros] at h2 ⊢
  by_cases c : x < t.length
  · exact un_fit m hk x c h2
  · rw [nd_out (by omega)] at h2
    cases h2
theorem OwnT.box {B b : Nat} {w : World} {v : Value} {ds : List TN} {lvs cs : List Value} (h : OwnT B w v ds lvs) (hb : Blk w b 22 cs) (u : Value) : OwnT B (w.setCell ⟨b, 0, none⟩ u) v ds lvs :=
  ⟨Ownv.setCell h.row (fun q => Ownv.notBlk h.row hb (by decide) q) u, h.len, fun i hi => Ownv.setCell (h.un i hi) (fun q => Ownv.notBlk (h.un i hi) hb (by decide) q) u, h.apart⟩
set_option maxHeartbeats 16000000 in
set_option maxRecDepth 100000 in
theorem padd_any {w : World} {tv lv : Value} {t : List TN} {l : TN} (ht : RdTs w tv t) (hok : ∀ d ∈ t, TnOk d) (hl' : t.length ≤ 1000000) (hun' : ∀ d ∈ t, d.un.length ≤ 1000) (hT : Tabs w) (hl : RdTn w lv l) (hlu : l.un.length ≤ 1000) :
    Calls Tryd.prog 18 #[tv, lv] w (PAdd w (addT t l) (addI t l) (addE t l)) := by
  obtain ⟨yv, rfl, hrl⟩ := hl
  obtain ⟨ua, uc, rfl, _, _, _⟩ := hrl.len
  have ka : Kept w (w.alloc (.cells #[.int .i64 l.kd, .int .i64 l.id, .int .i64 l.enc, .int .i64 l.sig, .int .i64 l.hash, .slice ua l.un.length uc] 32)) := (Kept.refl w).alloc _
  have HC := Lib.hid (fun W (k : Kept w W) => pcheck_any (ht.kept k) hok hl' hun' (hT.kept k))
  have HLf := Lib.hid (fun W (k : Kept w W) => pleaf_any (w := W) (d := l) ⟨_, rfl, hrl.kept k⟩)
  have HOw := Lib.hid (fun W (k : Kept w W) => pown_any (w := W) (d := l) ⟨_, rfl, hrl.kept k⟩ hlu)
  have HTabs := Lib.hid hT
  have bX0 : Blk (w.alloc (.cells #[.int .i64 l.kd, .int .i64 l.id, .int .i64 l.enc, .int .i64 l.sig, .int .i64 l.hash, .slice ua l.un.length uc] 32)) w.heap.size 32 [.int .i64 l.kd, .int .i64 l.id, .int .i64 l.enc, .int .i64 l.sig, .int .i64 l.hash, .slice ua l.un.length uc] := Blk.new _ _ _
  have HE := Shut.mk (show addE t l = bif chkB t && leafB l then (bif Nat.beq (fr t (lvs t.length)) (lvs t.length) && Nat.beq (lvs t.length) 256 then 2 else 0) else 1 from rfl)
  have HI := Shut.mk (show addI t l = bif decide (addE t l = 0) then ((fr t (lvs t.length) : Nat) : Int) else 0 from rfl)
  have HTT := Shut.mk (show addT t l = bif decide (addE t l = 0) then (bif Nat.beq (fr t (lvs t.length)) (lvs t.length) then tab (t.length + 2 * lvs t.length) (addG (t ++ List.replicate (2 * lvs t.length) tn0) (lvs t.length) l) else tab t.length (addG t (fr t (lvs t.length)) l)) else [] from rfl)
  obtain ⟨ta, tc, htv, _, _, _⟩ := ht.len
  subst htv
  cases hc : chkB t with
  | false =>
    rw [hc] at HC HE
    have HAE := Shut.mk (show addE t l = 1 from HE.out)
    have HAI := Shut.mk (show addI t l = 0 by rw [HI.out, HAE.out]; rfl)
    have HAT := Shut.mk (show addT t l = [] by rw [HTT.out, HAE.out]; rfl)
    have HC2 : Hid (∀ W, Kept w W → Calls Tryd.prog 10 #[.slice ta t.length tc] W fun e w' => e = .returned (.int .i64 1) ∧ Kept W w') := HC
    clear hc HC
    go_enter Tryd.func18, Tryd.ntmps18
    go_wp2_with fail
    (with_reducible refine (HC2.out _ ka).mono ?_); rintro e w1 ⟨rfl, k1⟩
    go_wp2
    go_ret3
    exact ⟨_, by rw [HAI.out, HAE.out]; rfl, by rw [HAT.out]; exact RdTs.nil _, by rw [HAT.out]; exact Row0.nil _ _, ka.trans k1⟩
  | true =>
  rw [hc] at HC HE
  have HC2 : Hid (∀ W, Kept w W → Calls Tryd.prog 10 #[.slice ta t.length tc] W fun e w' => e = .returned (.int .i64 0) ∧ Kept W w') := HC
  clear HC
  cases hlf : leafB l with
  | false =>
    rw [hlf] at HLf HE
    have HAE := Shut.mk (show addE t l = 1 from HE.out)
    have HAI := Shut.mk (show addI t l = 0 by rw [HI.out, HAE.out]; rfl)
    have HAT := Shut.mk (show addT t l = [] by rw [HTT.out, HAE.out]; rfl)
    clear hc hlf
    go_enter Tryd.func18, Tryd.ntmps18
    go_wp2_with fail
    (with_reducible refine (HC2.out _ ka).mono ?_); rintro e w1 ⟨rfl, k1⟩
    have b4 := bX0.kept k1
    have c0 := b4.cell 0
    have c1 := b4.cell 1
    have c2 := b4.cell 2
    have c3 := b4.cell 3
    have c4 := b4.cell 4
    have c5 := b4.cell 5
    simp only [List.getElem?_cons_zero, List.getElem?_cons_succ] at c0 c1 c2 c3 c4 c5
    have k1' := ka.trans k1
    go_wp2_with fail
    (with_reducible refine (HLf.out _ k1').mono ?_); rintro e w2 ⟨rfl, k2⟩
    go_wp2
    go_ret3
    exact ⟨_, by rw [HAI.out, HAE.out]; rfl, by rw [HAT.out]; exact RdTs.nil _, by rw [HAT.out]; exact Row0.nil _ _, k1'.trans k2⟩
  | true =>
  rw [hlf] at HLf HE
  have hm := (chkB_may.1 hc).mn
  generalize lvs t.length = n at HE HI HTT hm
  have hnb := fulls_bd hm.hn
  have HFr := Lib.hid (fun W (k : Kept w W) => pfree_any (ht.kept k) hm)
  have HLv := Lib.hid (fun W (k : Kept w W) => pleaves_of (ht.kept k) hm.hn hm.len)
  have HOs := Lib.hid (fun W (k : Kept w W) => powns_any (ht.kept k) (by have := hm.len; omega) hun')
  obtain ⟨fr1, fr2, fr3⟩ := fr_spec t n
  have HM := Lib.hid hm
  have HNL := Shut.mk hm.len
  have n0 : (1 : Int) ≤ (n : Int) := by omega
  have n1 : (n : Int) ≤ 256 := by omega
  have t63 : (t.length : Int) ≤ 511 := by have := hm.len; omega
  have tl0 : 0 < t.length := by have := hm.len; omega
  have hlk : lk t (fr t n) = false := by
    rcases fr3 with e | e
    · rw [e]; unfold lk; rw [nd_out (by have := hm.len; omega)]; rfl
    · exact e
  have HLk := Shut.mk hlk
  have HFr2 := Shut.mk fr2
  generalize hkk : fr t n = k at HE HI HTT HFr fr1 HLk HFr2
  clear hc hlf hm fr2 fr3 hlk hun' hok ht hT hkk
  have kk0 : (0 : Int) ≤ (k : Int) := by omega
  have kk1 : (k : Int) ≤ 256 := by omega
  go_enter Tryd.func18, Tryd.ntmps18
  go_wp2_with fail
  (with_reducible refine (HC2.out _ ka).mono ?_); rintro e w1 ⟨rfl, k1⟩
  have b4 := bX0.kept k1
  have c0 := b4.cell 0
  have c1 := b4.cell 1
  have c2 := b4.cell 2
  have c3 := b4.cell 3
  have c4 := b4.cell 4
  have c5 := b4.cell 5
  simp only [List.getElem?_cons_zero, List.getElem?_cons_succ] at c0 c1 c2 c3 c4 c5
  have k1' := ka.trans k1
  go_wp2_with fail
  (with_reducible refine (HLf.out _ k1').mono ?_); rintro e w2 ⟨rfl, q2⟩
  have k2 := k1'.trans q2
  clear c0 c1 c2 c3 c4 c5
  go_wp2_with fail
  (with_reducible refine (HFr.out _ k2).mono ?_); rintro e w3 ⟨rfl, rfl⟩
  go_wp2_with fail
  (with_reducible refine (HOs.out _ k2).mono ?_); rintro e w4 ⟨v, lvs, rfl, ho, q4⟩
  have k4 := k2.trans q4
  obtain ⟨g, cap, rfl, hg1, hg2, _, _⟩ := ho.row.addr0 (by rw [tflat_length]; omega)
  have hBw : w.heap.size ≤ w2.heap.size := k2.size
  have hB24 : w2.heap.size ≤ w4.heap.size := q4.size
  have hwl : w.heap.size < w2.heap.size := (bX0.kept (k1.trans q2)).lt
  have HLt0 := Shut.mk (show ∀ y b, Blks (lvs.getD y undef) b → b < w4.heap.size from fun y b hb => by
    by_cases c : y < t.length
    · exact (Ownv.lt (ho.un y c) hb).1
    · rw [List.getD_eq_getElem?_getD, List.getElem?_eq_none (by rw [ho.len]; omega)] at hb
      cases hb)
  have kB : Kept w4 ((w4.alloc (.cells #[.int .i64 (k : Int)] 3)).alloc (.cells #[.slice (some ⟨g, 0, none⟩) t.length cap] 22)) := ((Kept.refl w4).alloc _).alloc _
  have bI : Blk ((w4.alloc (.cells #[.int .i64 (k : Int)] 3)).alloc (.cells #[.slice (some ⟨g, 0, none⟩) t.length cap] 22)) w4.heap.size 3 [.int .i64 (k : Int)] := (Blk.new w4 [.int .i64 (k : Int)] 3).kept ((Kept.refl _).alloc _)
  have bU : Blk ((w4.alloc (.cells #[.int .i64 (k : Int)] 3)).alloc (.cells #[.slice (some ⟨g, 0, none⟩) t.length cap] 22)) (w4.heap.size + 1) 22 [.slice (some ⟨g, 0, none⟩) t.length cap] := by
    have := Blk.new (w4.alloc (.cells #[.int .i64 (k : Int)] 3)) [.slice (some ⟨g, 0, none⟩) t.length cap] 22
    rwa [alloc_size] at this
  go_upto_region 4 with fail
  generalize ((w4.alloc (.cells #[.int .i64 (k : Int)] 3)).alloc (.cells #[.slice (some ⟨g, 0, none⟩) t.length cap] 22)) = wB at kB bI bU ⊢
  have kwB := k4.trans kB
  have hbl := bX0.kept (((k1.trans q2).trans q4).trans kB)
  have hob := ho.kept kB
  have d1 := bU.cell 0
  have d2 := bI.cell 0
  simp only [List.getElem?_cons_zero] at d1 d2
  have hqv := fun (q : Nat) => Calls.quiet_of_same ((HLv.out (wB.drewN q) (kwB.drewN q)).mono fun e w' ⟨x, y⟩ => ⟨x, y.symm⟩)
  have HOB := Lib.hid hob
  have HBL0 := Lib.hid hbl
  have HBU0 := Lib.hid bU
  have HBI0 := Lib.hid bI
  clear hob hbl bU bI ho b4 bX0
  by_cases hkn : k = n
  · have hd : ((k : Int) == (n : Int)) = true := by rw [beq_iff_eq]; omega
    have HE2 := Shut.mk (show addE t l = bif Nat.beq n 256 then 2 else 0 by rw [HE.out, hkn, Nat.beq_refl]; rfl)
    have HW := Lib.hid (fun W => Width_any (2 * (k : Int)) W ⟨by omega, by omega⟩)
    go_quiet ((go_at_call 46; exact hqv _))
    have kq : Kept wB (wB.drewN nq) := (Kept.refl wB).drewN nq
    generalize wB.drewN nq = wC at kq ⊢
    have d1 := (HBU0.out.kept kq).cell 0
    have d2 := (HBI0.out.kept kq).cell 0
    simp only [List.getElem?_cons_zero] at d1 d2
    by_cases h256 : n = 256
    · have hw0 : treeB (2 * (k : Int)) = false := by rw [hkn, h256]; rfl
      rw [hw0] at HW
      have HW : Hid (∀ W, Calls Tryd.prog 47 #[.int .i64 (2 * (k : Int))] W fun e w' => e = .returned (.tuple #[.int .i64 0, .int .i64 1]) ∧ Kept W w') := HW
      have HAE := Shut.mk (show addE t l = 2 by rw [HE2.out, h256]; rfl)
      have HAI := Shut.mk (show addI t l = 0 by rw [HI.out, HAE.out]; rfl)
      have HAT := Shut.mk (show addT t l = [] by rw [HTT.out, HAE.out]; rfl)
      clear hw0 h256 hkn hqv
      go_wp2_with fail
      (with_reducible refine (HW.out _).mono ?_); rintro e w5 ⟨rfl, q5⟩
      go_wp2
      go_ret3
      exact ⟨_, by rw [HAI.out, HAE.out]; rfl, by rw [HAT.out]; exact RdTs.nil _, by rw [HAT.out]; exact Row0.nil _ _, (kwB.trans kq).trans q5⟩
    · obtain ⟨hd1, hd2⟩ := fulls_dbl HM.out.hn h256
      have hw0 : treeB (2 * (k : Int)) = true := by
        have := treeB_mk hd1
        rw [hkn]
        rwa [show ((2 * n : Nat) : Int) = 2 * (n : Int) by omega] at this
      rw [hw0] at HW
      have HW : Hid (∀ W, Calls Tryd.prog 47 #[.int .i64 (2 * (k : Int))] W fun e w' => e = .returned (.tuple #[.int .i64 (2 * (2 * (k : Int)) - 1), .int .i64 0]) ∧ Kept W w') := HW
      have HAE := Shut.mk (show addE t l = 0 by rw [HE2.out, nbeq_false h256]; rfl)
      have HAI := Shut.mk (show addI t l = (k : Int) by rw [HI.out, HAE.out]; rfl)
      obtain ⟨ds, hds⟩ : ∃ ds, ds = t ++ List.replicate (2 * n) tn0 := ⟨_, rfl⟩
      obtain ⟨lv6, hlv6⟩ : ∃ lv6, lv6 = lvs ++ List.replicate (2 * n) (Value.slice none 0 0) := ⟨_, rfl⟩
      have HDs := Shut.mk (show ds.length = 2 * (2 * n) - 1 by rw [hds, List.length_append, List.length_replicate, HNL.out]; omega)
      have HDS := Shut.mk hds
      have HLV := Shut.mk hlv6
      have HAT := Shut.mk (show addT t l = tab ds.length (addG ds k l) by rw [HTT.out, HAE.out, hkn, Nat.beq_refl, hds, List.length_append, List.length_replicate]; rfl)
      have HUn := Shut.mk (show ∀ x, x < ds.length → (nd ds x).kd = 2 → (nd ds x).un.Pairwise (· < ·) ∧ (nd ds x).un.length ≤ 1000 ∧ (k : Int) ∉ (nd ds x).un by rw [hds]; exact un_fit2 HM.out HLk.out)
      have HLt := Shut.mk (show ∀ y b, Blks (lv6.getD y undef) b → b < w4.heap.size from fun y b hb => by
        rw [hlv6, lv_app] at hb
        by_cases c : y < lvs.length
        · rw [if_pos c] at hb; exact HLt0.out y b hb
        · rw [if_neg c] at hb
          by_cases c2 : y - lvs.length < 2 * n
          · rw [lv_rep c2] at hb; cases hb
          · rw [List.getD_eq_getElem?_getD, List.getElem?_eq_none (by rw [List.length_replicate]; omega)] at hb; cases hb)
      have HK := Shut.mk (show k < 2 * n by omega)
      have HMf := Shut.mk hd1
      have hsub : 2 * (2 * (k : Int)) - 1 - (t.length : Int) = ((2 * n : Nat) : Int) := by have := HNL.out; omega
      clear hw0 h256 hkn hqv hds hlv6
      go_wp2_with fail
      (with_reducible refine (HW.out _).mono ?_); rintro e w5 ⟨rfl, q5⟩
      have k5 := kq.trans q5
      have ho5 := HOB.out.kept k5
      have b5 := HBU0.out.kept k5
      have d1 := b5.cell 0
      simp only [List.getElem?_cons_zero] at d1
      have hBs : w2.heap.size ≤ w5.heap.size := by have := (k5.size); have := kB.size; omega
      have hfz := b5.frozen 0
      go_wp2_with (at_builtin; refine go_appz w2.heap.size (.slice (some ⟨g, 0, none⟩) t.length cap) t lvs rfl ho5 tl0 (2 * n) (by omega) (by rfl) (by omega) hBs ?_; intro v6 w6 o6 t6; have b6 := Blk.turn b5 t6 (fun hb => Ownv.notBlk ho5.row b5 (by decide) hb); have d6 := b6.cell 0; simp only [List.getElem?_cons_zero] at d6; have f6 := b6.frozen 0; rw [← HDS.out, ← HLV.out] at o6; obtain ⟨g6, cap6, rfl, _, _, _, _⟩ := o6.row.addr0 (by rw [tflat_length, HDs.out]; omega))
      have hgw : ∀ b, Blks (.slice (some ⟨g, 0, none⟩) t.length cap) b → b = g := fun b hb => (Option.some.inj (show some g = some b from hb)).symm
      have HO := Lib.hid (o6.box b6 (.slice (some ⟨g6, 0, none⟩) ds.length cap6))
      have HBU := Lib.hid (b6.set 0 (.slice (some ⟨g6, 0, none⟩) ds.length cap6))
      have HBI := Lib.hid (Blk.turn (Blk.turn (HBI0.out.kept k5) t6 (fun hb => Ownv.notBlk ho5.row (HBI0.out.kept k5) (by decide) hb)) (turn_setCell w6 ⟨w4.heap.size + 1, 0, none⟩ (.slice (some ⟨g6, 0, none⟩) ds.length cap6)) (by show ¬ w4.heap.size = w4.heap.size + 1; omega))
      have HBL := Lib.hid (Blk.turn (Blk.turn (HBL0.out.kept k5) t6 (fun hb => by have := hgw _ hb; omega)) (turn_setCell w6 ⟨w4.heap.size + 1, 0, none⟩ (.slice (some ⟨g6, 0, none⟩) ds.length cap6)) (by show ¬ w.heap.size = w4.heap.size + 1; omega))
      have kWB : Kept w (w6.setCell ⟨w4.heap.size + 1, 0, none⟩ (.slice (some ⟨g6, 0, none⟩) ds.length cap6)) := Kept.setCell (Turn.keptOf (kwB.trans k5) t6 (fun b hb => by have := hgw b hb; omega)) (by show w.heap.size ≤ w4.heap.size + 1; omega) _
      clear o6 b6 t6 b5 ho5 d1 d6 f6 hfz hgw hsub
      generalize (w6.setCell ⟨w4.heap.size + 1, 0, none⟩ (.slice (some ⟨g6, 0, none⟩) ds.length cap6)) = WB at kWB HO HBU HBI HBL ⊢
      have HLi := Lib.hid (fun W' (k' : Kept WB W') => HOw.out W' (kWB.trans k'))
      have HSk := Lib.hid (fun (W' : World) (k' : Kept WB W') =>
        (show W'.cell? ⟨w4.heap.size + 1, 0, none⟩ = some (.slice (some ⟨g6, 0, none⟩) ds.length cap6) ∧ W'.cell? ⟨w4.heap.size, 0, none⟩ = some (.int .i64 (k : Int)) ∧ W'.cell? ⟨w.heap.size, 0, none⟩ = some (.int .i64 l.kd) ∧ W'.cell? ⟨w.heap.size, 1, none⟩ = some (.int .i64 l.id) ∧ W'.cell? ⟨w.heap.size, 2, none⟩ = some (.int .i64 l.enc) ∧ W'.cell? ⟨w.heap.size, 3, none⟩ = some (.int .i64 l.sig) ∧ W'.cell? ⟨w.heap.size, 4, none⟩ = some (.int .i64 l.hash) ∧ W'.cell? ⟨w.heap.size, 5, none⟩ = some (.slice ua l.un.length uc) from
          ⟨by rw [(HBU.out.kept k').cell]; rfl, by rw [(HBI.out.kept k').cell]; rfl, by rw [(HBL.out.kept k').cell]; rfl, by rw [(HBL.out.kept k').cell]; rfl, by rw [(HBL.out.kept k').cell]; rfl, by rw [(HBL.out.kept k').cell]; rfl, by rw [(HBL.out.kept k').cell]; rfl, by rw [(HBL.out.kept k').cell]; rfl⟩))
      have hqD : 2 * k < ds.length := by have := HK.out; have := HDs.out; omega
      have hgt := Ownv.lt HO.out.row (b := g6) rfl
      have hgu : g6 ≠ w4.heap.size + 1 := fun e => by
        have := HBU.out
        rw [← e] at this
        exact Ownv.notBlk HO.out.row this (by decide) rfl
      have hgi : g6 ≠ w4.heap.size := fun e => by
        have := HBI.out
        rw [← e] at this
        exact Ownv.notBlk HO.out.row this (by decide) rfl
      have hgl : g6 ≠ w.heap.size := by omega
      have hss := (fun (W' : World) (k' : Kept WB W') (lv' : Value) =>
        (show (put6 W' g6 (2 * k * 6) l lv').cell? ⟨w4.heap.size + 1, 0, none⟩ = some (.slice (some ⟨g6, 0, none⟩) ds.length cap6) ∧ (put6 W' g6 (2 * k * 6) l lv').cell? ⟨w4.heap.size, 0, none⟩ = some (.int .i64 (k : Int)) ∧ (put6 W' g6 (2 * k * 6) l lv').cell? ⟨w.heap.size, 0, none⟩ = some (.int .i64 l.kd) ∧ (put6 W' g6 (2 * k * 6) l lv').cell? ⟨w.heap.size, 1, none⟩ = some (.int .i64 l.id) ∧ (put6 W' g6 (2 * k * 6) l lv').cell? ⟨w.heap.size, 2, none⟩ = some (.int .i64 l.enc) ∧ (put6 W' g6 (2 * k * 6) l lv').cell? ⟨w.heap.size, 3, none⟩ = some (.int .i64 l.sig) ∧ (put6 W' g6 (2 * k * 6) l lv').cell? ⟨w.heap.size, 4, none⟩ = some (.int .i64 l.hash) ∧ (put6 W' g6 (2 * k * 6) l lv').cell? ⟨w.heap.size, 5, none⟩ = some (.slice ua l.un.length uc) from by
          have tr := put6_turn W' g6 (2 * k * 6) l lv'
          have b1 := Blk.turn (HBU.out.kept k') tr (fun e => hgu e.symm)
          have b2 := Blk.turn (HBI.out.kept k') tr (fun e => hgi e.symm)
          have b3 := Blk.turn (HBL.out.kept k') tr (fun e => hgl e.symm)
          exact ⟨by rw [b1.cell]; rfl, by rw [b2.cell]; rfl, by rw [b3.cell]; rfl, by rw [b3.cell]; rfl, by rw [b3.cell]; rfl, by rw [b3.cell]; rfl, by rw [b3.cell]; rfl, by rw [b3.cell]; rfl⟩))
      unfold put6 at hss
      have HSs := Lib.hid hss
      clear hss
      have HCl := Lib.hid (fun (W' : World) (k' : Kept WB W') => (HO.out.kept k').rowT.cells hqD)
      have hk0 : (0 : Int) ≤ (k : Int) := by omega
      have hk1 : (k : Int) ≤ 255 := by have := HK.out; have := fulls_bd HMf.out; omega
      have hk2 : 2 * (k : Int) < (ds.length : Int) := by omega
      have hk3 : (ds.length : Int) ≤ 511 := by have := HDs.out; have := fulls_bd HMf.out; omega
      have hk4 : (0 : Int) ≤ 2 * (k : Int) := by omega
      have hk5 : (2 * (k : Int)).toNat = 2 * k := by omega
      have hwr : IntKind.i64.wrap (2 * (k : Int)) = 2 * (k : Int) := IntWalk.i64_in _ ⟨by omega, by omega⟩
      go_wp2_with fail
      go_region_held3 (fun w' => w'.cell? ⟨w4.heap.size + 1, 0, none⟩ = some (.slice (some ⟨g6, 0, none⟩) ds.length cap6) ∧ w'.cell? ⟨w4.heap.size, 0, none⟩ = some (.int .i64 (k : Int)) ∧ w'.cell? ⟨w.heap.size, 0, none⟩ = some (.int .i64 l.kd) ∧ w'.cell? ⟨w.heap.size, 1, none⟩ = some (.int .i64 l.id) ∧ w'.cell? ⟨w.heap.size, 2, none⟩ = some (.int .i64 l.enc) ∧ w'.cell? ⟨w.heap.size, 3, none⟩ = some (.int .i64 l.sig) ∧ w'.cell? ⟨w.heap.size, 4, none⟩ = some (.int .i64 l.hash) ∧ w'.cell? ⟨w.heap.size, 5, none⟩ = some (.slice ua l.un.length uc))
        (first | with_reducible exact HSs.out _ k9 _ | with_reducible exact HSk.out _ k9 | with_reducible exact HSk.out _ (Kept.refl _) | with_reducible exact HSk.out _ (Kept.refl _).drew | go_keep)
        ((go_at_call 48; (with_reducible refine (HLi.out _ (by first | exact Kept.refl _ | exact (Kept.refl _).drew | exact (Kept.refl _).drewN _)).mono ?_); rintro e w9 ⟨nv, rfl, o9, q9⟩; have k9 : Kept WB w9 := (by first | exact q9 | exact (Kept.refl _).drew.trans q9 | exact ((Kept.refl _).drewN _).trans q9); have o9' : OwnI WB.heap.size w9 nv l.un := o9; obtain ⟨na, nc, rfl, _, _, _⟩ := (OwnI.rd o9).len; obtain ⟨lv0, ⟨s0, s1, s2, s3, s4, s5⟩, f⟩ := HCl.out _ k9; have f0 := f (2 * k * 6); have f1 := f (2 * k * 6 + 1); have f2 := f (2 * k * 6 + 2); have f3 := f (2 * k * 6 + 3); have f4 := f (2 * k * 6 + 4); have f5 := f (2 * k * 6 + 5)))
      clear f0 f1 f2 f3 f4 f5 s0 s1 s2 s3 s4 s5 f
      have tr9 := put6_turn w9 g6 (2 * k * 6) l (.slice na l.un.length nc)
      have hB9 : w2.heap.size ≤ WB.heap.size := by omega
      have ho9 := (HO.out.kept k9).put hqD l (.slice na l.un.length nc) (Ownv.mono o9' hB9) (fun a ha _ b hb hb2 => by
        have h1 := (Ownv.lt o9' hb).2
        have h2 := (Ownv.lt (HO.out.un a ha) hb2).1
        omega)
      have bu9 := Blk.turn (HBU.out.kept k9) tr9 (fun e => hgu e.symm)
      have bi9 := Blk.turn (HBI.out.kept k9) tr9 (fun e => hgi e.symm)
      have kP : Kept w (put6 w9 g6 (2 * k * 6) l (.slice na l.un.length nc)) := Turn.keptOf (kWB.trans k9) tr9 (fun b e => by omega)
      have hPs : w4.heap.size ≤ (put6 w9 g6 (2 * k * 6) l (.slice na l.un.length nc)).heap.size := Nat.le_trans (by have := HBU.out.lt; omega) (Nat.le_trans k9.size tr9.size)
      unfold put6 at ho9 bu9 bi9 kP hPs
      generalize ((((((w9.setCell ⟨g6, 2 * k * 6, none⟩ (.int .i64 l.kd)).setCell ⟨g6, 2 * k * 6 + 1, none⟩ (.int .i64 l.id)).setCell ⟨g6, 2 * k * 6 + 2, none⟩ (.int .i64 l.enc)).setCell ⟨g6, 2 * k * 6 + 3, none⟩ (.int .i64 l.sig)).setCell ⟨g6, 2 * k * 6 + 4, none⟩ (.int .i64 l.hash)).setCell ⟨g6, 2 * k * 6 + 5, none⟩ (.slice na l.un.length nc)) = WP at ho9 bu9 bi9 kP hPs ⊢
      have hpf := fun j => path_fresh (j := j) HMf.out HK.out
      have hl0 : (lv6.set (2 * k) (Value.slice na l.un.length nc)).length = ds.length := by rw [List.length_set, HO.out.len]
      have hab := pabove_any (tv := .slice (some ⟨g6, 0, none⟩) ds.length cap6) (g := 50) (caps := #[.pointer (some ⟨w4.heap.size + 1, 0, none⟩), .pointer (some ⟨w4.heap.size, 0, none⟩)]) (F := fun b => b < WP.heap.size)
        (I := AdI w2.heap.size g6 cap6 (w4.heap.size + 1) w4.heap.size (ds.set (2 * k) l) (lv6.set (2 * k) (.slice na l.un.length nc)) k (Mth.path (2 * k) (2 * n)) w)
        ho9.rd HMf.out (by rw [List.length_set]; exact HDs.out) HK.out (HTabs.out.kept kP) (enters_of Tryd.func50 (by kernel_rfl) rfl) (fun b h => h)
        (fun W' q => ⟨_, _, by rw [List.length_set]; exact ho9.kept q, rfl, fun x hx => by rw [List.take_zero, if_neg List.not_mem_nil], fun y _ => rfl, by rw [List.length_set]; exact bu9.kept q, bi9.kept q, kP.trans q⟩)
        (fun j hj W' hI => by
          obtain ⟨us, ls, q1, q2, q3, q4, q5, q6, q7⟩ := hI
          obtain ⟨pf1, pf2, pf3⟩ := hpf j hj
          have hx : (Mth.path (2 * k) (2 * n)).getD j 0 < ds.length := by have := HDs.out; omega
          have htk := takeN_snoc hj
          generalize (Mth.path (2 * k) (2 * n)).getD j 0 = x at pf1 pf2 pf3 hx htk ⊢
          rw [List.length_set] at q1 q2 q3 q5
          have hnx : nd us x = nd ds x := by rw [q3 x hx, if_neg pf1, nd_set hqD, if_neg pf2]
          have hlx : ls.getD x undef = lv6.getD x undef := by rw [q4 x pf1, lv_set (by rw [HO.out.len]; exact hqD), if_neg pf2]
          have hlt : ∀ b, Blks (ls.getD x undef) b → b < w4.heap.size ∧ w2.heap.size ≤ b := fun b hb => by
            have h1 := (Ownv.lt (q1.un x (by rw [q2]; exact hx)) hb).2
            rw [hlx] at hb
            exact ⟨HLt.out x b hb, h1⟩
          have q1' := q1
          have q5' := q5
          rw [← q2] at q1' q5'
          refine (pad1_any q1' q5' q6 (by rw [q2]; exact hx) (by rw [q2]; have := HDs.out; have := fulls_bd HMf.out; omega) (fun h => by rw [hnx] at h ⊢; exact HUn.out x hx h) (fun b hb e => by have := (hlt b hb).1; omega)).mono ?_
          rintro e W2' ⟨rfl, us', ls', r1, r2, r3, r4, r5⟩
          refine ⟨rfl, ⟨us', ls', by rw [List.length_set, ← q2]; exact r1, by rw [r2, q2, List.length_set], fun y hy => ?_, fun y hy => ?_, ?_, ?_, ?_⟩, r5.mono fun b hb => hb.elim (fun e => by rw [e]; exact (Ownv.lt ho9.row (b := g6) rfl).1) (fun hb => by have := (hlt b hb).1; omega)⟩
          · rw [List.length_set] at hy
            rw [r3 y (by rw [q2]; exact hy), htk]
            by_cases c : y = x
            · rw [if_pos c, c, if_pos (by simp)]
              unfold adN
              rw [hnx, nd_set hqD, if_neg pf2]
            · rw [if_neg c, q3 y hy]
              by_cases c2 : y ∈ (Mth.path (2 * k) (2 * n)).take j
              · rw [if_pos c2, if_pos (List.mem_append_left _ c2)]
              · rw [if_neg c2, if_neg (fun h => (List.mem_append.1 h).elim c2 (fun h => c (List.mem_singleton.1 h)))]
          · rw [htk] at hy
            have hne : y ≠ x := fun e => hy (by rw [e]; simp)
            rw [r4 y hne]
            exact q4 y (fun h => hy (List.mem_append_left _ h))
          · rw [List.length_set]
            exact Blk.turn q5 r5 (fun hb => hb.elim (fun e => hgu e.symm) (fun hb => Ownv.notBlk (q1.un x (by rw [q2]; exact hx)) q5 (by decide) hb))
          · exact Blk.turn q6 r5 (fun hb => hb.elim (fun e => hgi e.symm) (fun hb => by have := (hlt _ hb).1; omega))
          · exact Turn.keptOf q7 r5 (fun b hb => hb.elim (fun e => by omega) (fun hb => by have := (hlt b hb).2; omega)))
      have HAB := Lib.hid hab
      have d1 := bu9.cell 0
      have d2 := bi9.cell 0
      simp only [List.getElem?_cons_zero] at d1 d2
      clear hab ho9 bu9 bi9 hPs hpf hl0
      go_wp2_with fail
      (with_reducible refine HAB.out.mono ?_); rintro e w10 ⟨rfl, ⟨us, ls, r1, r2, r3, r4, r5, r6, r7⟩, _⟩
      rw [List.length_set] at r1 r2 r3 r5
      have hU : us = tab ds.length (addG ds k l) := tn_ext (by rw [tab_len]; exact r2) fun x hx => by
        rw [r2] at hx
        have h := path_mem (x := x) HMf.out HK.out (by have := HDs.out; omega)
        rw [r3 x hx, List.take_length, tab_nd hx]
        unfold addG adN
        rw [nd_set hqD]
        by_cases c : x = 2 * k
        · rw [if_pos c, if_neg (fun q => (h.1 q).2 c), if_pos c]
        · rw [if_neg c, if_neg c]
          by_cases c2 : x ∈ Mth.path (2 * k) (2 * n)
          · rw [if_pos c2]
            by_cases c3 : (nd ds x).kd = 2
            · rw [if_pos c3, if_pos ⟨(h.1 c2).1, c3⟩]
            · rw [if_neg c3, if_neg (fun q => c3 q.2)]
          · rw [if_neg c2, if_neg (fun q => c2 (h.2 ⟨q.1, c⟩))]
      have hrd := r1.rd
      have hro := Ownv.row0 (Ownv.mono r1.row hBw)
      rw [hU] at hrd
      rw [r2] at hro
      have e1 := r5.cell 0
      have e2 := r6.cell 0
      simp only [List.getElem?_cons_zero] at e1 e2
      have HRd := Lib.hid hrd
      have HRo := Lib.hid hro
      clear hrd hro r1 r2 r3 r4 r5 r6 hU
      go_wp2
      go_quiet (fail)
      go_wp2
      go_ret3
      exact ⟨_, by rw [HAI.out, HAE.out]; rfl, by rw [HAT.out]; exact HRd.out.kept ((Kept.refl _).drewN _), by rw [HAT.out, tab_len]; exact HRo.out.kept ((Kept.refl _).drewN _), r7.drewN _⟩
  · have hd : ((k : Int) == (n : Int)) = false := by rw [beq_eq_false_iff_ne]; omega
    have hbq := nbeq_false hkn
    have HAE := Shut.mk (show addE t l = 0 by rw [HE.out, hbq]; rfl)
    have HAI := Shut.mk (show addI t l = (k : Int) by rw [HI.out, HAE.out]; rfl)
    have HAT := Shut.mk (show addT t l = tab t.length (addG t k l) by rw [HTT.out, HAE.out, hbq]; rfl)
    have HK := Shut.mk (show k < n by omega)
    have HMf := Shut.mk HM.out.hn
    have HDs := HNL
    have HUn := Shut.mk (un_fit HM.out HLk.out)
    have HLt := HLt0
    clear hkn hbq
    go_quiet ((go_at_call 46; exact hqv _))
    have kq : Kept wB (wB.drewN nq) := (Kept.refl wB).drewN nq
    generalize wB.drewN nq = WB at kq ⊢
    have kWB := kwB.trans kq
    have HO := Lib.hid (HOB.out.kept kq)
    have HBU := Lib.hid (HBU0.out.kept kq)
    have HBI := Lib.hid (HBI0.out.kept kq)
    have HBL := Lib.hid (HBL0.out.kept kq)
    clear hqv d1 d2
    have HLi := Lib.hid (fun W' (k' : Kept WB W') => HOw.out W' (kWB.trans k'))
    have HSk := Lib.hid (fun (W' : World) (k' : Kept WB W') =>
      (show W'.cell? ⟨w4.heap.size + 1, 0, none⟩ = some (.slice (some ⟨g, 0, none⟩) t.length cap) ∧ W'.cell? ⟨w4.heap.size, 0, none⟩ = some (.int .i64 (k : Int)) ∧ W'.cell? ⟨w.heap.size, 0, none⟩ = some (.int .i64 l.kd) ∧ W'.cell? ⟨w.heap.size, 1, none⟩ = some (.int .i64 l.id) ∧ W'.cell? ⟨w.heap.size, 2, none⟩ = some (.int .i64 l.enc) ∧ W'.cell? ⟨w.heap.size, 3, none⟩ = some (.int .i64 l.sig) ∧ W'.cell? ⟨w.heap.size, 4, none⟩ = some (.int .i64 l.hash) ∧ W'.cell? ⟨w.heap.size, 5, none⟩ = some (.slice ua l.un.length uc) from
        ⟨by rw [(HBU.out.kept k').cell]; rfl, by rw [(HBI.out.kept k').cell]; rfl, by rw [(HBL.out.kept k').cell]; rfl, by rw [(HBL.out.kept k').cell]; rfl, by rw [(HBL.out.kept k').cell]; rfl, by rw [(HBL.out.kept k').cell]; rfl, by rw [(HBL.out.kept k').cell]; rfl, by rw [(HBL.out.kept k').cell]; rfl⟩))
    have hqD : 2 * k < t.length := by have := HK.out; have := HDs.out; omega
    have hgt := Ownv.lt HO.out.row (b := g) rfl
    have hgu : g ≠ w4.heap.size + 1 := fun e => by
      have := HBU.out
      rw [← e] at this
      exact Ownv.notBlk HO.out.row this (by decide) rfl
    have hgi : g ≠ w4.heap.size := fun e => by
      have := HBI.out
      rw [← e] at this
      exact Ownv.notBlk HO.out.row this (by decide) rfl
    have hgl : g ≠ w.heap.size := by omega
    have hss := (fun (W' : World) (k' : Kept WB W') (lv' : Value) =>
      (show (put6 W' g (2 * k * 6) l lv').cell? ⟨w4.heap.size + 1, 0, none⟩ = some (.slice (some ⟨g, 0, none⟩) t.length cap) ∧ (put6 W' g (2 * k * 6) l lv').cell? ⟨w4.heap.size, 0, none⟩ = some (.int .i64 (k : Int)) ∧ (put6 W' g (2 * k * 6) l lv').cell? ⟨w.heap.size, 0, none⟩ = some (.int .i64 l.kd) ∧ (put6 W' g (2 * k * 6) l lv').cell? ⟨w.heap.size, 1, none⟩ = some (.int .i64 l.id) ∧ (put6 W' g (2 * k * 6) l lv').cell? ⟨w.heap.size, 2, none⟩ = some (.int .i64 l.enc) ∧ (put6 W' g (2 * k * 6) l lv').cell? ⟨w.heap.size, 3, none⟩ = some (.int .i64 l.sig) ∧ (put6 W' g (2 * k * 6) l lv').cell? ⟨w.heap.size, 4, none⟩ = some (.int .i64 l.hash) ∧ (put6 W' g (2 * k * 6) l lv').cell? ⟨w.heap.size, 5, none⟩ = some (.slice ua l.un.length uc) from by
        have tr := put6_turn W' g (2 * k * 6) l lv'
        have b1 := Blk.turn (HBU.out.kept k') tr (fun e => hgu e.symm)
        have b2 := Blk.turn (HBI.out.kept k') tr (fun e => hgi e.symm)
        have b3 := Blk.turn (HBL.out.kept k') tr (fun e => hgl e.symm)
        exact ⟨by rw [b1.cell]; rfl, by rw [b2.cell]; rfl, by rw [b3.cell]; rfl, by rw [b3.cell]; rfl, by rw [b3.cell]; rfl, by rw [b3.cell]; rfl, by rw [b3.cell]; rfl, by rw [b3.cell]; rfl⟩))
    unfold put6 at hss
    have HSs := Lib.hid hss
    clear hss
    have HCl := Lib.hid (fun (W' : World) (k' : Kept WB W') => (HO.out.kept k').rowT.cells hqD)
    have hk0 : (0 : Int) ≤ (k : Int) := by omega
    have hk1 : (k : Int) ≤ 255 := by have := HK.out; have := fulls_bd HMf.out; omega
    have hk2 : 2 * (k : Int) < (t.length : Int) := by omega
    have hk3 : (t.length : Int) ≤ 511 := by have := HDs.out; have := fulls_bd HMf.out; omega
    have hk4 : (0 : Int) ≤ 2 * (k : Int) := by omega
    have hk5 : (2 * (k : Int)).toNat = 2 * k := by omega
    have hwr : IntKind.i64.wrap (2 * (k : Int)) = 2 * (k : Int) := IntWalk.i64_in _ ⟨by omega, by omega⟩
    go_wp2_with fail
    go_region_held3 (fun w' => w'.cell? ⟨w4.heap.size + 1, 0, none⟩ = some (.slice (some ⟨g, 0, none⟩) t.length cap) ∧ w'.cell? ⟨w4.heap.size, 0, none⟩ = some (.int .i64 (k : Int)) ∧ w'.cell? ⟨w.heap.size, 0, none⟩ = some (.int .i64 l.kd) ∧ w'.cell? ⟨w.heap.size, 1, none⟩ = some (.int .i64 l.id) ∧ w'.cell? ⟨w.heap.size, 2, none⟩ = some (.int .i64 l.enc) ∧ w'.cell? ⟨w.heap.size, 3, none⟩ = some (.int .i64 l.sig) ∧ w'.cell? ⟨w.heap.size, 4, none⟩ = some (.int .i64 l.hash) ∧ w'.cell? ⟨w.heap.size, 5, none⟩ = some (.slice ua l.un.length uc))
      (first | with_reducible exact HSs.out _ k9 _ | with_reducible exact HSk.out _ k9 | with_reducible exact HSk.out _ (Kept.refl _) | with_reducible exact HSk.out _ (Kept.refl _).drew | go_keep)
      ((go_at_call 48; (with_reducible refine (HLi.out _ (by first | exact Kept.refl _ | exact (Kept.refl _).drew | exact (Kept.refl _).drewN _)).mono ?_); rintro e w9 ⟨nv, rfl, o9, q9⟩; have k9 : Kept WB w9 := (by first | exact q9 | exact (Kept.refl _).drew.trans q9 | exact ((Kept.refl _).drewN _).trans q9); have o9' : OwnI WB.heap.size w9 nv l.un := o9; obtain ⟨na, nc, rfl, _, _, _⟩ := (OwnI.rd o9).len; obtain ⟨lv0, ⟨s0, s1, s2, s3, s4, s5⟩, f⟩ := HCl.out _ k9; have f0 := f (2 * k * 6); have f1 := f (2 * k * 6 + 1); have f2 := f (2 * k * 6 + 2); have f3 := f (2 * k * 6 + 3); have f4 := f (2 * k * 6 + 4); have f5 := f (2 * k * 6 + 5)))
    clear f0 f1 f2 f3 f4 f5 s0 s1 s2 s3 s4 s5 f
    have tr9 := put6_turn w9 g (2 * k * 6) l (.slice na l.un.length nc)
    have hB9 : w2.heap.size ≤ WB.heap.size := by omega
    have ho9 := (HO.out.kept k9).put hqD l (.slice na l.un.length nc) (Ownv.mono o9' hB9) (fun a ha _ b hb hb2 => by
      have h1 := (Ownv.lt o9' hb).2
      have h2 := (Ownv.lt (HO.out.un a ha) hb2).1
      omega)
    have bu9 := Blk.turn (HBU.out.kept k9) tr9 (fun e => hgu e.symm)
    have bi9 := Blk.turn (HBI.out.kept k9) tr9 (fun e => hgi e.symm)
    have kP : Kept w (put6 w9 g (2 * k * 6) l (.slice na l.un.length nc)) := Turn.keptOf (kWB.trans k9) tr9 (fun b e => by omega)
    have hPs : w4.heap.size ≤ (put6 w9 g (2 * k * 6) l (.slice na l.un.length nc)).heap.size := Nat.le_trans (by have := HBU.out.lt; omega) (Nat.le_trans k9.size tr9.size)
    unfold put6 at ho9 bu9 bi9 kP hPs
    generalize ((((((w9.setCell ⟨g, 2 * k * 6, none⟩ (.int .i64 l.kd)).setCell ⟨g, 2 * k * 6 + 1, none⟩ (.int .i64 l.id)).setCell ⟨g, 2 * k * 6 + 2, none⟩ (.int .i64 l.enc)).setCell ⟨g, 2 * k * 6 + 3, none⟩ (.int .i64 l.sig)).setCell ⟨g, 2 * k * 6 + 4, none⟩ (.int .i64 l.hash)).setCell ⟨g, 2 * k * 6 + 5, none⟩ (.slice na l.un.length nc)) = WP at ho9 bu9 bi9 kP hPs ⊢
    have hpf := fun j => path_fresh (j := j) HMf.out HK.out
    have hl0 : (lvs.set (2 * k) (Value.slice na l.un.length nc)).length = t.length := by rw [List.length_set, HO.out.len]
    have hab := pabove_any (tv := .slice (some ⟨g, 0, none⟩) t.length cap) (g := 50) (caps := #[.pointer (some ⟨w4.heap.size + 1, 0, none⟩), .pointer (some ⟨w4.heap.size, 0, none⟩)]) (F := fun b => b < WP.heap.size)
      (I := AdI w2.heap.size g cap (w4.heap.size + 1) w4.heap.size (t.set (2 * k) l) (lvs.set (2 * k) (.slice na l.un.length nc)) k (Mth.path (2 * k) n) w)
      ho9.rd HMf.out (by rw [List.length_set]; exact HDs.out) HK.out (HTabs.out.kept kP) (enters_of Tryd.func50 (by kernel_rfl) rfl) (fun b h => h)
      (fun W' q => ⟨_, _, by rw [List.length_set]; exact ho9.kept q, rfl, fun x hx => by rw [List.take_zero, if_neg List.not_mem_nil], fun y _ => rfl, by rw [List.length_set]; exact bu9.kept q, bi9.kept q, kP.trans q⟩)
      (fun j hj W' hI => by
        obtain ⟨us, ls, q1, q2, q3, q4, q5, q6, q7⟩ := hI
        obtain ⟨pf1, pf2, pf3⟩ := hpf j hj
        have hx : (Mth.path (2 * k) n).getD j 0 < t.length := by have := HDs.out; omega
        have htk := takeN_snoc hj
        generalize (Mth.path (2 * k) n).getD j 0 = x at pf1 pf2 pf3 hx htk ⊢
        rw [List.length_set] at q1 q2 q3 q5
        have hnx : nd us x = nd t x := by rw [q3 x hx, if_neg pf1, nd_set hqD, if_neg pf2]
        have hlx : ls.getD x undef = lvs.getD x undef := by rw [q4 x pf1, lv_set (by rw [HO.out.len]; exact hqD), if_neg pf2]
        have hlt : ∀ b, Blks (ls.getD x undef) b → b < w4.heap.size ∧ w2.heap.size ≤ b := fun b hb => by
          have h1 := (Ownv.lt (q1.un x (by rw [q2]; exact hx)) hb).2
          rw [hlx] at hb
          exact ⟨HLt.out x b hb, h1⟩
        have q1' := q1
        have q5' := q5
        rw [← q2] at q1' q5'
        refine (pad1_any q1' q5' q6 (by rw [q2]; exact hx) (by rw [q2]; have := HDs.out; have := fulls_bd HMf.out; omega) (fun h => by rw [hnx] at h ⊢; exact HUn.out x hx h) (fun b hb e => by have := (hlt b hb).1; omega)).mono ?_
        rintro e W2' ⟨rfl, us', ls', r1, r2, r3, r4, r5⟩
        refine ⟨rfl, ⟨us', ls', by rw [List.length_set, ← q2]; exact r1, by rw [r2, q2, List.length_set], fun y hy => ?_, fun y hy => ?_, ?_, ?_, ?_⟩, r5.mono fun b hb => hb.elim (fun e => by rw [e]; exact (Ownv.lt ho9.row (b := g) rfl).1) (fun hb => by have := (hlt b hb).1; omega)⟩
        · rw [List.length_set] at hy
          rw [r3 y (by rw [q2]; exact hy), htk]
          by_cases c : y = x
          · rw [if_pos c, c, if_pos (by simp)]
            unfold adN
            rw [hnx, nd_set hqD, if_neg pf2]
          · rw [if_neg c, q3 y hy]
            by_cases c2 : y ∈ (Mth.path (2 * k) n).take j
            · rw [if_pos c2, if_pos (List.mem_append_left _ c2)]
            · rw [if_neg c2, if_neg (fun h => (List.mem_append.1 h).elim c2 (fun h => c (List.mem_singleton.1 h)))]
        · rw [htk] at hy
          have hne : y ≠ x := fun e => hy (by rw [e]; simp)
          rw [r4 y hne]
          exact q4 y (fun h => hy (List.mem_append_left _ h))
        · rw [List.length_set]
          exact Blk.turn q5 r5 (fun hb => hb.elim (fun e => hgu e.symm) (fun hb => Ownv.notBlk (q1.un x (by rw [q2]; exact hx)) q5 (by decide) hb))
        · exact Blk.turn q6 r5 (fun hb => hb.elim (fun e => hgi e.symm) (fun hb => by have := (hlt _ hb).1; omega))
        · exact Turn.keptOf q7 r5 (fun b hb => hb.elim (fun e => by omega) (fun hb => by have := (hlt b hb).2; omega)))
    have HAB := Lib.hid hab
    have d1 := bu9.cell 0
    have d2 := bi9.cell 0
    simp only [List.getElem?_cons_zero] at d1 d2
    clear hab ho9 bu9 bi9 hPs hpf hl0
    go_wp2_with fail
    (with_reducible refine HAB.out.mono ?_); rintro e w10 ⟨rfl, ⟨us, ls, r1, r2, r3, r4, r5, r6, r7⟩, _⟩
    rw [List.length_set] at r1 r2 r3 r5
    have hU : us = tab t.length (addG t k l) := tn_ext (by rw [tab_len]; exact r2) fun x hx => by
      rw [r2] at hx
      have h := path_mem (x := x) HMf.out HK.out (by have := HDs.out; omega)
      rw [r3 x hx, List.take_length, tab_nd hx]
      unfold addG adN
      rw [nd_set hqD]
      by_cases c : x = 2 * k
      · rw [if_pos c, if_neg (fun q => (h.1 q).2 c), if_pos c]
      · rw [if_neg c, if_neg c]
        by_cases c2 : x ∈ Mth.path (2 * k) n
        · rw [if_pos c2]
          by_cases c3 : (nd t x).kd = 2
          · rw [if_pos c3, if_pos ⟨(h.1 c2).1, c3⟩]
          · rw [if_neg c3, if_neg (fun q => c3 q.2)]
        · rw [if_neg c2, if_neg (fun q => c2 (h.2 ⟨q.1, c⟩))]
    have hrd := r1.rd
    have hro := Ownv.row0 (Ownv.mono r1.row hBw)
    rw [hU] at hrd
    rw [r2] at hro
    have e1 := r5.cell 0
    have e2 := r6.cell 0
    simp only [List.getElem?_cons_zero] at e1 e2
    have HRd := Lib.hid hrd
    have HRo := Lib.hid hro
    clear hrd hro r1 r2 r3 r4 r5 r6 hU
    go_wp2
    go_quiet (fail)
    go_wp2
    go_ret3
    exact ⟨_, by rw [HAI.out, HAE.out]; rfl, by rw [HAT.out]; exact HRd.out.kept ((Kept.refl _).drewN _), by rw [HAT.out, tab_len]; exact HRo.out.kept ((Kept.refl _).drewN _), r7.drewN _⟩
end Go.Proofs.YtlmpejfkpidbeaaDoor
end

section
/- What Add, Remove, Update answer is fit to be handed on; live. -/
set_option linter.unusedSimpArgs false
set_option linter.unusedVariables false
namespace Go.Proofs.YtlmpejfkpidbeaaDoor
open Go.RowKit
open Rt

structure FitT (u : List TN) : Prop where
  len : u.length ≤ 1000000
  ok : ∀ d ∈ u, TnOk d
  un : ∀ d ∈ u, d.un.length ≤ 1000
theorem FitT.nil : FitT [] := ⟨by simp, fun d h => absurd h List.not_mem_nil, fun d h => absurd h List.not_mem_nil⟩
theorem tn0_ok : TnOk tn0 := ⟨⟨by decide, by decide⟩, ⟨by decide, by decide⟩, ⟨by decide, by decide⟩, ⟨by decide, by decide⟩, ⟨by decide, by decide⟩, fun x h => absurd h List.not_mem_nil⟩
theorem nd_okT {t : List TN} (h : ∀ d ∈ t, TnOk d) (x : Nat) : TnOk (nd t x) := by
  by_cases c : x < t.length
  · rw [nd_get c]; exact h _ (List.getElem_mem c)
  · rw [nd_out (by omega)]; exact tn0_ok
theorem may_fit {u : List TN} {n : Nat} (m : MayN u n) (h : ∀ d ∈ u, TnOk d) : FitT u := ⟨by have := m.len; have := fulls_bd m.hn; omega, h, may_un m⟩
theorem addG_ok {t : List TN} {k : Nat} {l : TN} (h : ∀ x, TnOk (nd t x)) (hl : TnOk l) (hk : k ≤ 256) (x : Nat) : TnOk (addG t k l x) := by
  unfold addG
  by_cases c : x = 2 * k
  · rw [if_pos c]; exact hl
  · rw [if_neg c]
    split
    · have q := h x
      refine ⟨q.kd, q.id, q.enc, q.sig, q.hash, fun y hy => ?_⟩
      rcases mem_ins.1 hy with rfl | hy
      · exact ⟨by omega, by omega⟩
      · exact q.un y hy
    · exact h x
theorem tab_ok {m : Nat} {g : Nat → TN} (h : ∀ x, TnOk (g x)) : ∀ d ∈ tab m g, TnOk d := fun d hd => by
  obtain ⟨x, _, rfl⟩ := List.mem_map.1 hd
  exact h x
theorem updG_ok {t : List TN} {k : Nat} {l : TN} (h : ∀ x, TnOk (nd t x)) (hl : TnOk l) (x : Nat) : TnOk (updG t k l x) := by
  unfold updG blkG
  by_cases c : x = 2 * k
  · rw [if_pos c]; exact hl
  · rw [if_neg c]
    cases Mth.hasB x k with
    | true => exact tn0_ok
    | false => exact h x
theorem addT_fit {t : List TN} {l : TN} (h : ∀ d ∈ t, TnOk d) (hl : TnOk l) : FitT (addT t l) := by
  by_cases he : addE t l = 0
  · obtain ⟨i, n, m, hi, ha⟩ := add_ok he
    refine may_fit ha.may.mn ?_
    unfold addT
    rw [he]
    have hf := (fr_spec t (lvs t.length)).1
    have hb := lvs_le t.length
    show ∀ d ∈ (bif Nat.beq (fr t (lvs t.length)) (lvs t.length) then tab (t.length + 2 * lvs t.length) (addG (t ++ List.replicate (2 * lvs t.length) tn0) (lvs t.length) l) else tab t.length (addG t (fr t (lvs t.length)) l)), TnOk d
    cases Nat.beq (fr t (lvs t.length)) (lvs t.length) with
    | true => exact tab_ok (addG_ok (fun x => by rw [nd_zeros]; exact nd_okT h x) hl (by omega))
    | false => exact tab_ok (addG_ok (nd_okT h) hl (by omega))
  · have : addT t l = [] := by unfold addT; rw [decide_eq_false he]; rfl
    rw [this]; exact FitT.nil
theorem updT_fit {t : List TN} {l : TN} {i : Int} (h : ∀ d ∈ t, TnOk d) (hl : TnOk l) : FitT (updT t i l) := by
  by_cases he : updE t i l = 0
  · obtain ⟨j, n, hi, hu⟩ := upd_ok he
    refine may_fit hu.may.mn ?_
    unfold updT
    cases leafB l && decide (thI t i = 0) with
    | true => exact tab_ok (updG_ok (nd_okT h) hl)
    | false => exact fun d h => absurd h List.not_mem_nil
  · have : updT t i l = [] := by
      unfold updE at he
      unfold updT
      cases e : leafB l with
      | false => rfl
      | true =>
        rw [e] at he
        have he : ¬ thI t i = 0 := he
        rw [decide_eq_false he]; rfl
    rw [this]; exact FitT.nil
theorem trunc_mem (f : Nat) : ∀ (u : List TN) (n : Nat) (d : TN), d ∈ truncF f u n → d ∈ u := by
  induction f with
  | zero => exact fun u n d h => h
  | succ f ih =>
    intro u n d h
    have h : d ∈ (bif decide (1 < n) && !someB u (n / 2) n then truncF f (u.take (2 * (n / 2) - 1)) (n / 2) else u) := h
    cases e : (decide (1 < n) && !someB u (n / 2) n) with
    | true => rw [e] at h; exact List.mem_of_mem_take (ih _ _ _ h)
    | false => rw [e] at h; exact h
theorem remT_fit {t : List TN} {i : Int} (h : ∀ d ∈ t, TnOk d) : FitT (remT t i) := by
  by_cases he : remE t i = 0
  · obtain ⟨j, n, m, hi, hu⟩ := rem_ok he
    refine may_fit hu.may.mn ?_
    unfold remT
    cases decide (thI t i = 0) && someB (blkT t i.toNat) 0 (lvs t.length) with
    | true => exact fun d hd => tab_ok (updG_ok (nd_okT h) tn0_ok) d (trunc_mem _ _ _ _ hd)
    | false => exact fun d h => absurd h List.not_mem_nil
  · have : remT t i = [] := by
      unfold remE at he
      unfold remT
      cases e : decide (thI t i = 0) with
      | false => rfl
      | true =>
        rw [e] at he
        cases e2 : someB (blkT t i.toNat) 0 (lvs t.length) with
        | false => rfl
        | true => rw [e2] at he; exact absurd rfl he
    rw [this]; exact FitT.nil
def lf7 : TN := ⟨1, 7, 0, 0, 0, []⟩
theorem lf7_ok : TnOk lf7 := ⟨⟨by decide, by decide⟩, ⟨by decide, by decide⟩, ⟨by decide, by decide⟩, ⟨by decide, by decide⟩, ⟨by decide, by decide⟩, fun x h => absurd h List.not_mem_nil⟩
theorem live_facts : addE [lf7] lf7 = 0 ∧ addI [lf7] lf7 = 1 ∧ addE (addT [lf7] lf7) lf7 = 0 ∧ addI (addT [lf7] lf7) lf7 = 2 ∧ (addT (addT [lf7] lf7) lf7).length = 7 ∧ remE (addT (addT [lf7] lf7) lf7) 2 = 0 ∧ (remT (addT (addT [lf7] lf7) lf7) 2).length = 3 ∧
    remE (addT (addT [lf7] lf7) lf7) 0 = 0 ∧ addE (remT (addT (addT [lf7] lf7) lf7) 0) lf7 = 0 ∧ addI (remT (addT (addT [lf7] lf7) lf7) 0) lf7 = 0 ∧ memL (addT (addT [lf7] lf7) lf7) = [0, 1, 2] := by decide +kernel
theorem FitT.add {u : List TN} (h : FitT u) : FitT (addT u lf7) := addT_fit h.ok lf7_ok
theorem lit3 (w : World) (a b c : Int) : OwnI w.heap.size (w.alloc (.cells #[.int .i64 a, .int .i64 b, .int .i64 c] 3)) (.slice (some ⟨w.heap.size, 0, none⟩) 3 3) [a, b, c] :=
  Ownv.lit (B := w.heap.size) 3 (w := w) [.int .i64 a, .int .i64 b, .int .i64 c] (Nat.le_refl _) (by unfold maxLen; simp)
/-- The chapter's examples. -/
structure LiveF (t2 t3 u v : List TN) : Prop where
  fit2 : FitT t2
  fit3 : FitT t3
  fitv : FitT v
  t2' : addT [lf7] lf7 = t2
  e2 : addE [lf7] lf7 = 0
  i2 : addI [lf7] lf7 = 1
  t3' : addT t2 lf7 = t3
  e3 : addE t2 lf7 = 0
  i3 : addI t2 lf7 = 2
  l3 : t3.length = 7
  u' : remT t3 2 = u
  eu : remE t3 2 = 0
  lu : u.length = 3
  v' : remT t3 0 = v
  ev : remE t3 0 = 0
  ea : addE v lf7 = 0
  ia : addI v lf7 = 0
  mem : memL t3 = [0, 1, 2]
theorem f1_fit : FitT [lf7] := ⟨by simp, fun d h => by rw [List.mem_singleton.1 h]; exact lf7_ok, fun d h => by rw [List.mem_singleton.1 h]; simp [lf7]⟩
theorem live_f : ∃ t2 t3 u v, LiveF t2 t3 u v := by
  obtain ⟨a1, a2, a3, a4, a5, a6, a7, a8, a9, a10, a11⟩ := live_facts
  exact ⟨_, _, _, _, f1_fit.add, f1_fit.add.add, remT_fit f1_fit.add.add.ok, rfl, a1, a2, rfl, a3, a4, a5, rfl, a6, a7, rfl, a8, a9, a10, a11⟩
set_option maxHeartbeats 8000000 in
set_option maxRecDepth 100000 in
theorem live07_any (w : World) (hT : Tabs w) : Calls Tryd.prog 8 #[] w fun e w' => e = .returned (.bool true) ∧ Kept w w' := by
  obtain ⟨t2, t3, tu, tv, LF⟩ := live_f
  have ka : Kept w (w.alloc (.cells #[.int .i64 1, .int .i64 7, .int .i64 0, .int .i64 0, .int .i64 0, .slice none 0 0] 32)) := (Kept.refl w).alloc _
  have hl : ∀ W, RdTn W (.agg #[.int .i64 1, .int .i64 7, .int .i64 0, .int .i64 0, .int .i64 0, .slice none 0 0]) lf7 := fun W => ⟨_, rfl, RdI.nil W⟩
  have bL : Blk (w.alloc (.cells #[.int .i64 1, .int .i64 7, .int .i64 0, .int .i64 0, .int .i64 0, .slice none 0 0] 32)) w.heap.size 32 [.int .i64 1, .int .i64 7, .int .i64 0, .int .i64 0, .int .i64 0, .slice none 0 0] := Blk.new _ _ _
  have HN : Hid (∀ W, Calls Tryd.prog 21 #[.agg #[.int .i64 1, .int .i64 7, .int .i64 0, .int .i64 0, .int .i64 0, .slice none 0 0]] W (PTree W [lf7] 0)) := Lib.hid (fun W => pnew_any (hl W) (by simp [lf7]))
  have HA := Lib.hid (fun (W : World) (k : Kept w W) (v : Value) (u : List TN) (hv : RdTs W v u) (fu : FitT u) => padd_any hv fu.ok fu.len fu.un (hT.kept k) (hl W) (by simp [lf7]))
  have HR := Lib.hid (fun (W : World) (k : Kept w W) (v : Value) (u : List TN) (hv : RdTs W v u) (fu : FitT u) (i : Int) (hi : I64 i) => premove_any hv fu.ok fu.len fu.un (hT.kept k) i hi)
  have HM := Lib.hid (fun (W : World) (k : Kept w W) (v : Value) (u : List TN) (hv : RdTs W v u) (fu : FitT u) => pMembers_any hv fu.ok fu.len fu.un (hT.kept k))
  have HSI := Lib.hid (fun (W : World) (u v : Value) (a b : List Int) (ha : RdI W u a) (hb : RdI W v b) => sameInts_any ha hb)
  have HL := Lib.hid LF
  clear LF hT
  go_enter Tryd.func8, Tryd.ntmps8
  go_wp2_with fail
  (with_reducible refine (HN.out _).mono ?_); rintro e w1 ⟨v1, rfl, r1, _, q1⟩
  have k1 := ka.trans q1
  have bb := bL.kept q1
  have c0 := bb.cell 0
  have c1 := bb.cell 1
  have c2 := bb.cell 2
  have c3 := bb.cell 3
  have c4 := bb.cell 4
  have c5 := bb.cell 5
  simp only [List.getElem?_cons_zero, List.getElem?_cons_succ] at c0 c1 c2 c3 c4 c5
  obtain ⟨x1, y1, rfl, _, _, _⟩ := r1.len
  have h2 := HA.out _ k1 _ _ r1 f1_fit
  rw [HL.out.e2, HL.out.i2, HL.out.t2', show ([lf7] : List TN).length = 1 from rfl] at h2
  have H2 := Lib.hid h2
  clear h2
  go_wp2_with fail
  (with_reducible refine H2.out.mono ?_); rintro e w2 ⟨v2, rfl, r2, _, q2⟩
  have k2 := k1.trans q2
  have bb := bb.kept q2
  have c0 := bb.cell 0
  have c1 := bb.cell 1
  have c2 := bb.cell 2
  have c3 := bb.cell 3
  have c4 := bb.cell 4
  have c5 := bb.cell 5
  simp only [List.getElem?_cons_zero, List.getElem?_cons_succ] at c0 c1 c2 c3 c4 c5
  obtain ⟨x2, y2, rfl, _, _, _⟩ := r2.len
  have h3 := HA.out _ k2 _ _ r2 HL.out.fit2
  rw [HL.out.e3, HL.out.i3, HL.out.t3'] at h3
  have H3 := Lib.hid h3
  clear h3
  go_wp2_with fail
  (with_reducible refine H3.out.mono ?_); rintro e w3 ⟨v3, rfl, r3, _, q3⟩
  have k3 := k2.trans q3
  have bb := bb.kept q3
  obtain ⟨x3, y3, rfl, _, _, _⟩ := r3.len
  have h4 := HR.out _ k3 _ _ r3 HL.out.fit3 2 ⟨by omega, by omega⟩
  rw [HL.out.eu, HL.out.u'] at h4
  have H4 := Lib.hid h4
  rw [HL.out.l3] at H4 r3 ⊢
  clear h4
  go_wp2_with fail
  (with_reducible refine H4.out.mono ?_); rintro e w4 ⟨v4, rfl, r4, _, q4⟩
  have k4 := k3.trans q4
  have r3 := r3.kept q4
  have bb := bb.kept q4
  obtain ⟨x4, y4, rfl, _, _, _⟩ := r4.len
  have h5 := HR.out _ k4 _ _ r3 HL.out.fit3 0 ⟨by omega, by omega⟩
  rw [HL.out.ev, HL.out.v'] at h5
  have H5 := Lib.hid h5
  rw [HL.out.lu]
  clear h5
  go_wp2_with fail
  (with_reducible refine H5.out.mono ?_); rintro e w5 ⟨v5, rfl, r5, _, q5⟩
  have k5 := k4.trans q5
  have r3 := r3.kept q5
  have bb := bb.kept q5
  have c0 := bb.cell 0
  have c1 := bb.cell 1
  have c2 := bb.cell 2
  have c3 := bb.cell 3
  have c4 := bb.cell 4
  have c5 := bb.cell 5
  simp only [List.getElem?_cons_zero, List.getElem?_cons_succ] at c0 c1 c2 c3 c4 c5
  obtain ⟨x5, y5, rfl, _, _, _⟩ := r5.len
  have h6 := HA.out _ k5 _ _ r5 HL.out.fitv
  rw [HL.out.ea, HL.out.ia] at h6
  have H6 := Lib.hid h6
  clear h6
  go_wp2_with fail
  (with_reducible refine H6.out.mono ?_); rintro e w6 ⟨v6, rfl, r6, _, q6⟩
  have k6 := k5.trans q6
  have r3 := r3.kept q6
  have h7 := HM.out _ k6 _ _ r3 HL.out.fit3
  rw [HL.out.mem] at h7
  have H7 := Lib.hid h7
  clear h7
  go_wp2_with fail
  (with_reducible refine H7.out.mono ?_); rintro e w7 ⟨v7, rfl, o7, q7⟩
  have k7 := k6.trans q7
  have H8 := Lib.hid (HSI.out _ _ _ _ _ ((OwnI.rd o7).kept ((Kept.refl _).alloc (.cells #[.int .i64 0, .int .i64 1, .int .i64 2] 3))) (OwnI.rd (lit3 w7 0 1 2)))
  go_wp2_with fail
  (with_reducible refine H8.out.mono ?_); rintro e w8 ⟨rfl, q8⟩
  go_wp2
  go_ret
  exact ⟨rfl, (k7.alloc _).trans q8⟩
end Go.Proofs.YtlmpejfkpidbeaaDoor
end

section
/- The statements' helpers of layer 7: spoil. -/
set_option linter.unusedSimpArgs false
set_option linter.unusedVariables false
namespace Go.Proofs.YtlmpejfkpidbeaaDoor
open Go.RowKit
open Rt

set_option maxHeartbeats 4000000 in
set_option maxRecDepth 100000 in
theorem spoil_any {B n : Nat} {w : World} {v : Value} {xs : List Value} (h : Ownv B 32 6 w v n xs) (hn : n ≤ 1000000) :
    Calls Tryd.prog 20 #[v] w fun e w' => e = .returned (.tuple #[]) ∧ Turn (Blks v) w w' := by
  by_cases h0 : n = 0
  · obtain ⟨a, c, rfl, _, _, _, _, _⟩ := Ownv.rdv h
    subst h0
    go_enter Tryd.func20, Tryd.ntmps20
    go_wp2
    go_loop [5] (fun c => c = .int .i64 0) (fun _ => 0)
    case atStart => rfl
    case round =>
      subst hrel
      go_wp2
      go_end0
      exact ⟨rfl, Turn.refl _ _⟩
  · obtain ⟨g, cap, rfl, _, _, _, _⟩ := h.addr0 (by have := h.1; omega)
    have n63 : (n : Int) ≤ 1000000 := by omega
    have hxl := h.1
    have HX := Shut.mk hxl
    clear hxl h0
    go_enter Tryd.func20, Tryd.ntmps20
    go_wp2
    go_loopw [5] (fun c wr => ∃ k : Nat, k ≤ n ∧ c = .int .i64 k ∧ (∃ ys, Ownv B 32 6 wr (.slice (some ⟨g, 0, none⟩) n cap) n ys) ∧ Turn (fun b => b = g) w wr) (fun c _ => n - (intOf c).toNat)
    case atStart => exact ⟨0, Nat.zero_le _, rfl, ⟨xs, h⟩, Turn.refl _ _⟩
    case round =>
      obtain ⟨k, hk, rfl, ⟨ys, hy⟩, ht⟩ := hrel
      by_cases hlt : k < n
      · have hyl := hy.1
        obtain ⟨z0, c0⟩ : ∃ z, wr.cell? ⟨g, k * 6, none⟩ = some z := ⟨_, hy.cell0 (k * 6) (List.getElem?_eq_getElem (show k * 6 < ys.length by omega))⟩
        obtain ⟨z1, c1⟩ : ∃ z, wr.cell? ⟨g, k * 6 + 1, none⟩ = some z := ⟨_, hy.cell0 (k * 6 + 1) (List.getElem?_eq_getElem (show k * 6 + 1 < ys.length by omega))⟩
        have f0 := hy.free (k * 6)
        have f1 := hy.free (k * 6 + 1)
        have k0 : (0 : Int) ≤ (k : Int) := by omega
        have k1 : (k : Int) < (n : Int) := by omega
        have hp := (hy.put (i := k * 6 + 1) (by omega) (.int .i64 99)).put (i := k * 6) (by omega) (.int .i64 2)
        have HP := Lib.hid hp
        clear hp hyl
        go_wp2
        go_roundw
        case rel => exact ⟨k + 1, hlt, by go_num, ⟨_, HP.out⟩, Turn.trans (Turn.trans ht (turn_setCell _ _ _) (fun b e => .inl e)) (turn_setCell _ _ _) (fun b e => .inl e)⟩
        case measure => simp [intOf]; omega
      · have k1 : ¬ (k : Int) < (n : Int) := by omega
        go_wp2
        go_end0
        exact ⟨rfl, ht.mono fun b e => by rw [e]; rfl⟩
end Go.Proofs.YtlmpejfkpidbeaaDoor
end

section
/- The statements' helpers of layer 7: few. -/
set_option linter.unusedSimpArgs false
set_option linter.unusedVariables false
namespace Go.Proofs.YtlmpejfkpidbeaaDoor
open Go.RowKit
open Rt

def FewT (t : List TN) : Prop := t.length ≤ 140 ∧ ∀ i, i < t.length → (nd t i).un.length ≤ 70
def FewPost (w : World) (n : Nat) (tts : List (List TN)) (e : Ending) (w' : World) : Prop := (∃ r : Bool, e = .returned (.bool r) ∧ (r = true ↔ ∀ i, i < n → FewT (tts.getD i []))) ∧ Kept w w'
set_option maxHeartbeats 4000000 in
set_option maxRecDepth 100000 in
theorem few07_any {b : Nat} {w : World} {vs : List Value} {tts : List (List TN)} (hb : Blk w b 22 vs) (hn : vs.length ≤ 5) (h : ∀ i, i < vs.length → RdTs w (vs.getD i undef) (tts.getD i [])) :
    Calls Tryd.prog 9 #[.slice (some ⟨b, 0, none⟩) vs.length vs.length] w (FewPost w vs.length tts) := by
  have n63 : (vs.length : Int) ≤ 5 := by omega
  have HH := Lib.hid h
  clear h
  go_enter Tryd.func9, Tryd.ntmps9
  go_wp2
  go_loopw [9] (fun c wr => ∃ k : Nat, k ≤ vs.length ∧ c = .int .i64 k ∧ (∀ i, i < k → FewT (tts.getD i [])) ∧ Kept w wr) (fun c _ => vs.length - (intOf c).toNat)
  case atStart => exact ⟨0, Nat.zero_le _, rfl, fun i hi => absurd hi (Nat.not_lt_zero _), Kept.refl _⟩
  case round =>
    obtain ⟨k, hk, rfl, hall, hkw⟩ := hrel
    have HAll := Shut.mk hall
    clear hall
    by_cases hlt : k < vs.length
    · have ht := (HH.out k hlt).kept hkw
      have c0 := (hb.kept hkw).cell k
      rw [List.getElem?_eq_getElem hlt] at c0
      have hv : vs.getD k undef = vs[k] := by rw [List.getD_eq_getElem?_getD, List.getElem?_eq_getElem hlt]; rfl
      rw [hv] at ht
      generalize vs[k] = tv at ht c0
      have HT := Shut.mk (rfl : tts.getD k [] = tts.getD k [])
      generalize hg : tts.getD k [] = t at ht
      have HG := Shut.mk hg
      obtain ⟨ta, tc, rfl, t1, t2, t3⟩ := ht.len
      have t63 : ((t.length : Nat) : Int) ≤ 9223372036854775807 := by unfold maxLen at t2; omega
      have k0 : (0 : Int) ≤ (k : Int) := by omega
      have k1 : (k : Int) < (vs.length : Int) := by omega
      clear hg hv
      by_cases h140 : t.length ≤ 140
      · have hd : decide ((140 : Int) < (t.length : Int)) = false := decide_eq_false (by omega)
        have hd2 : ¬ (140 : Int) < (t.length : Int) := by omega
        go_wp2
        go_loopw [18] (fun c w2 => ∃ j : Nat, j ≤ t.length ∧ c = .int .i64 j ∧ (∀ i, i < j → (nd t i).un.length ≤ 70) ∧ Kept wr w2) (fun c _ => t.length - (intOf c).toNat)
        case atStart => exact ⟨0, Nat.zero_le _, rfl, fun i hi => absurd hi (Nat.not_lt_zero _), Kept.refl _⟩
        case round =>
          obtain ⟨j, hj, rfl, hal2, hk2⟩ := hrel
          have HA2 := Shut.mk hal2
          clear hal2
          rename_i w2 _
          by_cases hjl : j < t.length
          · obtain ⟨zb, zo, zc, za, zcc, hzv, hzat, hzun⟩ := ht.at (k := j) hjl
            simp only [Value.slice.injEq] at hzv
            obtain ⟨rfl, -, rfl⟩ := hzv
            obtain ⟨g0, g1, g2, g3, g4, g5⟩ := hzat _ hk2
            have j0 : (0 : Int) ≤ (j : Int) := by omega
            have j1 : (j : Int) < (t.length : Int) := by omega
            obtain ⟨la, lc, hlv, u1, u2, u3⟩ := hzun.len
            have u63 : ((nd t j).un.length : Int) ≤ 9223372036854775807 := by unfold maxLen at u2; omega
            by_cases h70 : (nd t j).un.length ≤ 70
            · have hd3 : ¬ (70 : Int) < ((nd t j).un.length : Int) := by omega
              have H70 := Shut.mk h70
              clear hzat h70
              go_wp2
              go_roundw
              case rel => exact ⟨j + 1, hjl, by go_num, fun i hi => by
                by_cases c : i = j
                · rw [c]; exact H70.out
                · exact HA2.out i (by omega), hk2.alloc _⟩
              case measure => simp [intOf]; omega
            · have hd3 : (70 : Int) < ((nd t j).un.length : Int) := by omega
              have H70 := Shut.mk h70
              clear hzat h70
              go_wp2
              go_ret
              exact ⟨⟨false, rfl, by
                constructor
                · intro h; cases h
                · intro h
                  have := h k hlt
                  rw [HG.out] at this
                  exact absurd (this.2 j hjl) H70.out⟩, (hkw.trans hk2).alloc _⟩
          · have hjn : ¬ (j : Int) < (t.length : Int) := by omega
            have hje : j = t.length := by omega
            have HJe := Shut.mk hje
            clear hje
            go_wp2
            go_roundw
            case rel => exact ⟨k + 1, hlt, by go_num, fun i hi => by
              by_cases c : i = k
              · rw [c, HG.out]; exact ⟨h140, fun q hq => HA2.out q (by rw [HJe.out]; exact hq)⟩
              · exact HAll.out i (by omega), hkw.trans hk2⟩
            case measure => simp [intOf]; omega
      · have hd : decide ((140 : Int) < (t.length : Int)) = true := decide_eq_true (by omega)
        have hd2 : (140 : Int) < (t.length : Int) := by omega
        go_wp2
        go_ret
        exact ⟨⟨false, rfl, by
          constructor
          · intro h; cases h
          · intro h
            have := h k hlt
            rw [HG.out] at this
            exact absurd this.1 h140⟩, hkw⟩
    · have hkn : ¬ (k : Int) < (vs.length : Int) := by omega
      have hke : k = vs.length := by omega
      have HKe := Shut.mk hke
      clear hke
      go_wp2
      go_ret
      exact ⟨⟨true, rfl, fun _ i hi => HAll.out i (by rw [HKe.out]; exact hi), fun _ => rfl⟩, hkw⟩
end Go.Proofs.YtlmpejfkpidbeaaDoor
end

section
/- The walk of the statement RatchetChecks. -/
set_option linter.unusedSimpArgs false
set_option linter.unusedVariables false
namespace Go.Proofs.YtlmpejfkpidbeaaDoor
open Go.RowKit
open Rt

theorem few_fit {t : List TN} (h : FewT t) (hok : ∀ d ∈ t, TnOk d) : FitT t := ⟨by have := h.1; omega, hok, fun d hd => by
  obtain ⟨x, hx, hg⟩ := List.getElem_of_mem hd
  have := h.2 x hx
  rw [nd_get hx, hg] at this
  omega⟩
def FewsPost (w : World) (p : Prop) (e : Ending) (w' : World) : Prop := ∃ r : Bool, e = .returned (.bool r) ∧ (r = true → p) ∧ Kept w w'
theorem few2_any {W : World} {tv uv : Value} {t u : List TN} (ht : RdTs W tv t) (hu : RdTs W uv u) :
    Calls Tryd.prog 9 #[.slice (some ⟨W.heap.size, 0, none⟩) 2 2] (W.alloc (.cells #[tv, uv] 22)) (FewsPost (W.alloc (.cells #[tv, uv] 22)) (FewT t ∧ FewT u)) := by
  have hk := (Kept.refl W).alloc (.cells #[tv, uv] 22)
  refine (few07_any (vs := [tv, uv]) (tts := [t, u]) (Blk.new W [tv, uv] 22) (by simp) (fun i hi => ?_)).mono fun e w' ⟨⟨r, he, hr⟩, q⟩ => ⟨r, he, fun h => ⟨(hr.1 h) 0 (by simp), (hr.1 h) 1 (by simp)⟩, q⟩
  match i, hi with
  | 0, _ => exact ht.kept hk
  | 1, _ => exact hu.kept hk
theorem few1_any {W : World} {tv : Value} {t : List TN} (ht : RdTs W tv t) :
    Calls Tryd.prog 9 #[.slice (some ⟨W.heap.size, 0, none⟩) 1 1] (W.alloc (.cells #[tv] 22)) (FewsPost (W.alloc (.cells #[tv] 22)) (FewT t)) := by
  have hk := (Kept.refl W).alloc (.cells #[tv] 22)
  refine (few07_any (vs := [tv]) (tts := [t]) (Blk.new W [tv] 22) (by simp) (fun i hi => ?_)).mono fun e w' ⟨⟨r, he, hr⟩, q⟩ => ⟨r, he, fun h => (hr.1 h) 0 (by simp), q⟩
  match i, hi with
  | 0, _ => exact ht.kept hk
set_option maxHeartbeats 4000000 in
theorem checks_any {tv uv : Value} {t u : List TN} {w : World} (ht : RdTs w tv t) (hok : ∀ d ∈ t, TnOk d) (hu : RdTs w uv u) (hoku : ∀ d ∈ u, TnOk d) (hT : Tabs w) :
    Calls Tryd.prog 3 #[tv, uv] w fun e w' => e = .returned (.bool true) ∧ Kept w w' := by
  have HL := Lib.hid (live07_any w hT)
  have HFw := Lib.hid (fun W (k : Kept w W) => few2_any (ht.kept k) (hu.kept k))
  have HC := Lib.hid (fun (h : FewT t) W (k : Kept w W) => pcheck_any (ht.kept k) hok (few_fit h hok).len (few_fit h hok).un (hT.kept k))
  have HR := Lib.hid (fun W (k : Kept w W) => rcheck_any (ht.kept k) hok)
  have HS := Lib.hid (fun W (k : Kept w W) => pSame_any (ht.kept k) (hu.kept k))
  have HRS := Lib.hid (fun W (k : Kept w W) => rsameT_any (ht.kept k) (hu.kept k))
  have HM := Lib.hid (fun (h : FewT t) W (k : Kept w W) => pMembers_any (ht.kept k) hok (few_fit h hok).len (few_fit h hok).un (hT.kept k))
  have HRM := Lib.hid (fun W (k : Kept w W) => rmembers_any (ht.kept k) hok)
  have HSI := Lib.hid (fun (W : World) (u v : Value) (a : List Int) (ha : RdI W u a) (hb : RdI W v a) => sameInts_any ha hb)
  obtain ⟨ta, tc, htv, _, _, _⟩ := ht.len
  subst htv
  obtain ⟨ua, uc, huv, _, _, _⟩ := hu.len
  subst huv
  unfold MemPost at HM HRM
  generalize errI (chkB t) = ce at HC HR
  generalize sameTB t u = sb at HS HRS
  generalize memL t = ml at HM HRM
  clear ht hu hok hoku hT
  go_enter Tryd.func3, Tryd.ntmps3
  go_wp2_with fail
  (with_reducible refine HL.out.mono ?_); rintro e w1 ⟨rfl, k1⟩
  go_wp2_with fail
  (with_reducible refine (HFw.out _ k1).mono ?_); rintro e w2 ⟨r, rfl, hr, q2⟩
  have k2 := (k1.alloc (.cells #[.slice ta t.length tc, .slice ua u.length uc] 22)).trans q2
  cases r with
  | false =>
    clear hr
    go_wp2
    go_ret
    exact ⟨rfl, k2⟩
  | true =>
    have hfw := (hr rfl).1
    have HC2 := Lib.hid (HC.out hfw)
    have HM2 := Lib.hid (HM.out hfw)
    clear hr hfw HC HM
    go_wp2_with fail
    (with_reducible refine (HC2.out _ k2).mono ?_); rintro e w3 ⟨rfl, q3⟩
    have k3 := k2.trans q3
    go_wp2_with fail
    (with_reducible refine (HR.out _ k3).mono ?_); rintro e w4 ⟨rfl, q4⟩
    have k4 := k3.trans q4
    go_wp2_with fail
    (with_reducible refine (HS.out _ k4).mono ?_); rintro e w5 ⟨rfl, q5⟩
    have k5 := k4.trans q5
    go_wp2_with fail
    (with_reducible refine (HRS.out _ k5).mono ?_); rintro e w6 ⟨rfl, q6⟩
    have k6 := k5.trans q6
    go_wp2_with fail
    (with_reducible refine (HM2.out _ k6).mono ?_); rintro e w7 ⟨v7, rfl, o7, q7⟩
    have k7 := k6.trans q7
    go_wp2_with fail
    (with_reducible refine (HRM.out _ k7).mono ?_); rintro e w8 ⟨v8, rfl, o8, q8⟩
    have k8 := k7.trans q8
    have H9 := Lib.hid (HSI.out _ _ _ _ ((OwnI.rd o7).kept q8) (OwnI.rd o8))
    go_wp2_with fail
    (with_reducible refine H9.out.mono ?_); rintro e w9 ⟨rfl, q9⟩
    go_wp2
    go_ret
    exact ⟨by simp, k8.trans q9⟩
end Go.Proofs.YtlmpejfkpidbeaaDoor
end
