/- Texts of one proof, put together: RtQ, RtT, RtU, Rp0, RpA, MthDs, RpB. -/
import Derived.Test.YtlmpejfkpidbeaaDoorMg04
import Derived.Test.YtlmpejfkpidbeaaDoorMg03
import Derived.Test.YtlmpejfkpidbeaaDoorMg02
import Derived.Test.YtlmpejfkpidbeaaDoorShelf
section
/- Walks of the document's answer: Add (written by gen_add.py). -/
set_option linter.unusedSimpArgs false
set_option linter.unusedVariables false
namespace Go.Proofs.YtlmpejfkpidbeaaDoor
open Go.RowKit
open Rt

theorem path_fresh {n i j : Nat} (hn : n ∈ Mth.fulls) (hi : i < n) (hj : j < (Mth.path (2 * i) n).length) :
    (Mth.path (2 * i) n).getD j 0 ∉ (Mth.path (2 * i) n).take j ∧ (Mth.path (2 * i) n).getD j 0 ≠ 2 * i ∧ (Mth.path (2 * i) n).getD j 0 < 2 * n - 1 := by
  have hb := fulls_bd hn
  have hi2 : 2 * i < 2 * n - 1 := by omega
  have hp := Mth.path_of hn hi2
  have hl0 : Mth.lvl (2 * i) = 0 := (Mth.top_at hn hi2).leaf (by omega) |>.1
  have hpl : (Mth.path (2 * i) n).length = _ := hp.len
  have hlv : ∀ c, c < (Mth.path (2 * i) n).length → Mth.lvl ((Mth.path (2 * i) n).getD c 0) = c + 1 ∧ (Mth.path (2 * i) n).getD c 0 < 2 * n - 1 := fun c hc => by
    have h1 : (Mth.path (2 * i) n).getD c 0 = Mth.itr (c + 1) (2 * i) := (hp.at' c (by omega)).1
    have h5 := (hp.at' c (by omega)).2.2
    have st := Mth.step_at hn h5.1 h5.2.1
    rw [h1, Mth.itr_succ]
    exact ⟨by rw [st.up]; omega, st.inP⟩
  have h0 := hlv j hj
  refine ⟨fun hm => ?_, fun e => ?_, h0.2⟩
  · obtain ⟨c, hc, hg⟩ := List.getElem_of_mem hm
    rw [List.length_take] at hc
    have h1 := (hlv c (by omega)).1
    rw [List.getElem_take] at hg
    rw [List.getD_eq_getElem?_getD, List.getElem?_eq_getElem (by omega)] at h1
    have h1 : Mth.lvl (Mth.path (2 * i) n)[c] = c + 1 := h1
    rw [hg, h0.1] at h1
    omega
  · have h1 := h0.1
    rw [e, hl0] at h1
    omega
/-- The first leaf that is not there; n: all are. -/
def fr (t : List TN) (n : Nat) : Nat := ((List.range n).find? fun i => !lk t i).getD n
theorem fr_of {t : List TN} {n k : Nat} (hk : k ≤ n) (hall : ∀ j, j < k → lk t j = true) (h : k = n ∨ lk t k = false) : fr t n = k := by
  unfold fr
  by_cases e : k = n
  · subst e
    rw [List.find?_eq_none.2 (fun x hx => by rw [hall x (List.mem_range.1 hx)]; decide)]
    rfl
  · have hl : lk t k = false := h.resolve_left e
    rw [List.find?_range_eq_some.2 ⟨by rw [hl]; rfl, List.mem_range.2 (by omega), fun j hj => by rw [hall j hj]; rfl⟩]
    rfl
/-- What Add answers. -/
def addE (t : List TN) (l : TN) : Int := bif chkB t && leafB l then (bif Nat.beq (fr t (lvs t.length)) (lvs t.length) && Nat.beq (lvs t.length) 256 then 2 else 0) else 1
def addI (t : List TN) (l : TN) : Int := bif decide (addE t l = 0) then ((fr t (lvs t.length) : Nat) : Int) else 0
def addT (t : List TN) (l : TN) : List TN :=
  bif decide (addE t l = 0) then (bif Nat.beq (fr t (lvs t.length)) (lvs t.length) then tab (t.length + 2 * lvs t.length) (addG (t ++ List.replicate (2 * lvs t.length) tn0) (lvs t.length) l) else tab t.length (addG t (fr t (lvs t.length)) l)) else []
def AddPost (w : World) (ts : List TN) (i er : Int) (e : Ending) (w' : World) : Prop := ∃ v, e = .returned (.tuple #[v, .int .i64 i, .int .i64 er]) ∧ RdTs w' v ts ∧ (∀ b, Blks v b → w.heap.size ≤ b) ∧ Kept w w'
theorem may_ris {t : List TN} {n : Nat} (m : MayN t n) : ∀ x, x < t.length → (nd t x).kd = 2 → (nd t x).un.Pairwise (· < ·) := fun x hx h2 => by
  have hx' : x < 2 * n - 1 := by rw [← m.len]; exact hx
  by_cases ho : x % 2 = 0
  · have := (m.leaf x hx' (by omega) ho).1
    omega
  · exact (m.par x hx' (by omega) (by omega)).2.2.2.1
theorem may_un2 {t : List TN} {n : Nat} (m : MayN t n) : ∀ x, x < t.length → (nd t x).un.length ≤ 1000 := fun x hx => by
  have := may_un m (nd t x) (by rw [nd_get hx]; exact List.getElem_mem hx)
  exact this
theorem fulls_dbl {n : Nat} (h : n ∈ Mth.fulls) (h2 : n ≠ 256) : 2 * n ∈ Mth.fulls ∧ n ≤ 128 := by
  have : ∀ m ∈ Mth.fulls, m ≠ 256 → 2 * m ∈ Mth.fulls ∧ m ≤ 128 := by decide +kernel
  exact this n h h2
theorem ones_zero6 (m : Nat) : ∀ u ∈ (Builtin.zeroCells (Value.agg zero6).cells m).toList, u.oneCell' = true := by
  intro u hu
  obtain ⟨i, hi, rfl⟩ := List.getElem_of_mem hu
  have h : (Builtin.zeroCells zero6 m).toList[i]? = some (zero6[i % 6]!) := by
    rw [Array.getElem?_toList]
    unfold Builtin.zeroCells
    have hi' : i < m * 6 := by
      have : i < (Builtin.zeroCells zero6 m).toList.length := hi
      rw [Array.length_toList, size_zeroCells] at this
      exact this
    rw [Array.getElem?_map, Array.getElem?_range, if_pos (by simpa [zero6] using hi')]
    rfl
  have h2 : (Builtin.zeroCells (Value.agg zero6).cells m).toList[i] = zero6[i % 6]! := Option.some.inj ((List.getElem?_eq_getElem hi).symm.trans h)
  rw [h2]
  have : i % 6 = 0 ∨ i % 6 = 1 ∨ i % 6 = 2 ∨ i % 6 = 3 ∨ i % 6 = 4 ∨ i % 6 = 5 := by omega
  rcases this with e | e | e | e | e | e <;> rw [e] <;> rfl
theorem go_appz {w : World} {ops : Array Oper} {rest : List Oper} {a : Act} {Q : Exit → Act → World → Prop} {d : Option Tmp} {ty : TypeId} {ps : String} {af : Array Edge} {s x : Operand}
    (B : Nat) (v : Value) (ds : List TN) (lvs : List Value) (hs : a.eval s = v) (ho : OwnT B w v ds lvs) (h0 : 0 < ds.length) (m : Nat) (hm0 : 0 < m) (hx : a.eval x = .int .i64 m) (hl : ds.length + m ≤ 1000000) (hB : B ≤ w.heap.size)
    (hK : ∀ v' w', OwnT B w' v' (ds ++ List.replicate m tn0) (lvs ++ List.replicate m (.slice none 0 0)) → Turn (Blks v) w w' → wpList Tryd.prog ops Q rest (a.put d v') w') :
    wpList Tryd.prog ops Q (⟨d, .call { callee := .builtin .append, args := #[s, x], argTypes := #[22, 3] }, ty, ps, af, none⟩ :: rest) a w := by
  obtain ⟨i0, hi, hz0, hz1, hz2⟩ := info_parts Tryd.infoTN
  refine go_app_make B 32 6 64 .i64 i0 (.agg zero6) Tryd.underlying22 Tryd.underlying3 hi hz0 hz1 hz2 rfl (by decide) ones_zero6 v ds.length (tflat ds lvs) hs ho.row h0 m hm0 hx (by unfold maxLen; omega) (by omega) hB ?_
  intro v' w' ho' ht _
  exact hK v' w' (ho.zeros m ho' ht) ht
set_option maxHeartbeats 16000000 in
set_option maxRecDepth 100000 in
theorem radd_any {w : World} {tv lv : Value} {t : List TN} {l : TN} (ht : RdTs w tv t) (hok : ∀ d ∈ t, TnOk d) (hl : RdTn w lv l) :
    Calls Tryd.prog 19 #[tv, lv] w (AddPost w (addT t l) (addI t l) (addE t l)) := by
  obtain ⟨yv, rfl, hrl⟩ := hl
  obtain ⟨ua, uc, rfl, _, _, _⟩ := hrl.len
  have ka : Kept w (w.alloc (.cells #[.int .i64 l.kd, .int .i64 l.id, .int .i64 l.enc, .int .i64 l.sig, .int .i64 l.hash, .slice ua l.un.length uc] 32)) := (Kept.refl w).alloc _
  have HC := Lib.hid (fun W (k : Kept w W) => rcheck_any (ht.kept k) hok)
  have HLf := Lib.hid (fun W (k : Kept w W) => rleaf_any (w := W) (d := l) ⟨_, rfl, hrl.kept k⟩)
  have bX0 : Blk (w.alloc (.cells #[.int .i64 l.kd, .int .i64 l.id, .int .i64 l.enc, .int .i64 l.sig, .int .i64 l.hash, .slice ua l.un.length uc] 32)) w.heap.size 32 [.int .i64 l.kd, .int .i64 l.id, .int .i64 l.enc, .int .i64 l.sig, .int .i64 l.hash, .slice ua l.un.length uc] := Blk.new _ _ _
  have HE := Shut.mk (show addE t l = bif chkB t && leafB l then (bif Nat.beq (fr t (lvs t.length)) (lvs t.length) && Nat.beq (lvs t.length) 256 then 2 else 0) else 1 from rfl)
  have HI := Shut.mk (show addI t l = bif decide (addE t l = 0) then ((fr t (lvs t.length) : Nat) : Int) else 0 from rfl)
  have HTT := Shut.mk (show addT t l = bif decide (addE t l = 0) then (bif Nat.beq (fr t (lvs t.length)) (lvs t.length) then tab (t.length + 2 * lvs t.length) (addG (t ++ List.replicate (2 * lvs t.length) tn0) (lvs t.length) l) else tab t.length (addG t (fr t (lvs t.length)) l)) else [] from rfl)
  obtain ⟨ta, tc, rfl, t1, t2, t3⟩ := ht.len
  cases hc : chkB t with
  | false =>
    rw [hc] at HC HE
    have HAE := Shut.mk (show addE t l = 1 from HE.out)
    have HAI := Shut.mk (show addI t l = 0 by rw [HI.out, HAE.out]; rfl)
    have HAT := Shut.mk (show addT t l = [] by rw [HTT.out, HAE.out]; rfl)
    have HC2 : Hid (∀ W, Kept w W → Calls Tryd.prog 11 #[.slice ta t.length tc] W fun e w' => e = .returned (.int .i64 1) ∧ Kept W w') := HC
    clear hc HC
    go_enter Tryd.func19, Tryd.ntmps19
    go_wp2_with fail
    (with_reducible refine (HC2.out _ ka).mono ?_); rintro e w1 ⟨rfl, k1⟩
    go_wp2
    go_ret3
    exact ⟨_, by rw [HAI.out, HAE.out]; rfl, by rw [HAT.out]; exact RdTs.nil _, (fun b (hb : Blks (.slice none 0 0) b) => by cases hb), ka.trans k1⟩
  | true =>
  rw [hc] at HC HE
  have HC2 : Hid (∀ W, Kept w W → Calls Tryd.prog 11 #[.slice ta t.length tc] W fun e w' => e = .returned (.int .i64 0) ∧ Kept W w') := HC
  clear HC
  cases hlf : leafB l with
  | false =>
    rw [hlf] at HLf HE
    have HAE := Shut.mk (show addE t l = 1 from HE.out)
    have HAI := Shut.mk (show addI t l = 0 by rw [HI.out, HAE.out]; rfl)
    have HAT := Shut.mk (show addT t l = [] by rw [HTT.out, HAE.out]; rfl)
    clear hc hlf
    go_enter Tryd.func19, Tryd.ntmps19
    go_wp2_with fail
    (with_reducible refine (HC2.out _ ka).mono ?_); rintro e w1 ⟨rfl, k1⟩
    have b4 := bX0.kept k1
    have c0 := b4.cell 0
    have c1 := b4.cell 1
    have c2 := b4.cell 2
    have c3 := b4.cell 3
    have c4 := b4.cell 4
    have c5 := b4.cell 5
    simp only [List.getElem?_cons_zero, List.getElem?_cons_succ] at c0 c1 c2 c3 c4 c5
    have k1' := ka.trans k1
    go_wp2_with fail
    (with_reducible refine (HLf.out _ k1').mono ?_); rintro e w2 ⟨rfl, k2⟩
    go_wp2
    go_ret3
    exact ⟨_, by rw [HAI.out, HAE.out]; rfl, by rw [HAT.out]; exact RdTs.nil _, (fun b (hb : Blks (.slice none 0 0) b) => by cases hb), k1'.trans k2⟩
  | true =>
  rw [hlf] at HLf HE
  have HLun := Shut.mk (leafB_iff.1 hlf).2
  have hm := (chkB_may.1 hc).mn
  have HLv := Lib.hid (fun W (k : Kept w W) => rleaves_any (ht.kept k))
  generalize lvs t.length = n at HLv HE HI HTT hm
  have hnb := fulls_bd hm.hn
  have hlen := hm.len
  have HCp := Lib.hid (fun W (k : Kept w W) => rcopy_any (ht.kept k) (by omega) (may_un hm))
  have HN := Shut.mk hm.hn
  have HLen := Shut.mk hlen
  have HM := Lib.hid hm
  have n0 : (1 : Int) ≤ (n : Int) := by omega
  have n1 : (n : Int) ≤ 256 := by omega
  have t63 : (t.length : Int) ≤ 511 := by omega
  have tl0 : 0 < t.length := by omega
  clear hc hlf hm hlen
  go_enter Tryd.func19, Tryd.ntmps19
  go_wp2_with fail
  (with_reducible refine (HC2.out _ ka).mono ?_); rintro e w1 ⟨rfl, k1⟩
  have b4 := bX0.kept k1
  have c0 := b4.cell 0
  have c1 := b4.cell 1
  have c2 := b4.cell 2
  have c3 := b4.cell 3
  have c4 := b4.cell 4
  have c5 := b4.cell 5
  simp only [List.getElem?_cons_zero, List.getElem?_cons_succ] at c0 c1 c2 c3 c4 c5
  have k1' := ka.trans k1
  go_wp2_with fail
  (with_reducible refine (HLf.out _ k1').mono ?_); rintro e w2 ⟨rfl, q2⟩
  have k2 := k1'.trans q2
  clear c0 c1 c2 c3 c4 c5
  go_wp2_with fail
  (with_reducible refine (HLv.out _ k2).mono ?_); rintro e w3 ⟨rfl, rfl⟩
  have k3 := k2
  go_wp2_with fail
  (with_reducible refine (HCp.out _ k3).mono ?_); rintro e w4 ⟨v, lvs, rfl, ho, q4⟩
  have bX := b4.kept (q2.trans q4)
  have k4 := k3.trans q4
  obtain ⟨g, cap, rfl, hg1, hg2, _, _⟩ := ho.row.addr0 (by rw [tflat_length]; omega)
  have HO := Lib.hid ho
  have BX := Lib.hid bX
  have BX0 : w.heap.size < w2.heap.size := by
    have h1 := (bX0.kept (k1.trans q2)).lt
    exact h1
  clear ho b4 bX
  go_wp2
  go_loop [9] (fun c => ∃ k : Nat, k ≤ n ∧ c = .int .i64 k ∧ (∀ j, j < k → lk t j = true)) (fun c => n - (intOf c).toNat)
  case atStart => exact ⟨0, Nat.zero_le _, rfl, fun j hj => absurd hj (Nat.not_lt_zero _)⟩
  case round =>
    obtain ⟨k, hk, rfl, hall⟩ := hrel
    have HAll := Shut.mk hall
    have kk0 : (0 : Int) ≤ (k : Int) := by omega
    by_cases hlt : k < n
    · obtain ⟨zb, zo, zc, za, zcc, hzv, hzat, hzun⟩ := ht.at (k := 2 * k) (by have := HLen.out; omega)
      simp only [Value.slice.injEq] at hzv
      obtain ⟨rfl, -, rfl⟩ := hzv
      have hz0 := (hzat _ k4).1
      have HLk := Shut.mk (lk_nd t k)
      have kk1 : (k : Int) < (n : Int) := by omega
      have kk2 : 2 * (k : Int) < (t.length : Int) := by have := HLen.out; omega
      generalize (nd t (2 * k)).kd = kd at hz0 HLk
      clear hzat hall
      cases hkd : (kd == 1) with
      | true =>
        have HL1 := Shut.mk (show lk t k = true by rw [HLk.out, hkd])
        go_wp2
        go_round
        case rel => exact ⟨k + 1, hlt, rfl, fun j hj => by
          by_cases c : j = k
          · rw [c]; exact HL1.out
          · exact HAll.out j (by omega)⟩
        case measure => simp [intOf]; omega
      | false =>
        have hne9 : ((k : Int) == (n : Int)) = false := by rw [beq_eq_false_iff_ne]; omega
        have hfr : fr t n = k := fr_of hk HAll.out (.inr (by rw [HLk.out, hkd]))
        have hbq : Nat.beq k n = false := by
          cases h : Nat.beq k n with
          | false => rfl
          | true => exact absurd (Nat.eq_of_beq_eq_true h) (by omega)
        have HAE := Shut.mk (show addE t l = 0 by rw [HE.out, hfr, hbq]; rfl)
        have HAI := Shut.mk (show addI t l = (k : Int) by rw [HI.out, HAE.out, hfr]; rfl)
        have HAT := Shut.mk (show addT t l = tab t.length (addG t k l) by rw [HTT.out, HAE.out, hfr, hbq]; rfl)
        obtain ⟨m, hmn⟩ : ∃ m, m = n := ⟨n, rfl⟩
        obtain ⟨ds, hds⟩ : ∃ ds, ds = t := ⟨t, rfl⟩
        have HMf := Shut.mk (show m ∈ Mth.fulls by rw [hmn]; exact HN.out)
        have HDs := Shut.mk (show ds.length = 2 * m - 1 by rw [hds, hmn]; exact HLen.out)
        have HDl := Shut.mk (show ds.length = t.length by rw [hds])
        have HK := Shut.mk (show k < m by omega)
        have HUn := Shut.mk (show ∀ x, x < ds.length → (nd ds x).un.length ≤ 1000 by rw [hds]; exact may_un2 HM.out)
        have HRi := Shut.mk (show ∀ x, x < ds.length → (nd ds x).kd = 2 → (nd ds x).un.Pairwise (· < ·) by rw [hds]; exact may_ris HM.out)
        have hT : OwnT w2.heap.size w4 (.slice (some ⟨g, 0, none⟩) ds.length cap) ds lvs := by rw [hds]; exact HO.out
        have bX := BX.out
        have HMV := Shut.mk (show ((n : Nat) : Int) = (m : Int) by rw [hmn])
        have HAT := Shut.mk (show addT t l = tab t.length (addG ds k l) by rw [hds]; exact HAT.out)
        clear hfr hbq hds hmn
        have hBw : w.heap.size ≤ w2.heap.size := k3.size
        have hdb := HDs.out
        have hmb := fulls_bd HMf.out
        have hq : 2 * k < ds.length := by have := HK.out; omega
        have hqm : 2 * k < 2 * m - 1 := by have := HK.out; omega
        have c0 := bX.cell 0
        have c1 := bX.cell 1
        have c2 := bX.cell 2
        have c3 := bX.cell 3
        have c4 := bX.cell 4
        have c5 := bX.cell 5
        simp only [List.getElem?_cons_zero, List.getElem?_cons_succ] at c0 c1 c2 c3 c4 c5
        obtain ⟨lv0, ⟨s0, s1, s2, s3, s4, s5⟩, f⟩ := hT.rowT.cells hq
        have f0 := f (2 * k * 6)
        have f1 := f (2 * k * 6 + 1)
        have f2 := f (2 * k * 6 + 2)
        have f3 := f (2 * k * 6 + 3)
        have f4 := f (2 * k * 6 + 4)
        have f5 := f (2 * k * 6 + 5)
        have hk0 : (0 : Int) ≤ (k : Int) := by omega
        have hk1 : (k : Int) ≤ 255 := by omega
        have hk2 : 2 * (k : Int) < (t.length : Int) := by have := HDl.out; omega
        have hm0 : (1 : Int) ≤ (n : Int) := by have := HMV.out; omega
        have hm1 : (n : Int) ≤ 256 := by have := HMV.out; omega
        have hdl : (t.length : Int) ≤ 511 := by have := HDl.out; omega
        have HP : Hid (∀ W, Calls Tryd.prog 54 #[.int .i64 (2 * (k : Int)), .int .i64 (n)] W (OwnPost W true (ints (Mth.path (2 * k) m)))) := Lib.hid (fun W => by
          have := RPath_own ((2 * k : Nat) : Int) m W ⟨by omega, by omega⟩ ⟨by omega, by omega⟩
          rw [nat_in HMf.out hqm, Int.toNat_natCast, Int.toNat_natCast, ← HMV.out, Int.natCast_mul] at this
          exact this)
        have hpf := fun j => path_fresh (j := j) HMf.out HK.out
        have hpm := fun x hx => path_mem (x := x) HMf.out HK.out hx
        have hpl8 : (Mth.path (2 * k) m).length ≤ 8 := by
          have hp := Mth.path_of HMf.out hqm
          have hpl : (Mth.path (2 * k) m).length = _ := hp.len
          have := lvl_top HMf.out
          omega
        generalize Mth.path (2 * k) m = p at HP hpf hpm hpl8
        have HPF := Shut.mk hpf
        have HPM := Shut.mk hpm
        have HT := Lib.hid hT
        have hg : w2.heap.size ≤ g := (Ownv.lt hT.row (b := g) rfl).2
        clear hpf hpm hT f bX hq hdb
        go_wp2_with fail
        (with_reducible refine (HP.out _).mono ?_); rintro e w5 ⟨pv, rfl, op, k5⟩
        have hq : 2 * k < ds.length := by have := HK.out; have := HDs.out; omega
        have op2 : OwnI w4.heap.size w5 pv (ints p) := by
          have h : OwnI _ w5 pv (ints p) := op
          simp only [size_setCell] at h
          exact h
        have hmix := OwnT.mix HT.out hq l (.slice ua l.un.length uc) HLun.out (fun W => by have h := hrl; rw [HLun.out] at h ⊢; exact h.empty) (show Kept (put6 w4 g (2 * k * 6) l (.slice ua l.un.length uc)) w5 from k5) op2
        have k6 : Kept w w5 := Turn.keptOf k4 (Turn.trans (put6_turn w4 g (2 * k * 6) l (.slice ua l.un.length uc)) ((show Kept (put6 w4 g (2 * k * 6) l (.slice ua l.un.length uc)) w5 from k5).turn (fun b => b = g)) (fun b e => .inl e)) (fun b e => by omega)
        obtain ⟨pa, pc, rfl, _, _, _⟩ := (OwnI.rd op2).len
        rw [ints_len] at hmix ⊢
        have p63 : (p.length : Int) ≤ 8 := by omega
        have HMx := Lib.hid hmix
        clear hmix op op2 k5
        simp only [er_true]
        go_wp2
        go_loopw [65] (fun c wr => ∃ j : Nat, j ≤ p.length ∧ c = .int .i64 j ∧ (∃ us ls, MixT w2.heap.size g cap (2 * k) (.slice pa p.length pc) (ints p) wr us ls ∧ us.length = ds.length ∧ (∀ x, x < ds.length → nd us x = if x ∈ p.take j ∧ (nd ds x).kd = 2 then { nd ds x with un := ins k (nd ds x).un } else nd (ds.set (2 * k) l) x)) ∧ Kept w wr) (fun c _ => p.length - (intOf c).toNat)
        case atStart => exact ⟨0, Nat.zero_le _, rfl, ⟨_, _, HMx.out, by rw [List.length_set], fun x hx => by rw [List.take_zero, if_neg (fun h => List.not_mem_nil h.1)]⟩, k6⟩
        case round =>
          obtain ⟨j, hj, rfl, ⟨us, ls, hu, hul, hus⟩, hkw⟩ := hrel
          have HUs := Shut.mk hus
          have HUl := Shut.mk hul
          clear hus hul
          by_cases hlt : j < p.length
          · have hrp := OwnI.rd hu.pth
            obtain ⟨rb, ro, rcp, hrv, _, _, hrb, hcl⟩ := hrp.addr (by rw [ints_len]; exact Nat.lt_of_le_of_lt (Nat.zero_le _) hlt)
            simp only [Value.slice.injEq] at hrv
            obtain ⟨rfl, -, rfl⟩ := hrv
            have q0 := hcl j (by rw [ints_len]; exact hlt)
            rw [ints_get hlt] at q0
            obtain ⟨pf1, pf2, pf3⟩ := HPF.out j hlt
            have HTk := Shut.mk (takeN_snoc hlt)
            clear hcl hrp
            generalize p.getD j 0 = x at q0 pf1 pf2 pf3 HTk
            have hxd : x < ds.length := by have := HDs.out; omega
            have hxl : x < us.length := by rw [HUl.out]; exact hxd
            have hnx : nd us x = nd ds x := by rw [HUs.out x hxd, if_neg (fun h => pf1 h.1), nd_set hq, if_neg pf2]
            obtain ⟨⟨s0, _, _, _, _, s5⟩, f⟩ := hu.cells hxl
            have hox := hu.un x hxl pf2
            rw [hnx] at s0 hox
            have hun9 := HUn.out x hxd
            have hri9 := HRi.out x hxd
            have f5 := f (x * 6 + 5)
            have x0 : (0 : Int) ≤ (x : Int) := by omega
            have x1 : (x : Int) < (t.length : Int) := by have := HDl.out; omega
            have j1 : (j : Int) < (p.length : Int) := by omega
            have HU := Lib.hid hu
            have PF1 := Shut.mk pf1
            have PF2 := Shut.mk pf2
            have HNx := Shut.mk hnx
            have hB : w2.heap.size ≤ wr.heap.size := by have := (Ownv.lt hu.row (b := g) rfl); omega
            clear hu f pf1 pf2 pf3 hnx
            cases hkd : ((nd ds x).kd == 2) with
            | false =>
              have hkn : ¬ (nd ds x).kd = 2 := by simpa using hkd
              generalize (nd ds x).kd = kd at s0 hkd
              have HKn := Shut.mk hkn
              clear hkn
              go_wp2
              go_roundw
              case rel => exact ⟨j + 1, hlt, by go_num, ⟨us, ls, HU.out, HUl.out, fun y hy => by
                rw [HUs.out y hy, HTk.out]
                by_cases c : y = x
                · rw [c, if_neg (fun h => HKn.out h.2), if_neg (fun h => HKn.out h.2)]
                · by_cases c2 : y ∈ p.take j
                  · by_cases c3 : (nd ds y).kd = 2
                    · rw [if_pos ⟨c2, c3⟩, if_pos ⟨List.mem_append_left _ c2, c3⟩]
                    · rw [if_neg (fun h => c3 h.2), if_neg (fun h => c3 h.2)]
                  · rw [if_neg (fun h => c2 h.1), if_neg (fun h => by
                      rcases List.mem_append.1 h.1 with h | h
                      · exact c2 h
                      · exact c (List.mem_singleton.1 h))]⟩, hkw⟩
              case measure => simp [intOf]; omega
            | true =>
              have hkn : (nd ds x).kd = 2 := by simpa using hkd
              have HRi2 := Shut.mk (hri9 hkn)
              have HKn := Shut.mk hkn
              generalize (nd ds x).kd = kd at s0 hkd
              generalize hlx : ls.getD x undef = lx at s5 hox
              have HLx := Shut.mk hlx
              generalize hun : (nd ds x).un = un at hox hun9
              have HUnx := Shut.mk hun
              clear hkn hlx hun hri9
              have ka1 : Kept wr (wr.alloc (.cells #[.int .i64 (k : Int)] 3)) := (Kept.refl wr).alloc _
              have o2 : OwnI w2.heap.size (wr.alloc (.cells #[.int .i64 (k : Int)] 3)) lx un := Ownv.kept hox ka1
              have hlen : un.length + 1 ≤ 10000000000 := by omega
              have hB1 : w2.heap.size ≤ (wr.alloc (.cells #[.int .i64 (k : Int)] 3)).heap.size := Nat.le_trans hB ka1.size
              have hgl : ∀ b, Blks lx b → w.heap.size ≤ b := fun b hb => Nat.le_trans hBw (Ownv.lt hox hb).2
              go_wp2_with (at_builtin; refine go_appi w2.heap.size lx un rfl o2 _ [(k : Int)] rfl (OwnI.rd (OwnI.lit1 wr _)) hlen hB1 ?_; intro v6 w6 o6 t6 l6)
              (with_reducible refine (rising_own (OwnI.rd o6) (by simp; omega)).mono ?_); rintro e w7 ⟨u, us', rfl, ou, hpw, hmem, k7⟩
              obtain ⟨va, vc, rfl, _, _, _⟩ := (OwnI.rd ou).len
              have t6' : Turn (Blks (ls.getD x undef)) (wr.alloc (.cells #[.int .i64 (k : Int)] 3)) w6 := by rw [HLx.out]; exact t6
              have hst := HU.out.step hxl PF2.out ka1 t6' k7 ou
              obtain ⟨z5, y5⟩ := HU.out.cell3 hxl PF2.out ka1 t6' k7
              rw [HLx.out] at z5
              have hku : us' = ins k un := sorted_unique hpw (ins_rising (by have := HRi2.out; rwa [HUnx.out] at this)) (fun y => (hmem y).trans (by rw [mem_ins, List.mem_append, List.mem_singleton]; exact Or.comm))
              have kst : Kept w (w7.setCell ⟨g, x * 6 + 5, none⟩ (.slice va us'.length vc)) := ((Turn.keptOf (hkw.trans ka1) t6 hgl).trans k7).setCell (Nat.le_trans hBw hg) _
              have HSt := Lib.hid hst
              have HKu := Shut.mk hku
              clear hst hku hmem hpw t6' t6 o6 o2 ou
              go_wp2
              go_roundw
              case rel => exact ⟨j + 1, hlt, by go_num, ⟨_, _, HSt.out, by rw [List.length_set]; exact HUl.out, fun y hy => by
                rw [nd_set hxl, HTk.out]
                by_cases c : y = x
                · rw [if_pos c, c, if_pos ⟨List.mem_append_right _ (List.mem_singleton.2 rfl), HKn.out⟩, HNx.out, HKu.out, HUnx.out]
                · rw [if_neg c, HUs.out y hy]
                  by_cases c2 : y ∈ p.take j
                  · by_cases c3 : (nd ds y).kd = 2
                    · rw [if_pos ⟨c2, c3⟩, if_pos ⟨List.mem_append_left _ c2, c3⟩]
                    · rw [if_neg (fun h => c3 h.2), if_neg (fun h => c3 h.2)]
                  · rw [if_neg (fun h => c2 h.1), if_neg (fun h => by
                      rcases List.mem_append.1 h.1 with h | h
                      · exact c2 h
                      · exact c (List.mem_singleton.1 h))]⟩, kst⟩
              case measure => simp [intOf]; omega
          · have e : p.take j = p := by rw [show j = p.length by omega]; exact List.take_length
            have hU : us = tab ds.length (addG ds k l) := tn_ext (by rw [tab_len]; exact HUl.out) fun x hx => by
              rw [HUl.out] at hx
              rw [HUs.out x hx, e, tab_nd hx, nd_set hq]
              have h := HPM.out x (by have := HDs.out; omega)
              unfold addG
              by_cases c : x = 2 * k
              · rw [if_pos c, if_neg (fun q => (h.1 q.1).2 c), if_pos c]
              · rw [if_neg c, if_neg c]
                by_cases c2 : x ∈ p
                · by_cases c3 : (nd ds x).kd = 2
                  · rw [if_pos ⟨c2, c3⟩, if_pos ⟨(h.1 c2).1, c3⟩]
                  · rw [if_neg (fun q => c3 q.2), if_neg (fun q => c3 q.2)]
                · rw [if_neg (fun q => c2 q.1), if_neg (fun q => c2 (h.2 ⟨q.1, c⟩))]
            have hrd := hu.rd
            rw [hU, tab_len] at hrd
            rw [HDl.out] at hrd
            have hgw : w.heap.size ≤ g := Nat.le_trans hBw hg
            have j9 : ¬ (j : Int) < (p.length : Int) := by omega
            clear e hU hu
            go_wp2
            go_ret3
            exact ⟨_, by rw [HAI.out, HAE.out]; rfl, by rw [HAT.out]; exact hrd, (fun b hb => by
              have := Option.some.inj (show some g = some b from hb)
              omega), hkw⟩
    · have hkn : k = n := by omega
      subst hkn
      have hfr : fr t k = k := fr_of (Nat.le_refl _) HAll.out (.inl rfl)
      have hbq : Nat.beq k k = true := Nat.beq_refl k
      have kk9 : ((k : Int) == (k : Int)) = true := beq_self_eq_true _
      cases h256 : ((k : Int) == 256) with
      | true =>
        have h6 : k = 256 := by have := beq_iff_eq.1 h256; omega
        have HAE := Shut.mk (show addE t l = 2 by rw [HE.out, hfr, hbq, h6]; rfl)
        have HAI := Shut.mk (show addI t l = 0 by rw [HI.out, HAE.out]; rfl)
        have HAT := Shut.mk (show addT t l = [] by rw [HTT.out, HAE.out]; rfl)
        clear h6 hfr hbq hall
        go_wp2
        go_ret3
        exact ⟨_, by rw [HAI.out, HAE.out]; rfl, by rw [HAT.out]; exact RdTs.nil _, (fun b (hb : Blks (.slice none 0 0) b) => by cases hb), k4⟩
      | false =>
        have h6 : k ≠ 256 := by intro h; rw [h] at h256; cases h256
        obtain ⟨hd1, hd2⟩ := fulls_dbl HN.out h6
        have hb6 : Nat.beq k 256 = false := by
          cases h : Nat.beq k 256 with
          | false => rfl
          | true => exact absurd (Nat.eq_of_beq_eq_true h) h6
        have HAE := Shut.mk (show addE t l = 0 by rw [HE.out, hfr, hbq, hb6]; rfl)
        have HAI := Shut.mk (show addI t l = (k : Int) by rw [HI.out, HAE.out, hfr]; rfl)
        obtain ⟨ds, hds⟩ : ∃ ds, ds = t ++ List.replicate (2 * k) tn0 := ⟨_, rfl⟩
        have hdl : ds.length = t.length + 2 * k := by rw [hds]; simp
        have HAT := Shut.mk (show addT t l = tab ds.length (addG ds k l) by rw [HTT.out, HAE.out, hfr, hbq, hdl, hds]; rfl)
        obtain ⟨m, hmn⟩ : ∃ m, m = 2 * k := ⟨_, rfl⟩
        have HMf := Shut.mk (show m ∈ Mth.fulls by rw [hmn]; exact hd1)
        have HDs := Shut.mk (show ds.length = 2 * m - 1 by rw [hdl, hmn, HLen.out]; omega)
        have HDl := Shut.mk (rfl : ds.length = ds.length)
        have HK := Shut.mk (show k < m by omega)
        have HUn := Shut.mk (show ∀ x, x < ds.length → (nd ds x).un.length ≤ 1000 by
          rw [hds]
          intro x _
          rw [nd_app]
          by_cases c : x < t.length
          · rw [if_pos c]; exact may_un2 HM.out x c
          · rw [if_neg c, nd_rep]; exact Nat.zero_le _)
        have HRi := Shut.mk (show ∀ x, x < ds.length → (nd ds x).kd = 2 → (nd ds x).un.Pairwise (· < ·) by
          rw [hds]
          intro x _
          rw [nd_app]
          by_cases c : x < t.length
          · rw [if_pos c]; exact may_ris HM.out x c
          · rw [if_neg c, nd_rep]; exact fun _ => List.Pairwise.nil)
        have HMV := Shut.mk (show (k : Int) * 2 = (m : Int) by rw [hmn]; omega)
        have HDS := Shut.mk hds
        have HMN := Shut.mk hmn
        have k128 : (k : Int) ≤ 128 := by omega
        clear h6 hfr hbq hb6 hall hds hdl hmn hd1
        have hB0 : w2.heap.size ≤ w4.heap.size := by omega
        have hm2 : 0 < 2 * k := by omega
        have hl2 : t.length + 2 * k ≤ 1000000 := by omega
        go_wp2_with (at_builtin; refine go_appz w2.heap.size _ t lvs rfl HO.out tl0 (2 * k) hm2 (by rw [Int.natCast_mul]; rfl) hl2 hB0 (Hid.out ?_))
        refine Lib.hid ?_
        intro v' wG oG tG
        have bX := BX.out.turn tG (by
          intro hb
          have e : g = w.heap.size := Option.some.inj (show some g = some w.heap.size from hb)
          have := ka.size
          have := BX0
          omega)
        rw [← HDS.out] at oG
        have k4 : Kept w wG := Turn.keptOf k4 tG (fun b hb => by
          have e : g = b := Option.some.inj (show some g = some b from hb)
          have := k3.size
          omega)
        obtain ⟨g, cap, rfl, hG1, hG2, _, _⟩ := oG.row.addr0 (by rw [tflat_length]; have := HDs.out; have := HK.out; omega)
        have hT := oG
        have hBw : w.heap.size ≤ w2.heap.size := k3.size
        have hdb := HDs.out
        have hmb := fulls_bd HMf.out
        have hq : 2 * k < ds.length := by have := HK.out; omega
        have hqm : 2 * k < 2 * m - 1 := by have := HK.out; omega
        have c0 := bX.cell 0
        have c1 := bX.cell 1
        have c2 := bX.cell 2
        have c3 := bX.cell 3
        have c4 := bX.cell 4
        have c5 := bX.cell 5
        simp only [List.getElem?_cons_zero, List.getElem?_cons_succ] at c0 c1 c2 c3 c4 c5
        obtain ⟨lv0, ⟨s0, s1, s2, s3, s4, s5⟩, f⟩ := hT.rowT.cells hq
        have f0 := f (2 * k * 6)
        have f1 := f (2 * k * 6 + 1)
        have f2 := f (2 * k * 6 + 2)
        have f3 := f (2 * k * 6 + 3)
        have f4 := f (2 * k * 6 + 4)
        have f5 := f (2 * k * 6 + 5)
        have hk0 : (0 : Int) ≤ (k : Int) := by omega
        have hk1 : (k : Int) ≤ 255 := by omega
        have hk2 : 2 * (k : Int) < (ds.length : Int) := by have := HDl.out; omega
        have hm0 : (1 : Int) ≤ ((k : Int) * 2 : Int) := by have := HMV.out; omega
        have hm1 : ((k : Int) * 2 : Int) ≤ 256 := by have := HMV.out; omega
        have hdl : (ds.length : Int) ≤ 511 := by have := HDl.out; omega
        have HP : Hid (∀ W, Calls Tryd.prog 54 #[.int .i64 (2 * (k : Int)), .int .i64 ((k : Int) * 2)] W (OwnPost W true (ints (Mth.path (2 * k) m)))) := Lib.hid (fun W => by
          have := RPath_own ((2 * k : Nat) : Int) m W ⟨by omega, by omega⟩ ⟨by omega, by omega⟩
          rw [nat_in HMf.out hqm, Int.toNat_natCast, Int.toNat_natCast, ← HMV.out, Int.natCast_mul] at this
          exact this)
        have hpf := fun j => path_fresh (j := j) HMf.out HK.out
        have hpm := fun x hx => path_mem (x := x) HMf.out HK.out hx
        have hpl8 : (Mth.path (2 * k) m).length ≤ 8 := by
          have hp := Mth.path_of HMf.out hqm
          have hpl : (Mth.path (2 * k) m).length = _ := hp.len
          have := lvl_top HMf.out
          omega
        generalize Mth.path (2 * k) m = p at HP hpf hpm hpl8
        have HPF := Shut.mk hpf
        have HPM := Shut.mk hpm
        have HT := Lib.hid hT
        have hg : w2.heap.size ≤ g := (Ownv.lt hT.row (b := g) rfl).2
        clear hpf hpm hT f bX hq hdb
        go_wp2_with fail
        (with_reducible refine (HP.out _).mono ?_); rintro e w5 ⟨pv, rfl, op, k5⟩
        have hq : 2 * k < ds.length := by have := HK.out; have := HDs.out; omega
        have op2 : OwnI wG.heap.size w5 pv (ints p) := by
          have h : OwnI _ w5 pv (ints p) := op
          simp only [size_setCell] at h
          exact h
        have hmix := OwnT.mix HT.out hq l (.slice ua l.un.length uc) HLun.out (fun W => by have h := hrl; rw [HLun.out] at h ⊢; exact h.empty) (show Kept (put6 wG g (2 * k * 6) l (.slice ua l.un.length uc)) w5 from k5) op2
        have k6 : Kept w w5 := Turn.keptOf k4 (Turn.trans (put6_turn wG g (2 * k * 6) l (.slice ua l.un.length uc)) ((show Kept (put6 wG g (2 * k * 6) l (.slice ua l.un.length uc)) w5 from k5).turn (fun b => b = g)) (fun b e => .inl e)) (fun b e => by omega)
        obtain ⟨pa, pc, rfl, _, _, _⟩ := (OwnI.rd op2).len
        rw [ints_len] at hmix ⊢
        have p63 : (p.length : Int) ≤ 8 := by omega
        have HMx := Lib.hid hmix
        clear hmix op op2 k5
        simp only [er_true]
        go_wp2
        go_loopw [65] (fun c wr => ∃ j : Nat, j ≤ p.length ∧ c = .int .i64 j ∧ (∃ us ls, MixT w2.heap.size g cap (2 * k) (.slice pa p.length pc) (ints p) wr us ls ∧ us.length = ds.length ∧ (∀ x, x < ds.length → nd us x = if x ∈ p.take j ∧ (nd ds x).kd = 2 then { nd ds x with un := ins k (nd ds x).un } else nd (ds.set (2 * k) l) x)) ∧ Kept w wr) (fun c _ => p.length - (intOf c).toNat)
        case atStart => exact ⟨0, Nat.zero_le _, rfl, ⟨_, _, HMx.out, by rw [List.length_set], fun x hx => by rw [List.take_zero, if_neg (fun h => List.not_mem_nil h.1)]⟩, k6⟩
        case round =>
          obtain ⟨j, hj, rfl, ⟨us, ls, hu, hul, hus⟩, hkw⟩ := hrel
          have HUs := Shut.mk hus
          have HUl := Shut.mk hul
          clear hus hul
          by_cases hlt : j < p.length
          · have hrp := OwnI.rd hu.pth
            obtain ⟨rb, ro, rcp, hrv, _, _, hrb, hcl⟩ := hrp.addr (by rw [ints_len]; exact Nat.lt_of_le_of_lt (Nat.zero_le _) hlt)
            simp only [Value.slice.injEq] at hrv
            obtain ⟨rfl, -, rfl⟩ := hrv
            have q0 := hcl j (by rw [ints_len]; exact hlt)
            rw [ints_get hlt] at q0
            obtain ⟨pf1, pf2, pf3⟩ := HPF.out j hlt
            have HTk := Shut.mk (takeN_snoc hlt)
            clear hcl hrp
            generalize p.getD j 0 = x at q0 pf1 pf2 pf3 HTk
            have hxd : x < ds.length := by have := HDs.out; omega
            have hxl : x < us.length := by rw [HUl.out]; exact hxd
            have hnx : nd us x = nd ds x := by rw [HUs.out x hxd, if_neg (fun h => pf1 h.1), nd_set hq, if_neg pf2]
            obtain ⟨⟨s0, _, _, _, _, s5⟩, f⟩ := hu.cells hxl
            have hox := hu.un x hxl pf2
            rw [hnx] at s0 hox
            have hun9 := HUn.out x hxd
            have hri9 := HRi.out x hxd
            have f5 := f (x * 6 + 5)
            have x0 : (0 : Int) ≤ (x : Int) := by omega
            have x1 : (x : Int) < (ds.length : Int) := by have := HDl.out; omega
            have j1 : (j : Int) < (p.length : Int) := by omega
            have HU := Lib.hid hu
            have PF1 := Shut.mk pf1
            have PF2 := Shut.mk pf2
            have HNx := Shut.mk hnx
            have hB : w2.heap.size ≤ wr.heap.size := by have := (Ownv.lt hu.row (b := g) rfl); omega
            clear hu f pf1 pf2 pf3 hnx
            cases hkd : ((nd ds x).kd == 2) with
            | false =>
              have hkn : ¬ (nd ds x).kd = 2 := by simpa using hkd
              generalize (nd ds x).kd = kd at s0 hkd
              have HKn := Shut.mk hkn
              clear hkn
              go_wp2
              go_roundw
              case rel => exact ⟨j + 1, hlt, by go_num, ⟨us, ls, HU.out, HUl.out, fun y hy => by
                rw [HUs.out y hy, HTk.out]
                by_cases c : y = x
                · rw [c, if_neg (fun h => HKn.out h.2), if_neg (fun h => HKn.out h.2)]
                · by_cases c2 : y ∈ p.take j
                  · by_cases c3 : (nd ds y).kd = 2
                    · rw [if_pos ⟨c2, c3⟩, if_pos ⟨List.mem_append_left _ c2, c3⟩]
                    · rw [if_neg (fun h => c3 h.2), if_neg (fun h => c3 h.2)]
                  · rw [if_neg (fun h => c2 h.1), if_neg (fun h => by
                      rcases List.mem_append.1 h.1 with h | h
                      · exact c2 h
                      · exact c (List.mem_singleton.1 h))]⟩, hkw⟩
              case measure => simp [intOf]; omega
            | true =>
              have hkn : (nd ds x).kd = 2 := by simpa using hkd
              have HRi2 := Shut.mk (hri9 hkn)
              have HKn := Shut.mk hkn
              generalize (nd ds x).kd = kd at s0 hkd
              generalize hlx : ls.getD x undef = lx at s5 hox
              have HLx := Shut.mk hlx
              generalize hun : (nd ds x).un = un at hox hun9
              have HUnx := Shut.mk hun
              clear hkn hlx hun hri9
              have ka1 : Kept wr (wr.alloc (.cells #[.int .i64 (k : Int)] 3)) := (Kept.refl wr).alloc _
              have o2 : OwnI w2.heap.size (wr.alloc (.cells #[.int .i64 (k : Int)] 3)) lx un := Ownv.kept hox ka1
              have hlen : un.length + 1 ≤ 10000000000 := by omega
              have hB1 : w2.heap.size ≤ (wr.alloc (.cells #[.int .i64 (k : Int)] 3)).heap.size := Nat.le_trans hB ka1.size
              have hgl : ∀ b, Blks lx b → w.heap.size ≤ b := fun b hb => Nat.le_trans hBw (Ownv.lt hox hb).2
              go_wp2_with (at_builtin; refine go_appi w2.heap.size lx un rfl o2 _ [(k : Int)] rfl (OwnI.rd (OwnI.lit1 wr _)) hlen hB1 ?_; intro v6 w6 o6 t6 l6)
              (with_reducible refine (rising_own (OwnI.rd o6) (by simp; omega)).mono ?_); rintro e w7 ⟨u, us', rfl, ou, hpw, hmem, k7⟩
              obtain ⟨va, vc, rfl, _, _, _⟩ := (OwnI.rd ou).len
              have t6' : Turn (Blks (ls.getD x undef)) (wr.alloc (.cells #[.int .i64 (k : Int)] 3)) w6 := by rw [HLx.out]; exact t6
              have hst := HU.out.step hxl PF2.out ka1 t6' k7 ou
              obtain ⟨z5, y5⟩ := HU.out.cell3 hxl PF2.out ka1 t6' k7
              rw [HLx.out] at z5
              have hku : us' = ins k un := sorted_unique hpw (ins_rising (by have := HRi2.out; rwa [HUnx.out] at this)) (fun y => (hmem y).trans (by rw [mem_ins, List.mem_append, List.mem_singleton]; exact Or.comm))
              have kst : Kept w (w7.setCell ⟨g, x * 6 + 5, none⟩ (.slice va us'.length vc)) := ((Turn.keptOf (hkw.trans ka1) t6 hgl).trans k7).setCell (Nat.le_trans hBw hg) _
              have HSt := Lib.hid hst
              have HKu := Shut.mk hku
              clear hst hku hmem hpw t6' t6 o6 o2 ou
              go_wp2
              go_roundw
              case rel => exact ⟨j + 1, hlt, by go_num, ⟨_, _, HSt.out, by rw [List.length_set]; exact HUl.out, fun y hy => by
                rw [nd_set hxl, HTk.out]
                by_cases c : y = x
                · rw [if_pos c, c, if_pos ⟨List.mem_append_right _ (List.mem_singleton.2 rfl), HKn.out⟩, HNx.out, HKu.out, HUnx.out]
                · rw [if_neg c, HUs.out y hy]
                  by_cases c2 : y ∈ p.take j
                  · by_cases c3 : (nd ds y).kd = 2
                    · rw [if_pos ⟨c2, c3⟩, if_pos ⟨List.mem_append_left _ c2, c3⟩]
                    · rw [if_neg (fun h => c3 h.2), if_neg (fun h => c3 h.2)]
                  · rw [if_neg (fun h => c2 h.1), if_neg (fun h => by
                      rcases List.mem_append.1 h.1 with h | h
                      · exact c2 h
                      · exact c (List.mem_singleton.1 h))]⟩, kst⟩
              case measure => simp [intOf]; omega
          · have e : p.take j = p := by rw [show j = p.length by omega]; exact List.take_length
            have hU : us = tab ds.length (addG ds k l) := tn_ext (by rw [tab_len]; exact HUl.out) fun x hx => by
              rw [HUl.out] at hx
              rw [HUs.out x hx, e, tab_nd hx, nd_set hq]
              have h := HPM.out x (by have := HDs.out; omega)
              unfold addG
              by_cases c : x = 2 * k
              · rw [if_pos c, if_neg (fun q => (h.1 q.1).2 c), if_pos c]
              · rw [if_neg c, if_neg c]
                by_cases c2 : x ∈ p
                · by_cases c3 : (nd ds x).kd = 2
                  · rw [if_pos ⟨c2, c3⟩, if_pos ⟨(h.1 c2).1, c3⟩]
                  · rw [if_neg (fun q => c3 q.2), if_neg (fun q => c3 q.2)]
                · rw [if_neg (fun q => c2 q.1), if_neg (fun q => c2 (h.2 ⟨q.1, c⟩))]
            have hrd := hu.rd
            rw [hU, tab_len] at hrd
            skip
            have hgw : w.heap.size ≤ g := Nat.le_trans hBw hg
            have j9 : ¬ (j : Int) < (p.length : Int) := by omega
            clear e hU hu
            go_wp2
            go_ret3
            exact ⟨_, by rw [HAI.out, HAE.out]; rfl, by rw [HAT.out]; exact hrd, (fun b hb => by
              have := Option.some.inj (show some g = some b from hb)
              omega), hkw⟩
end Go.Proofs.YtlmpejfkpidbeaaDoor
end

section
/- Plain facts of what Add answers. -/
set_option linter.unusedSimpArgs false
set_option linter.unusedVariables false
namespace Go.Proofs.YtlmpejfkpidbeaaDoor
open Go.RowKit
open Rt

theorem nd_zeros {t : List TN} {m x : Nat} : nd (t ++ List.replicate m tn0) x = nd t x := by
  rw [nd_app]
  by_cases c : x < t.length
  · rw [if_pos c]
  · rw [if_neg c, nd_rep, nd_out (by omega)]
theorem addG_grow {t : List TN} {n : Nat} {l : TN} (m : MayN t n) : tab (t.length + 2 * n) (addG (t ++ List.replicate (2 * n) tn0) n l) = tab (4 * n - 1) (growG t n l) := by
  have hb := fulls_bd m.hn
  have hlen := m.len
  refine tn_ext (by rw [tab_len, tab_len]; omega) fun x hx => ?_
  rw [tab_len] at hx
  rw [tab_nd hx, tab_nd (by omega)]
  unfold addG growG
  rw [nd_zeros]
  by_cases c : x = 2 * n
  · rw [if_pos c, if_pos c]
  · rw [if_neg c, if_neg c, if_neg (fun q => ?_)]
    have hxn : x < 2 * n - 1 := by
      cases Nat.lt_or_ge x (2 * n - 1) with
      | inl h => exact h
      | inr hge =>
        have := q.2
        rw [nd_out (by omega)] at this
        cases this
    have h1 := hi_le m.hn hxn
    have h2 := (Mth.hasB_iff.1 q.1).2
    omega
theorem fr_spec (t : List TN) (n : Nat) : fr t n ≤ n ∧ (∀ j, j < fr t n → lk t j = true) ∧ (fr t n = n ∨ lk t (fr t n) = false) := by
  have hx : ∀ b, ∃ k, k ≤ b ∧ (∀ j, j < k → lk t j = true) ∧ (k = b ∨ lk t k = false) := by
    intro b
    induction b with
    | zero => exact ⟨0, Nat.le_refl _, fun j h => absurd h (Nat.not_lt_zero _), .inl rfl⟩
    | succ b ih =>
      obtain ⟨k, h1, h2, h3⟩ := ih
      cases h3 with
      | inr h => exact ⟨k, by omega, h2, .inr h⟩
      | inl h =>
        cases hl : lk t b with
        | true => exact ⟨b + 1, Nat.le_refl _, fun j hj => by
            by_cases c : j = b
            · rw [c]; exact hl
            · exact h2 j (by omega), .inl rfl⟩
        | false => exact ⟨b, by omega, by rw [← h]; exact h2, .inr hl⟩
  obtain ⟨k, h1, h2, h3⟩ := hx n
  rw [fr_of h1 h2 h3]
  exact ⟨h1, h2, h3⟩
/-- What Add answers may be. -/
structure AddOk (t : List TN) (l : TN) (u : List TN) (i n m : Nat) : Prop where
  was : Rt.May t n
  may : Rt.May u m
  lt : i < m
  first : ∀ j, j < i → lk t j = true
  free : lk t i = false
  leaf : nd u (2 * i) = l
  others : ∀ j, j ≠ i → nd u (2 * j) = nd t (2 * j)
theorem add_ok {t : List TN} {l : TN} (h : addE t l = 0) : ∃ i n m : Nat, addI t l = (i : Int) ∧ AddOk t l (addT t l) i n m := by
  have hi : addI t l = ((fr t (lvs t.length) : Nat) : Int) := by unfold addI; rw [h]; rfl
  have ht : addT t l = bif Nat.beq (fr t (lvs t.length)) (lvs t.length) then tab (t.length + 2 * lvs t.length) (addG (t ++ List.replicate (2 * lvs t.length) tn0) (lvs t.length) l) else tab t.length (addG t (fr t (lvs t.length)) l) := by unfold addT; rw [h]; rfl
  unfold addE at h
  cases hc : chkB t with
  | false => rw [hc] at h; cases h
  | true =>
    cases hl : leafB l with
    | false => rw [hc, hl] at h; cases h
    | true =>
      rw [hc, hl] at h
      have hm := chkB_may.1 hc
      have hlf := leafB_iff.1 hl
      generalize lvs t.length = n at h hi ht hm
      obtain ⟨f1, f2, f3⟩ := fr_spec t n
      have hb := fulls_bd hm.mn.hn
      have hlen := hm.mn.len
      generalize fr t n = k at h hi ht f1 f2 f3
      by_cases c : k = n
      · subst c
        rw [Nat.beq_refl] at h ht
        have h256 : k ≠ 256 := fun e => by rw [e] at h; cases h
        obtain ⟨hd1, hd2⟩ := fulls_dbl hm.mn.hn h256
        have ht : addT t l = tab (4 * k - 1) (growG t k l) := ht.trans (addG_grow hm.mn)
        have hmay := grow_may (l := l) hm.mn hd1 hlf
        rw [← ht] at hmay
        have hself : nd (addT t l) (2 * k) = l := by rw [ht, tab_nd (by omega)]; unfold growG; rw [if_pos rfl]
        have hoth : ∀ j, j ≠ k → nd (addT t l) (2 * j) = nd t (2 * j) := fun j hj => by
          rw [ht]
          by_cases cj : 2 * j < 4 * k - 1
          · rw [tab_nd cj]; unfold growG; rw [if_neg (by omega)]
          · rw [nd_out (by rw [tab_len]; omega), nd_out (by omega)]
        have hlk : lk (addT t l) k = true := by unfold lk; rw [hself, hlf.1]; rfl
        exact ⟨k, k, 2 * k, hi, hm, ⟨hmay, ⟨k, by omega, hlk⟩, .inr ⟨k, by omega, by omega, hlk⟩⟩, by omega, f2, by unfold lk; rw [nd_out (by omega)]; rfl, hself, hoth⟩
      · have hlt : k < n := by omega
        have hbq : Nat.beq k n = false := by
          cases e : Nat.beq k n with
          | false => rfl
          | true => exact absurd (Nat.eq_of_beq_eq_true e) c
        rw [hbq] at ht
        have ht : addT t l = tab (2 * n - 1) (addG t k l) := by rw [← hlen]; exact ht
        have hmay := addG_may (l := l) hm.mn hlt hlf
        rw [← ht] at hmay
        have hself : nd (addT t l) (2 * k) = l := by rw [ht, tab_nd (by omega)]; unfold addG; rw [if_pos rfl]
        have hlk : lk (addT t l) k = true := by unfold lk; rw [hself, hlf.1]; rfl
        have hoth : ∀ j, j ≠ k → nd (addT t l) (2 * j) = nd t (2 * j) := fun j hj => by
          rw [ht]
          by_cases cj : 2 * j < 2 * n - 1
          · rw [tab_nd cj]
            unfold addG
            rw [if_neg (by omega)]
            by_cases c2 : (nd t (2 * j)).kd = 2
            · have h9 := (hm.mn.leaf (2 * j) cj (by omega) (by omega)).1
              omega
            · rw [if_neg (fun q => c2 q.2)]
          · rw [nd_out (by rw [tab_len]; omega), nd_out (by omega)]
        have hkeep : ∀ j, lk t j = true → lk (addT t l) j = true := fun j hj => by
          by_cases cj : j = k
          · rw [cj]; exact hlk
          · unfold lk at hj ⊢; rw [hoth j cj]; exact hj
        refine ⟨k, n, n, hi, hm, ⟨hmay, ⟨k, hlt, hlk⟩, ?_⟩, hlt, f2, f3.resolve_left c, hself, hoth⟩
        rcases hm.right with h1 | ⟨j, a, b, hj⟩
        · exact .inl h1
        · exact .inr ⟨j, a, b, hkeep j hj⟩
end Go.Proofs.YtlmpejfkpidbeaaDoor
end

section
/- Plain facts of what Update and Remove answer. -/
set_option linter.unusedSimpArgs false
set_option linter.unusedVariables false
namespace Go.Proofs.YtlmpejfkpidbeaaDoor
open Go.RowKit
open Rt

theorem nd_take {u : List TN} {k x : Nat} (h : x < k) : nd (u.take k) x = nd u x := by
  unfold nd
  rw [List.getD_eq_getElem?_getD, List.getElem?_take, if_pos h, ← List.getD_eq_getElem?_getD]
theorem take_tab {u : List TN} {k : Nat} (h : k ≤ u.length) : u.take k = tab k (nd u) := by
  refine tn_ext (by rw [List.length_take, tab_len]; omega) fun x hx => ?_
  rw [List.length_take] at hx
  rw [nd_take (by omega), tab_nd (by omega)]
/-- A leaf that is not there is zero. -/
theorem not_lk {t : List TN} {n j : Nat} (m : MayN t n) (h : lk t j = false) : nd t (2 * j) = tn0 := by
  by_cases c : 2 * j < 2 * n - 1
  · by_cases h0 : (nd t (2 * j)).kd = 0
    · exact m.blank _ c h0
    · have := (m.leaf _ c h0 (by omega)).1
      unfold lk at h
      exact absurd this (of_decide_eq_false h)
  · exact nd_out (by rw [m.len]; omega)
theorem trunc_ok (f : Nat) : ∀ (u : List TN) (n : Nat), MayN u n → (∃ i, i < n ∧ lk u i = true) → n ≤ 2 ^ f → ∃ m : Nat, m ≤ n ∧ Rt.May (truncF f u n) m ∧ ∀ j, nd (truncF f u n) (2 * j) = nd u (2 * j) := by
  induction f with
  | zero =>
    intro u n m h hn
    have hb := fulls_bd m.hn
    exact ⟨n, Nat.le_refl _, ⟨m, h, .inl (by omega)⟩, fun _ => rfl⟩
  | succ f ih =>
    intro u n m h hn
    unfold truncF
    cases hc : (decide (1 < n) && !someB u (n / 2) n) with
    | false =>
      refine ⟨n, Nat.le_refl _, ⟨m, h, ?_⟩, fun _ => rfl⟩
      by_cases c : 1 < n
      · rw [decide_eq_true c, Bool.true_and] at hc
        have hs : someB u (n / 2) n = true := by simpa using hc
        obtain ⟨i, a, b, d⟩ := someB_true.1 hs
        exact .inr ⟨i, a, b, d⟩
      · have hb := fulls_bd m.hn
        exact .inl (by omega)
    | true =>
      rw [Bool.and_eq_true] at hc
      have h1 : 1 < n := of_decide_eq_true hc.1
      have hs : someB u (n / 2) n = false := by have := hc.2; simpa using this
      obtain ⟨g1, g2⟩ := half_fulls m.hn h1
      have hnone : ∀ i, n / 2 ≤ i → i < n → lk u i = false := fun i a b => by
        cases hl : lk u i with
        | false => rfl
        | true => rw [someB_true.2 ⟨i, a, b, hl⟩] at hs; cases hs
      have hm2 : MayN u (2 * (n / 2)) := by rw [← g2]; exact m
      have hmh := half_may hm2 g1
      rw [← take_tab (by rw [m.len]; omega)] at hmh
      have hlk : ∀ i, i < n / 2 → lk (u.take (2 * (n / 2) - 1)) i = lk u i := fun i hi => by unfold lk; rw [nd_take (by omega)]
      obtain ⟨i, hi, hl⟩ := h
      have hi2 : i < n / 2 := by
        cases Nat.lt_or_ge i (n / 2) with
        | inl q => exact q
        | inr q => rw [hnone i q hi] at hl; cases hl
      obtain ⟨k, k1, k2, k3⟩ := ih (u.take (2 * (n / 2) - 1)) (n / 2) hmh ⟨i, hi2, by rw [hlk i hi2]; exact hl⟩ (by rw [Nat.pow_succ] at hn; omega)
      refine ⟨k, by omega, k2, fun j => ?_⟩
      show nd (truncF f (u.take (2 * (n / 2) - 1)) (n / 2)) (2 * j) = nd u (2 * j)
      rw [k3 j]
      by_cases c : 2 * j < 2 * (n / 2) - 1
      · exact nd_take c
      · rw [nd_out (by rw [List.length_take]; omega)]
        by_cases c2 : j < n
        · exact (not_lk m (hnone j (by omega) c2)).symm
        · exact (nd_out (by rw [m.len]; omega)).symm
theorem updG_even {t : List TN} {n i j : Nat} {l : TN} (m : MayN t n) (hi : i < n) : nd (tab t.length (updG t i l)) (2 * j) = if j = i then l else nd t (2 * j) := by
  have hb := fulls_bd m.hn
  have hlen := m.len
  by_cases c : 2 * j < t.length
  · rw [tab_nd c]
    unfold updG blkG
    by_cases e : j = i
    · rw [if_pos e, if_pos (by rw [e])]
    · rw [if_neg e, if_neg (by omega), hasB_leaf (by omega), decide_eq_false (by omega)]
      rfl
  · rw [nd_out (by rw [tab_len]; omega), if_neg (by omega), nd_out (by omega)]
/-- What Update answers may be. -/
structure UpdOk (t : List TN) (l : TN) (u : List TN) (i n : Nat) : Prop where
  was : Rt.May t n
  may : Rt.May u n
  lt : i < n
  there : lk t i = true
  leaf : nd u (2 * i) = l
  others : ∀ j, j ≠ i → nd u (2 * j) = nd t (2 * j)
theorem upd_ok {t : List TN} {l : TN} {i : Int} (h : updE t i l = 0) : ∃ j n : Nat, i = (j : Int) ∧ UpdOk t l (updT t i l) j n := by
  unfold updE at h
  cases hl : leafB l with
  | false => rw [hl] at h; cases h
  | true =>
    rw [hl] at h
    have hth : thI t i = 0 := h
    have hlf := leafB_iff.1 hl
    obtain ⟨n, j, rfl, hj, hm, hlk⟩ := thI_ok hth
    have ht : updT t j l = tab t.length (updG t j l) := by unfold updT; rw [hl, hth]; rfl
    have hmay := updG_may (i := j) (l := l) hm.mn hj (.inr hlf)
    rw [← hm.mn.len, ← ht] at hmay
    have hev := fun q => updG_even (j := q) (l := l) hm.mn hj
    rw [← ht] at hev
    have hlu : ∀ q, lk t q = true → lk (updT t j l) q = true := fun q hq => by
      unfold lk at hq ⊢
      rw [hev q]
      by_cases c : q = j
      · rw [if_pos c, hlf.1]; rfl
      · rw [if_neg c]; exact hq
    refine ⟨j, n, rfl, hm, ⟨hmay, ⟨j, hj, hlu j hlk⟩, ?_⟩, hj, hlk, by rw [hev j, if_pos rfl], fun q hq => by rw [hev q, if_neg hq]⟩
    rcases hm.right with h1 | ⟨q, a, b, hq⟩
    · exact .inl h1
    · exact .inr ⟨q, a, b, hlu q hq⟩
/-- What Remove answers may be. -/
structure RemOk (t : List TN) (u : List TN) (i n m : Nat) : Prop where
  was : Rt.May t n
  may : Rt.May u m
  lt : i < n
  le : m ≤ n
  there : lk t i = true
  gone : lk u i = false
  others : ∀ j, j ≠ i → nd u (2 * j) = nd t (2 * j)
theorem rem_ok {t : List TN} {i : Int} (h : remE t i = 0) : ∃ j n m : Nat, i = (j : Int) ∧ RemOk t (remT t i) j n m := by
  unfold remE at h
  by_cases hth : thI t i = 0
  · rw [decide_eq_true hth] at h
    obtain ⟨n, j, rfl, hj, hm, hlk⟩ := thI_ok hth
    have hll := lvs_of hm.mn.hn
    rw [← hm.mn.len] at hll
    have h : errI (someB (blkT t j) 0 (lvs t.length)) = 0 := h
    rw [hll] at h
    have hs : someB (blkT t j) 0 n = true := by
      cases e : someB (blkT t j) 0 n with
      | true => rfl
      | false => rw [e] at h; cases h
    have ht : remT t j = truncF 9 (blkT t j) n := by
      unfold remT
      rw [decide_eq_true hth]
      show (bif someB (blkT t j) 0 (lvs t.length) then truncF 9 (blkT t j) (lvs t.length) else []) = _
      rw [hll, hs]; rfl
    have hmay := updG_may (i := j) (l := tn0) hm.mn hj (.inl rfl)
    rw [← hm.mn.len] at hmay
    have hev := fun q => updG_even (j := q) (l := tn0) hm.mn hj
    obtain ⟨q, _, q1, q2⟩ := someB_true.1 hs
    have hb := fulls_bd hm.mn.hn
    obtain ⟨m, m1, m2, m3⟩ := trunc_ok 9 (blkT t j) n hmay ⟨q, q1, q2⟩ (by omega)
    rw [← ht] at m2 m3
    refine ⟨j, n, m, rfl, hm, m2, hj, m1, hlk, ?_, fun k hk => ?_⟩
    · unfold lk
      rw [m3 j]
      show decide ((nd (tab t.length (updG t j tn0)) (2 * j)).kd = 1) = false
      rw [hev j, if_pos rfl]; rfl
    · rw [m3 k]
      show nd (tab t.length (updG t j tn0)) (2 * k) = _
      rw [hev k, if_neg hk]
  · rw [decide_eq_false hth] at h
    exact absurd h hth
end Go.Proofs.YtlmpejfkpidbeaaDoor
end

section
/- What the program's own Check, needed, .. say, plainly: the same as the document's. -/
set_option linter.unusedVariables false
namespace Go.Proofs.YtlmpejfkpidbeaaDoor
open Rt

theorem nbeq_false {a b : Nat} (h : a ≠ b) : Nat.beq a b = false := by
  cases e : Nat.beq a b with
  | false => rfl
  | true => exact absurd (Nat.eq_of_beq_eq_true e) h
/-- Unmerged are leaves under the node, rising. -/
def unfB (t : List TN) (h : Nat) : Int → List Int → Bool
  | _, [] => true
  | least, i :: r => !(decide (i < least) || decide ((h : Int) ≤ i) || !lk t i.toNat) && unfB t h (i + 1) r
def parB (d : TN) : Bool := d.kd == 2 && d.id == 0 && d.sig == 0
def fitB (t : List TN) (x : Nat) : Bool :=
  bif (nd t x).kd == 0 then sameNB (nd t x) tn0 else bif Nat.beq (x % 2) 0 then leafB (nd t x) else parB (nd t x) && unfB t (Mth.hi x) (Mth.lo x : Nat) (nd t x).un
theorem unfB_iff {t : List TN} {h : Nat} {us : List Int} {least : Int} : unfB t h least us = true ↔ us.Pairwise (· < ·) ∧ (∀ i ∈ us, least ≤ i) ∧ ∀ i ∈ us, i < (h : Int) ∧ lk t i.toNat = true := by
  induction us generalizing least with
  | nil => exact ⟨fun _ => ⟨List.Pairwise.nil, fun i hi => absurd hi List.not_mem_nil, fun i hi => absurd hi List.not_mem_nil⟩, fun _ => rfl⟩
  | cons a us ih =>
    show (!(decide (a < least) || decide ((h : Int) ≤ a) || !lk t a.toNat) && unfB t h (a + 1) us) = true ↔ _
    rw [Bool.and_eq_true, Bool.not_eq_true', Bool.or_eq_false_iff, Bool.or_eq_false_iff, decide_eq_false_iff_not, decide_eq_false_iff_not, Bool.not_eq_false', ih, List.pairwise_cons]
    constructor
    · rintro ⟨⟨⟨h1, h2⟩, h3⟩, h5, h6, h7⟩
      refine ⟨⟨fun i hi => ?_, h5⟩, fun i hi => ?_, fun i hi => ?_⟩
      · have := h6 i hi; omega
      · rcases List.mem_cons.1 hi with rfl | hi
        · omega
        · have := h6 i hi; omega
      · rcases List.mem_cons.1 hi with rfl | hi
        · exact ⟨by omega, h3⟩
        · exact h7 i hi
    · rintro ⟨⟨h1, h2⟩, h3, h4⟩
      have ha := h4 a List.mem_cons_self
      have hl := h3 a List.mem_cons_self
      exact ⟨⟨⟨by omega, by omega⟩, ha.2⟩, h2, fun i hi => by have := h1 i hi; omega, fun i hi => h4 i (List.mem_cons_of_mem _ hi)⟩
/-- A node has a leaf as not merged. -/
def hasU (t : List TN) (x i : Nat) : Bool := decide ((i : Int) ∈ (nd t x).un)
/-- What is asked of the Parents above a leaf, the lowest first. -/
def agF (t : List TN) (i : Nat) : Bool → List Nat → Bool
  | _, [] => true
  | b, x :: r => bif (nd t x).kd == 2 then (b || !hasU t x i) && agF t i (hasU t x i) r else agF t i b r
theorem agF_iff {t : List TN} {i : Nat} {p : List Nat} {b : Bool} : agF t i b p = true ↔ (p.Pairwise fun z x => (nd t z).kd = 2 → (nd t x).kd = 2 → hasU t x i = true → hasU t z i = true) ∧ (b = false → ∀ x ∈ p, (nd t x).kd = 2 → hasU t x i = false) := by
  induction p generalizing b with
  | nil => exact ⟨fun _ => ⟨List.Pairwise.nil, fun _ x hx => absurd hx List.not_mem_nil⟩, fun _ => rfl⟩
  | cons x r ih =>
    show (bif (nd t x).kd == 2 then (b || !hasU t x i) && agF t i (hasU t x i) r else agF t i b r) = true ↔ _
    rw [List.pairwise_cons]
    cases hk : ((nd t x).kd == 2) with
    | true =>
      have hk2 : (nd t x).kd = 2 := by simpa using hk
      show ((b || !hasU t x i) && agF t i (hasU t x i) r) = true ↔ _
      rw [Bool.and_eq_true, ih]
      constructor
      · rintro ⟨h1, h2, h3⟩
        refine ⟨⟨fun y hy _ hy2 hy3 => ?_, h2⟩, fun hb y hy hy2 => ?_⟩
        · cases e : hasU t x i with
          | true => rfl
          | false => rw [h3 e y hy hy2] at hy3; cases hy3
        · rw [hb, Bool.false_or, Bool.not_eq_true'] at h1
          rcases List.mem_cons.1 hy with rfl | hy
          · exact h1
          · exact h3 h1 y hy hy2
      · rintro ⟨⟨h1, h2⟩, h3⟩
        refine ⟨?_, h2, fun e y hy hy2 => ?_⟩
        · cases b with
          | true => rfl
          | false => rw [h3 rfl x List.mem_cons_self hk2]; rfl
        · cases e2 : hasU t y i with
          | false => rfl
          | true => rw [h1 y hy hk2 hy2 e2] at e; cases e
    | false =>
      have hk2 : (nd t x).kd ≠ 2 := by simpa using hk
      show agF t i b r = true ↔ _
      rw [ih]
      constructor
      · rintro ⟨h2, h3⟩
        refine ⟨⟨fun y hy h => absurd h hk2, h2⟩, fun hb y hy hy2 => ?_⟩
        rcases List.mem_cons.1 hy with rfl | hy
        · exact absurd hy2 hk2
        · exact h3 hb y hy hy2
      · rintro ⟨⟨h1, h2⟩, h3⟩
        exact ⟨h2, fun hb y hy hy2 => h3 hb y (List.mem_cons_of_mem _ hy) hy2⟩
/-- Of two nodes above a leaf the lower one is under the other one. -/
def pwB : List Nat → Bool
  | [] => true
  | z :: r => r.all (fun x => Mth.underB z x && !Nat.beq z x) && pwB r
theorem pwB_pw {l : List Nat} (h : pwB l = true) : l.Pairwise fun z x => Mth.underB z x = true ∧ z ≠ x := by
  induction l with
  | nil => exact List.Pairwise.nil
  | cons z r ih =>
    have h : (r.all (fun x => Mth.underB z x && !Nat.beq z x) && pwB r) = true := h
    rw [Bool.and_eq_true, List.all_eq_true] at h
    refine List.pairwise_cons.2 ⟨fun x hx => ?_, ih h.2⟩
    have := h.1 x hx
    rw [Bool.and_eq_true] at this
    exact ⟨this.1, fun e => by rw [e, Nat.beq_refl] at this; cases this.2⟩
theorem pathB_all : Mth.allB (fun n x => Nat.ble 1 (x % 2) || pwB (Mth.path x n)) = true := by decide +kernel
theorem path_pw {n i : Nat} (hn : n ∈ Mth.fulls) (hi : i < n) : (Mth.path (2 * i) n).Pairwise fun z x => Mth.underB z x = true ∧ z ≠ x := by
  have h := Mth.allB_at pathB_all hn (show 2 * i < 2 * n - 1 by omega)
  rw [Bool.or_eq_true] at h
  rcases h with h | h
  · have := Nat.le_of_ble_eq_true h; omega
  · exact pwB_pw h
theorem under_lvl {z x : Nat} (h : Mth.underB z x = true) : Mth.lvl z ≤ Mth.lvl x := by
  unfold Mth.underB at h
  rw [Bool.and_eq_true] at h
  exact Nat.le_of_ble_eq_true h.2
/-- The Parents above a leaf agree, just if each that has it as not merged is covered. -/
theorem agree_iff {t : List TN} {n i : Nat} (hn : n ∈ Mth.fulls) (hlen : t.length = 2 * n - 1) (hi : i < n) (hev : (nd t (2 * i)).kd ≠ 2) :
    agF t i true (Mth.path (2 * i) n) = true ↔ ∀ x, x < 2 * n - 1 → (nd t x).kd = 2 → Mth.hasB x i = true → hasU t x i = true → coverB t x i = true := by
  have hpm := fun x hx => path_mem (x := x) hn hi hx
  have hpw := path_pw hn hi
  have hb := fulls_bd hn
  have hpl : ∀ x ∈ Mth.path (2 * i) n, x < 2 * n - 1 := fun x hx => by
    obtain ⟨k, hk, hg⟩ := List.getElem_of_mem hx
    have := (path_fresh (j := k) hn hi hk).2.2
    rw [List.getD_eq_getElem?_getD, List.getElem?_eq_getElem hk, hg] at this
    exact this
  have hul : ∀ z, z < 2 * n - 1 → Mth.underB (2 * i) z = Mth.hasB z i := fun z hz => Mth.under_leaf hn (by omega) hz
  rw [agF_iff]
  generalize Mth.path (2 * i) n = p at hpm hpw hpl
  constructor
  · rintro ⟨hp, _⟩ x hx hx2 hxi hxu
    refine coverB_true fun z hz => covZ_false.2 fun h2 h3 h4 h5 => ?_
    rw [hlen] at hz
    rw [hul z hz] at h4
    have hx0 : x ≠ 2 * i := fun e => hev (e ▸ hx2)
    have hz0 : z ≠ 2 * i := fun e => hev (e ▸ h2)
    obtain ⟨a, ha, hga⟩ := List.getElem_of_mem ((hpm z hz).2 ⟨h4, hz0⟩)
    obtain ⟨b, hb', hgb⟩ := List.getElem_of_mem ((hpm x hx).2 ⟨hxi, hx0⟩)
    have key : hasU t z i = true := by
      rcases Nat.lt_trichotomy a b with h | h | h
      · have := List.pairwise_iff_getElem.1 hp a b ha hb' h
        rw [hga, hgb] at this
        exact this h2 hx2 hxu
      · subst h
        rw [hga] at hgb
        exact absurd hgb h3
      · have := (List.pairwise_iff_getElem.1 hpw b a hb' ha h).1
        rw [hga, hgb] at this
        have e1 := under_lvl this
        have e2 := under_lvl h5
        have i1 := itr_node (by omega : x < 511) hxi
        have i2 := itr_node (by omega : z < 511) h4
        rw [show Mth.lvl x = Mth.lvl z by omega, i2] at i1
        exact absurd i1 h3
    exact of_decide_eq_true key
  · intro h
    refine ⟨?_, fun hf => by cases hf⟩
    refine List.Pairwise.imp_of_mem (fun {z x} hz hx hzx hz2 hx2 hxu => ?_) hpw
    have hzl := hpl z hz
    have hxl := hpl x hx
    have h1 := (hpm x hxl).1 hx
    have h2 := (hpm z hzl).1 hz
    have hc := h x hxl hx2 h1.1 hxu
    have h3 : covZ t x i z = false := by
      have := List.all_eq_true.1 hc z (List.mem_range.2 (by omega))
      simpa using this
    exact decide_eq_true (covZ_false.1 h3 hz2 hzx.2 (by rw [hul z hzl]; exact h2.1) hzx.1)
/-- Members' last one. -/
def ndd (l : List Int) : Nat := bif Nat.beq l.length 0 then 0 else Mth.size ((l.getD (l.length - 1) 0).toNat + 1)
theorem mem_last (t : List TN) (n : Nat) : (memK t n = [] ∧ ∀ i, i < n → lk t i = false) ∨ ∃ L, L < n ∧ lk t L = true ∧ (∀ j, L < j → j < n → lk t j = false) ∧ 0 < (memK t n).length ∧ (memK t n).getD ((memK t n).length - 1) 0 = (L : Int) := by
  induction n with
  | zero => exact .inl ⟨rfl, fun i hi => absurd hi (Nat.not_lt_zero _)⟩
  | succ n ih =>
    rw [memK_succ]
    cases hl : lk t n with
    | true =>
      refine .inr ⟨n, by omega, hl, fun j h1 h2 => absurd h1 (by omega), ?_, ?_⟩
      · show 0 < (memK t n ++ [(n : Int)]).length
        simp
      · show (memK t n ++ [(n : Int)]).getD ((memK t n ++ [(n : Int)]).length - 1) 0 = n
        rw [List.length_append, List.length_singleton, Nat.add_sub_cancel, List.getD_eq_getElem?_getD, List.getElem?_append_right (Nat.le_refl _), Nat.sub_self]; rfl
    | false =>
      show (memK t n ++ [] = [] ∧ _) ∨ ∃ L, L < n + 1 ∧ lk t L = true ∧ (∀ j, L < j → j < n + 1 → lk t j = false) ∧ 0 < (memK t n ++ []).length ∧ (memK t n ++ []).getD ((memK t n ++ []).length - 1) 0 = (L : Int)
      rw [List.append_nil]
      rcases ih with ⟨h1, h2⟩ | ⟨L, h1, h2, h3, h4⟩
      · exact .inl ⟨h1, fun i hi => by
          by_cases c : i = n
          · rw [c]; exact hl
          · exact h2 i (by omega)⟩
      · exact .inr ⟨L, by omega, h2, fun j a b => by
          by_cases c : j = n
          · rw [c]; exact hl
          · exact h3 j a (by omega), h4⟩
theorem size_all : (List.range 257).all (fun m => Mth.fulls.all fun n => Nat.beq m 0 || Nat.blt n m || (Nat.beq (Mth.size m) n == (Nat.beq n 1 || Nat.blt (n / 2) m))) = true := by decide +kernel
theorem size_at {m n : Nat} (hm : 1 ≤ m) (hmn : m ≤ n) (hn : n ∈ Mth.fulls) : Mth.size m = n ↔ (n = 1 ∨ n / 2 < m) := by
  have hb := fulls_bd hn
  have h := List.all_eq_true.1 (List.all_eq_true.1 size_all m (List.mem_range.2 (by omega))) n hn
  rw [Bool.or_eq_true, Bool.or_eq_true] at h
  rcases h with (h | h) | h
  · have := Nat.eq_of_beq_eq_true h; omega
  · have := Nat.le_of_ble_eq_true h; omega
  · have h := eq_of_beq h
    constructor
    · intro e
      rw [e, Nat.beq_refl] at h
      have h := h.symm
      rw [Bool.or_eq_true] at h
      exact h.imp Nat.eq_of_beq_eq_true Nat.le_of_ble_eq_true
    · intro e
      have : (Nat.beq n 1 || Nat.blt (n / 2) m) = true := by
        rw [Bool.or_eq_true]
        exact e.imp (fun e => by rw [e]; rfl) (fun e => Nat.ble_eq_true_of_le e)
      rw [this] at h
      exact Nat.eq_of_beq_eq_true h
theorem ndd_iff {t : List TN} {n : Nat} (hn : n ∈ Mth.fulls) : ndd (memK t n) = n ↔ ((∃ i, i < n ∧ lk t i = true) ∧ (n = 1 ∨ ∃ i, n / 2 ≤ i ∧ i < n ∧ lk t i = true)) := by
  have hb := fulls_bd hn
  rcases mem_last t n with ⟨h1, h2⟩ | ⟨L, h1, h2, h3, h4, h5⟩
  · rw [h1]
    constructor
    · intro e
      have e : 0 = n := e
      omega
    · rintro ⟨⟨i, a, b⟩, _⟩
      rw [h2 i a] at b; cases b
  · have e : ndd (memK t n) = Mth.size (L + 1) := by
      unfold ndd
      rw [nbeq_false (by omega), h5, Int.toNat_natCast]; rfl
    rw [e, size_at (by omega) (by omega) hn]
    constructor
    · intro h
      exact ⟨⟨L, h1, h2⟩, h.imp id fun h => ⟨L, by omega, h1, h2⟩⟩
    · rintro ⟨_, h⟩
      refine h.imp id fun ⟨i, a, b, c⟩ => ?_
      by_cases q : L < i
      · rw [h3 i q b] at c; cases c
      · omega
/-- What the program's Check tells. -/
def shpB (t : List TN) : Bool := !Nat.beq (lvs t.length) 0
def fitsB (t : List TN) : Bool := (List.range t.length).all fun x => fitB t x
def agreeB (t : List TN) (n : Nat) : Bool := (List.range n).all fun i => agF t i true (Mth.path (2 * i) n)
def needB (t : List TN) (n : Nat) : Bool := Nat.beq (ndd (memK t n)) n
theorem fit_iff {t : List TN} {n x : Nat} (hn : n ∈ Mth.fulls) (hlen : t.length = 2 * n - 1) (hx : x < 2 * n - 1) : fitB t x = true ↔
    ((nd t x).kd = 0 → nd t x = tn0) ∧ ((nd t x).kd ≠ 0 → x % 2 = 0 → (nd t x).kd = 1 ∧ (nd t x).un = []) ∧
    ((nd t x).kd ≠ 0 → x % 2 = 1 → (nd t x).kd = 2 ∧ (nd t x).id = 0 ∧ (nd t x).sig = 0 ∧ (nd t x).un.Pairwise (· < ·) ∧ ∀ i ∈ (nd t x).un, ((Mth.lo x : Nat) : Int) ≤ i ∧ i < (Mth.hi x : Int) ∧ lk t i.toNat = true) := by
  by_cases h0 : (nd t x).kd = 0
  · have e : fitB t x = sameNB (nd t x) tn0 := by unfold fitB; rw [show ((nd t x).kd == 0) = true by rw [h0]; rfl]; rfl
    rw [e, sameNB_iff]
    exact ⟨fun h => ⟨fun _ => h, fun h1 => absurd h0 h1, fun h1 => absurd h0 h1⟩, fun h => h.1 h0⟩
  · have hq : ((nd t x).kd == 0) = false := by rw [beq_eq_false_iff_ne]; exact h0
    by_cases h1 : x % 2 = 0
    · have e : fitB t x = leafB (nd t x) := by unfold fitB; rw [hq, h1]; rfl
      rw [e, leafB_iff]
      exact ⟨fun h => ⟨fun h2 => absurd h2 h0, fun _ _ => h, fun _ h2 => by omega⟩, fun h => h.2.1 h0 h1⟩
    · have e : fitB t x = (parB (nd t x) && unfB t (Mth.hi x) (Mth.lo x : Nat) (nd t x).un) := by unfold fitB; rw [hq, show x % 2 = 1 by omega]; rfl
      rw [e, Bool.and_eq_true, unfB_iff]
      unfold parB
      rw [Bool.and_eq_true, Bool.and_eq_true, beq_iff_eq, beq_iff_eq, beq_iff_eq]
      constructor
      · rintro ⟨⟨⟨a, b⟩, c⟩, d, f, g⟩
        exact ⟨fun h => absurd h h0, fun _ h => absurd h h1, fun _ _ => ⟨a, b, c, d, fun i hi => ⟨f i hi, g i hi⟩⟩⟩
      · rintro ⟨_, _, h⟩
        obtain ⟨a, b, c, d, f⟩ := h h0 (by omega)
        exact ⟨⟨⟨a, b⟩, c⟩, d, fun i hi => (f i hi).1, fun i hi => (f i hi).2⟩
theorem fits_may {t : List TN} {n : Nat} (hn : n ∈ Mth.fulls) (hlen : t.length = 2 * n - 1) : (fitsB t = true ∧ agreeB t n = true) ↔ ∀ x, x < 2 * n - 1 → nodeB t x = true := by
  have hb := fulls_bd hn
  constructor
  · rintro ⟨hf, ha⟩ x hx
    have hfit := fun x (hx : x < 2 * n - 1) => (fit_iff hn hlen hx).1 (List.all_eq_true.1 hf x (List.mem_range.2 (by omega)))
    obtain ⟨a, b, c⟩ := hfit x hx
    refine (nodeB_iff hn hlen hx).2 ⟨a, b, fun h0 h1 => ?_⟩
    obtain ⟨c1, c2, c3, c4, c5⟩ := c h0 h1
    refine ⟨c1, c2, c3, c4, fun i hi => ?_⟩
    obtain ⟨d1, d2, d3⟩ := c5 i hi
    have hhi := hi_le hn hx
    obtain ⟨j, rfl⟩ : ∃ j : Nat, i = j := ⟨i.toNat, by omega⟩
    rw [Int.toNat_natCast] at d3
    refine ⟨j, rfl, by omega, by omega, d3, fun z hz h2 h3 h4 h5 => ?_⟩
    have hj : j < n := by omega
    have hag := (agree_iff hn hlen hj (by unfold lk at d3; have := of_decide_eq_true d3; omega)).1 (List.all_eq_true.1 ha j (List.mem_range.2 hj)) x hx c1 (Mth.hasB_iff.2 ⟨by omega, by omega⟩) (decide_eq_true hi)
    have h6 : covZ t x j z = false := by
      have := List.all_eq_true.1 hag z (List.mem_range.2 (by omega))
      simpa using this
    exact covZ_false.1 h6 h2 h3 (by rw [Mth.under_leaf hn (by omega) hz]; exact h4) h5
  · intro h
    have hnd := fun x (hx : x < 2 * n - 1) => (nodeB_iff hn hlen hx).1 (h x hx)
    refine ⟨List.all_eq_true.2 fun x hx => ?_, List.all_eq_true.2 fun i hi => ?_⟩
    · have hx2 : x < 2 * n - 1 := by rw [← hlen]; exact List.mem_range.1 hx
      obtain ⟨a, b, c⟩ := hnd x hx2
      refine (fit_iff hn hlen hx2).2 ⟨a, b, fun h0 h1 => ?_⟩
      obtain ⟨c1, c2, c3, c4, c5⟩ := c h0 h1
      refine ⟨c1, c2, c3, c4, fun i hi => ?_⟩
      obtain ⟨j, rfl, d1, d2, d3, _⟩ := c5 i hi
      exact ⟨by omega, by omega, by rw [Int.toNat_natCast]; exact d3⟩
    · have hi2 := List.mem_range.1 hi
      have hev : (nd t (2 * i)).kd ≠ 2 := fun e => by
        have := ((hnd (2 * i) (by omega)).2.1 (by omega) (by omega)).1
        omega
      refine (agree_iff hn hlen hi2 hev).2 fun x hx hx2 hxi hxu => ?_
      have ho : x % 2 = 1 := by
        by_cases e : x % 2 = 0
        · have := ((hnd x hx).2.1 (by omega) e).1; omega
        · omega
      obtain ⟨c1, c2, c3, c4, c5⟩ := (hnd x hx).2.2 (by omega) ho
      obtain ⟨j, hj, d1, d2, d3, d4⟩ := c5 i (of_decide_eq_true hxu)
      refine coverB_true fun z hz => covZ_false.2 fun h2 h3 h4 h5 => ?_
      rw [hlen] at hz
      exact d4 z hz h2 h3 (by rw [← show i = j by omega, ← Mth.under_leaf hn (by omega) hz]; exact h4) h5
/-- The program's Check and the document's. -/
def pchkB (t : List TN) : Bool := shpB t && fitsB t && agreeB t (lvs t.length) && needB t (lvs t.length)
theorem pchk_eq (t : List TN) : pchkB t = chkB t := by
  rw [Bool.eq_iff_iff, chkB_may]
  unfold pchkB shpB
  rw [Bool.and_eq_true, Bool.and_eq_true, Bool.and_eq_true, Bool.not_eq_true']
  have hsp := lvs_spec t.length
  generalize lvs t.length = n at hsp
  constructor
  · rintro ⟨⟨⟨h0, h1⟩, h2⟩, h3⟩
    obtain ⟨hn, hlen⟩ : n ∈ Mth.fulls ∧ t.length = 2 * n - 1 := by
      rcases hsp with ⟨a, b⟩ | ⟨a, _⟩
      · exact ⟨a, b.symm⟩
      · rw [a] at h0; cases h0
    have hnd := fun x (hx : x < 2 * n - 1) => (nodeB_iff hn hlen hx).1 ((fits_may hn hlen).1 ⟨h1, h2⟩ x hx)
    obtain ⟨a, b⟩ := (ndd_iff hn).1 (Nat.eq_of_beq_eq_true h3)
    exact ⟨⟨hn, hlen, fun x hx h => (hnd x hx).1 h, fun x hx h1 h2 => (hnd x hx).2.1 h1 h2, fun x hx h1 h2 => (hnd x hx).2.2 h1 h2⟩, a, b⟩
  · rintro ⟨m, a, b⟩
    have hb := fulls_bd m.hn
    have hnd := fun x (hx : x < 2 * n - 1) => (nodeB_iff m.hn m.len hx).2 ⟨m.blank x hx, m.leaf x hx, m.par x hx⟩
    obtain ⟨h1, h2⟩ := (fits_may m.hn m.len).2 hnd
    exact ⟨⟨⟨nbeq_false (by omega), h1⟩, h2⟩, by unfold needB; rw [(ndd_iff m.hn).2 ⟨a, b⟩]; exact Nat.beq_refl _⟩
/-- What is left of a tree from which a leaf has gone. -/
theorem trunc_take (f : Nat) : ∀ (u : List TN) (n L : Nat), n ∈ Mth.fulls → u.length = 2 * n - 1 → L < n → lk u L = true → (∀ j, L < j → j < n → lk u j = false) → n ≤ 2 ^ f →
    truncF f u n = u.take (2 * Mth.size (L + 1) - 1) ∧ Mth.size (L + 1) ≤ n ∧ Mth.size (L + 1) ∈ Mth.fulls := by
  induction f with
  | zero =>
    intro u n L hn hlen hL hl hall hf
    have hb := fulls_bd hn
    have hs : Mth.size (L + 1) = n := (size_at (by omega) (by omega) hn).2 (.inl (by omega))
    rw [hs]
    exact ⟨(List.take_of_length_le (l := u) (by omega)).symm, Nat.le_refl _, hn⟩
  | succ f ih =>
    intro u n L hn hlen hL hl hall hf
    have hb := fulls_bd hn
    show (bif decide (1 < n) && !someB u (n / 2) n then truncF f (u.take (2 * (n / 2) - 1)) (n / 2) else u) = _ ∧ _
    cases hc : (decide (1 < n) && !someB u (n / 2) n) with
    | true =>
      rw [Bool.and_eq_true] at hc
      have h1 : 1 < n := of_decide_eq_true hc.1
      have hs : someB u (n / 2) n = false := by have := hc.2; simpa using this
      obtain ⟨g1, g2⟩ := half_fulls hn h1
      have hL2 : L < n / 2 := by
        cases Nat.lt_or_ge L (n / 2) with
        | inl h => exact h
        | inr h => rw [someB_true.2 ⟨L, h, hL, hl⟩] at hs; cases hs
      have hlk : ∀ i, i < n / 2 → lk (u.take (2 * (n / 2) - 1)) i = lk u i := fun i hi => by unfold lk; rw [nd_take (by omega)]
      obtain ⟨k1, k2, k3⟩ := ih (u.take (2 * (n / 2) - 1)) (n / 2) L g1 (by rw [List.length_take]; omega) hL2 (by rw [hlk L hL2]; exact hl) (fun j a b => by rw [hlk j b]; exact hall j a (by omega)) (by rw [Nat.pow_succ] at hf; omega)
      refine ⟨?_, by omega, k3⟩
      show truncF f (u.take (2 * (n / 2) - 1)) (n / 2) = _
      rw [k1, List.take_take, Nat.min_eq_left (by omega)]
    | false =>
      have hs : Mth.size (L + 1) = n := by
        refine (size_at (by omega) (by omega) hn).2 ?_
        by_cases c : 1 < n
        · rw [decide_eq_true c, Bool.true_and] at hc
          have hs : someB u (n / 2) n = true := by simpa using hc
          obtain ⟨i, a, b, d⟩ := someB_true.1 hs
          by_cases q : L < i
          · rw [hall i q b] at d; cases d
          · exact .inr (by omega)
        · exact .inl (by omega)
      rw [hs]
      exact ⟨(List.take_of_length_le (l := u) (by omega)).symm, Nat.le_refl _, hn⟩
end Go.Proofs.YtlmpejfkpidbeaaDoor
end

section
/- Walks of the program's ratchet: leaves, hasShape, isLeaf, isParent, sameNode; the library's Equal. -/
set_option linter.unusedSimpArgs false
set_option linter.unusedVariables false
namespace Go.Proofs.YtlmpejfkpidbeaaDoor
open Go.RowKit
open Rt

theorem pleaves_any {w : World} {v : Value} {t : List TN} (h : RdTs w v t) (hl : t.length ≤ 1000000) : Calls Tryd.prog 46 #[v] w fun e w' => e = .returned (.int .i64 (((t.length + 1) / 2 : Nat) : Int)) ∧ w = w' := by
  obtain ⟨ta, tc, rfl, l1, l2, l3⟩ := h.len
  have l63 : ((t.length : Nat) : Int) ≤ 1000000 := by omega
  go_enter Tryd.func46, Tryd.ntmps46
  go_wp2
  go_ret
  exact ⟨rfl, rfl⟩
/-- In a tree that has a shape. -/
theorem pleaves_of {w : World} {v : Value} {t : List TN} {n : Nat} (h : RdTs w v t) (hn : n ∈ Mth.fulls) (hlen : t.length = 2 * n - 1) : Calls Tryd.prog 46 #[v] w fun e w' => e = .returned (.int .i64 (n : Int)) ∧ w = w' := by
  have hb := fulls_bd hn
  have := pleaves_any h (by omega)
  rw [show (t.length + 1) / 2 = n by omega] at this
  exact this
theorem shp_eq (t : List TN) : shpB t = (treeB (((t.length + 1) / 2 : Nat) : Int) && decide (2 * ((t.length + 1) / 2) - 1 = t.length)) := by
  unfold shpB
  rcases lvs_spec t.length with ⟨h1, h2⟩ | ⟨h1, h2⟩
  · have hb := fulls_bd h1
    rw [nbeq_false (by omega), show (t.length + 1) / 2 = lvs t.length by omega, treeB_mk h1, decide_eq_true h2]; rfl
  · rw [h1]
    cases hb : treeB (((t.length + 1) / 2 : Nat) : Int) with
    | false => rfl
    | true =>
      obtain ⟨_, _, h3⟩ := treeB_true hb
      rw [Int.toNat_natCast] at h3
      rw [decide_eq_false (h2 _ h3)]; rfl
set_option maxHeartbeats 1000000 in
theorem pshape_any {w : World} {v : Value} {t : List TN} (h : RdTs w v t) (hl : t.length ≤ 1000000) : Calls Tryd.prog 33 #[v] w fun e w' => e = .returned (.bool (shpB t)) ∧ Kept w w' := by
  have HL := Lib.hid (pleaves_any h hl)
  have HW := Lib.hid (Width_any (((t.length + 1) / 2 : Nat) : Int) w ⟨by omega, by omega⟩)
  have HB := Shut.mk (shp_eq t)
  obtain ⟨ta, tc, rfl, l1, l2, l3⟩ := h.len
  have l63 : ((t.length : Nat) : Int) ≤ 1000000 := by omega
  have he : decide (2 * ((t.length + 1) / 2) - 1 = t.length) = ((2 * (((t.length + 1) / 2 : Nat) : Int) - 1) == (t.length : Int)) ∨ t.length = 0 := by
    by_cases h0 : t.length = 0
    · exact .inr h0
    · refine .inl ?_
      rw [Bool.eq_iff_iff, decide_eq_true_iff, beq_iff_eq]
      omega
  have ht0 : t.length = 0 → treeB (((t.length + 1) / 2 : Nat) : Int) = false := fun e => by rw [e]; rfl
  generalize ((t.length + 1) / 2 : Nat) = m at HL HW HB he ht0
  cases hb : treeB (m : Int) with
  | false =>
    rw [hb] at HW HB
    have HB2 := Shut.mk (show shpB t = false from HB.out)
    clear hb he ht0 HB
    go_enter Tryd.func33, Tryd.ntmps33
    go_wp2_with fail
    (with_reducible refine HL.out.mono ?_); rintro e w1 ⟨rfl, rfl⟩
    go_wp2_with fail
    (with_reducible refine HW.out.mono ?_); rintro e w1 ⟨rfl, k⟩
    simp only [pk, er, cond_false, cond_true]
    go_wp2
    go_ret
    exact ⟨by rw [HB2.out]; rfl, k⟩
  | true =>
    rw [hb] at HW HB
    have he := he.resolve_right fun e => by rw [ht0 e] at hb; cases hb
    have HB2 := Shut.mk (show shpB t = ((2 * (m : Int) - 1) == (t.length : Int)) by rw [HB.out, he]; rfl)
    generalize hq : ((2 * (m : Int) - 1) == (t.length : Int)) = q at HB2
    clear hb he ht0 HB
    go_enter Tryd.func33, Tryd.ntmps33
    go_wp2_with fail
    (with_reducible refine HL.out.mono ?_); rintro e w1 ⟨rfl, rfl⟩
    go_wp2_with fail
    (with_reducible refine HW.out.mono ?_); rintro e w1 ⟨rfl, k⟩
    simp only [pk, er, cond_false, cond_true]
    go_wp2
    go_ret
    exact ⟨by rw [HB2.out]; rfl, k⟩
set_option maxHeartbeats 1000000 in
theorem pleaf_any {w : World} {v : Value} {d : TN} (h : RdTn w v d) : Calls Tryd.prog 43 #[v] w fun e w' => e = .returned (.bool (leafB d)) ∧ Kept w w' := by
  obtain ⟨lv, rfl, hr⟩ := h
  obtain ⟨la, lc, rfl, l1, l2, l3⟩ := hr.len
  have HB := Shut.mk (show leafB d = (d.kd == 1 && ((d.un.length : Int) == 0)) by unfold leafB; rw [beq0])
  cases h1 : (d.kd == 1) with
  | false =>
    have HB2 := Shut.mk (show leafB d = false by rw [HB.out, h1]; rfl)
    go_enter Tryd.func43, Tryd.ntmps43
    go_wp2
    go_ret
    exact ⟨by rw [HB2.out]; rfl, (Kept.refl _).alloc _⟩
  | true =>
    have HB2 := Shut.mk (show leafB d = ((d.un.length : Int) == 0) by rw [HB.out, h1]; rfl)
    generalize hb : ((d.un.length : Int) == 0) = b at HB2
    go_enter Tryd.func43, Tryd.ntmps43
    go_wp2
    go_ret
    exact ⟨by rw [HB2.out]; rfl, (Kept.refl _).alloc _⟩
set_option maxHeartbeats 2000000 in
theorem ppar_any {w : World} {v : Value} {d : TN} (h : RdTn w v d) : Calls Tryd.prog 61 #[v] w fun e w' => e = .returned (.bool (parB d)) ∧ Kept w w' := by
  obtain ⟨lv, rfl, hr⟩ := h
  have HB := Shut.mk (show parB d = (d.kd == 2 && d.id == 0 && d.sig == 0) from rfl)
  cases h1 : (d.kd == 2) with
  | false =>
    have HB2 := Shut.mk (show parB d = false by rw [HB.out, h1]; rfl)
    go_enter Tryd.func61, Tryd.ntmps61
    go_wp2
    go_ret
    exact ⟨by rw [HB2.out]; rfl, (Kept.refl _).alloc _⟩
  | true =>
    cases h2 : (d.id == 0) with
    | false =>
      have HB2 := Shut.mk (show parB d = false by rw [HB.out, h1, h2]; rfl)
      go_enter Tryd.func61, Tryd.ntmps61
      go_wp2
      go_ret
      exact ⟨by rw [HB2.out]; rfl, (Kept.refl _).alloc _⟩
    | true =>
      have HB2 := Shut.mk (show parB d = (d.sig == 0) by rw [HB.out, h1, h2]; rfl)
      generalize hb : (d.sig == 0) = b at HB2
      go_enter Tryd.func61, Tryd.ntmps61
      go_wp2
      go_ret
      exact ⟨by rw [HB2.out]; rfl, (Kept.refl _).alloc _⟩
set_option maxHeartbeats 4000000 in
set_option maxRecDepth 100000 in
theorem equal_any {w : World} {u v : Value} {a b : List Int} (ha : RdI w u a) (hb : RdI w v b) :
    Calls Tryd.prog 67 #[u, v] w fun e w' => e = .returned (.bool (decide (a = b))) ∧ Kept w w' := by
  obtain ⟨aa, ac, rfl, a1, a2, a3⟩ := ha.len
  obtain ⟨ba, bc, rfl, b1, b2, b3⟩ := hb.len
  have a63 : ((a.length : Nat) : Int) ≤ 9223372036854775807 := by unfold maxLen at a2; omega
  by_cases hl : a.length = b.length
  · have hd : ((a.length : Int) != (b.length : Int)) = false := by simp [hl]
    have HL := Shut.mk hl
    rw [← hl] at hb b1 hd ⊢
    clear hl
    go_enter Tryd.func67, Tryd.ntmps67
    go_wp2
    go_loopw [13] (fun i wr => ∃ k : Nat, k ≤ a.length ∧ i = .int .i64 k ∧ (∀ j, j < k → a.getD j 0 = b.getD j 0) ∧ Kept w wr) (fun i _ => a.length - (intOf i).toNat)
    case atStart => exact ⟨0, Nat.zero_le _, rfl, fun j hj => absurd hj (Nat.not_lt_zero _), Kept.refl _⟩
    case round =>
      obtain ⟨k, hk0, rfl, hsame, hk⟩ := hrel
      have HS := Shut.mk hsame
      clear hsame
      by_cases hlt : k < a.length
      · obtain ⟨rb, ro, rc, hrv, _, _, hrb, hcl⟩ := ha.addr (by omega)
        simp only [Value.slice.injEq] at hrv
        obtain ⟨rfl, _, rfl⟩ := hrv
        have hcb := hb
        rw [show (Value.slice ba a.length bc) = Value.slice ba b.length bc by rw [HL.out]] at hcb
        obtain ⟨sb, so, sc, hsv, _, _, hsb, hcl2⟩ := hcb.addr (by have := HL.out; omega)
        simp only [Value.slice.injEq] at hsv
        obtain ⟨rfl, _, rfl⟩ := hsv
        have x1 := hk.cell (p := ⟨rb, ro + k, none⟩) hrb |>.trans (hcl k hlt)
        have x2 := hk.cell (p := ⟨sb, so + k, none⟩) hsb |>.trans (hcl2 k (by have := HL.out; omega))
        clear hcl hcl2 hcb
        have k0 : (0 : Int) ≤ (k : Int) := by omega
        have k1 : (k : Int) < (a.length : Int) := by omega
        generalize hx : a.getD k 0 = x at x1
        generalize hy : b.getD k 0 = y at x2
        have HX := Shut.mk hx
        have HY := Shut.mk hy
        clear hx hy
        by_cases hxy : x = y
        · subst hxy
          go_wp2
          go_quiet (fail)
          go_wp2
          go_roundw
          case rel => exact ⟨k + 1, hlt, rfl, fun j hj => by
            by_cases c : j < k
            · exact HS.out j c
            · obtain rfl : j = k := by omega
              rw [HX.out, HY.out], hk.drewN _⟩
          case measure => simp [intOf]; omega
        · have hd2 : (x != y) = true := by simpa using hxy
          have hne : ¬ a = b := fun e => hxy (by rw [← HX.out, ← HY.out, e])
          have HN := Shut.mk hne
          clear hne hxy
          go_wp2
          go_quiet (fail)
          go_wp2
          go_ret
          exact ⟨by rw [decide_eq_false HN.out]; rfl, hk.drewN _⟩
      · obtain rfl : k = a.length := by omega
        have he := getD_ext HL.out HS.out
        have HE := Shut.mk he
        clear he
        go_wp2
        go_ret
        exact ⟨by rw [decide_eq_true HE.out]; rfl, hk⟩
  · have hd : ((a.length : Int) != (b.length : Int)) = true := by simp; omega
    have hne : ¬ a = b := fun e => hl (by rw [e])
    have HN := Shut.mk hne
    clear hne hl
    go_enter Tryd.func67, Tryd.ntmps67
    go_wp2
    go_ret
    exact ⟨by rw [decide_eq_false HN.out]; rfl, Kept.refl _⟩
set_option maxHeartbeats 4000000 in
theorem psameN_any {w : World} {u v : Value} {a b : TN} (ha : RdTn w u a) (hb : RdTn w v b) : Calls Tryd.prog 41 #[u, v] w fun e w' => e = .returned (.bool (sameNB a b)) ∧ Kept w w' := by
  obtain ⟨lv, rfl, hr⟩ := ha
  obtain ⟨mv, rfl, hs⟩ := hb
  have HBB := Shut.mk (show sameNB a b = (a.kd == b.kd && a.id == b.id && a.enc == b.enc && a.sig == b.sig && a.hash == b.hash && decide (a.un = b.un)) from rfl)
  have hk : Kept w ((w.alloc (.cells #[.int .i64 a.kd, .int .i64 a.id, .int .i64 a.enc, .int .i64 a.sig, .int .i64 a.hash, lv] 32)).alloc (.cells #[.int .i64 b.kd, .int .i64 b.id, .int .i64 b.enc, .int .i64 b.sig, .int .i64 b.hash, mv] 32)) := ((Kept.refl w).alloc _).alloc _
  have HSI := Lib.hid (equal_any (hr.kept hk) (hs.kept hk))
  generalize hdd : decide (a.un = b.un) = dd at HBB HSI
  clear hr hs hdd
  cases c0 : (a.kd == b.kd) with
  | false =>
    have HB2 := Shut.mk (show sameNB a b = false by rw [HBB.out]; simp only [c0, Bool.and_false, Bool.false_and])
    go_enter Tryd.func41, Tryd.ntmps41
    go_wp2
    go_ret
    exact ⟨by rw [HB2.out]; rfl, hk⟩
  | true =>
    cases c1 : (a.id == b.id) with
    | false =>
      have HB2 := Shut.mk (show sameNB a b = false by rw [HBB.out]; simp only [c0, c1, Bool.and_false, Bool.false_and])
      go_enter Tryd.func41, Tryd.ntmps41
      go_wp2
      go_ret
      exact ⟨by rw [HB2.out]; rfl, hk⟩
    | true =>
      cases c2 : (a.enc == b.enc) with
      | false =>
        have HB2 := Shut.mk (show sameNB a b = false by rw [HBB.out]; simp only [c0, c1, c2, Bool.and_false, Bool.false_and])
        go_enter Tryd.func41, Tryd.ntmps41
        go_wp2
        go_ret
        exact ⟨by rw [HB2.out]; rfl, hk⟩
      | true =>
        cases c3 : (a.sig == b.sig) with
        | false =>
          have HB2 := Shut.mk (show sameNB a b = false by rw [HBB.out]; simp only [c0, c1, c2, c3, Bool.and_false, Bool.false_and])
          go_enter Tryd.func41, Tryd.ntmps41
          go_wp2
          go_ret
          exact ⟨by rw [HB2.out]; rfl, hk⟩
        | true =>
          cases c4 : (a.hash == b.hash) with
          | false =>
            have HB2 := Shut.mk (show sameNB a b = false by rw [HBB.out]; simp only [c0, c1, c2, c3, c4, Bool.and_false, Bool.false_and])
            go_enter Tryd.func41, Tryd.ntmps41
            go_wp2
            go_ret
            exact ⟨by rw [HB2.out]; rfl, hk⟩
          | true =>
            have HB2 := Shut.mk (show sameNB a b = dd by rw [HBB.out]; simp only [c0, c1, c2, c3, c4, Bool.true_and])
            go_enter Tryd.func41, Tryd.ntmps41
            go_wp2_with fail
            refine HSI.out.mono ?_; rintro e w' ⟨rfl, q⟩
            go_wp2
            go_ret
            exact ⟨by rw [HB2.out]; rfl, hk.trans q⟩

end Go.Proofs.YtlmpejfkpidbeaaDoor
end

section
/- Walks: Size. -/
set_option linter.unusedSimpArgs false
set_option linter.unusedVariables false
namespace Go.Proofs.YtlmpejfkpidbeaaDoor
open Go.RowKit
theorem size_num {n : Nat} (h1 : 1 ≤ n) (h2 : n ≤ 256) : wrap64 (2 ^ Lib.bitLen (n - 1)) = (Mth.size n : Nat) ∧ Lib.bitLen (n - 1) ≤ 8 := by
  have h : (List.range 257).all (fun n => Nat.beq n 0 || ((wrap64 (2 ^ Lib.bitLen (n - 1)) == ((Mth.size n : Nat) : Int)) && Nat.ble (Lib.bitLen (n - 1)) 8)) = true := by decide +kernel
  have := List.all_eq_true.1 h n (List.mem_range.2 (by omega))
  rw [Bool.or_eq_true, Bool.and_eq_true] at this
  rcases this with e | ⟨e1, e2⟩
  · have := Nat.eq_of_beq_eq_true e; omega
  · exact ⟨eq_of_beq e1, Nat.le_of_ble_eq_true e2⟩
theorem Size1_any (b : Nat) (n : Nat) (h1 : 1 ≤ n) (h2 : n ≤ 256) (w : World) (hc : w.cell? ⟨b, 0, none⟩ = some (.int .i64 n)) :
    Calls Tryd.prog 95 #[.pointer (some ⟨b, 0, none⟩)] w fun e w' => e = .returned (.int .i64 (Mth.size n : Nat)) ∧ Kept w w' := by
  obtain ⟨m1, m2⟩ := size_num h1 h2
  have hq := Tryd.bits_Len ((n : Int) - 1) w (by omega) (by omega)
  rw [show ((n : Int) - 1).toNat = n - 1 by omega] at hq
  generalize Lib.bitLen (n - 1) = l at hq m1 m2
  have HN := Shut.mk m1
  have HQ := Lib.hid hq
  clear hq m1
  have hn0 : (1 : Int) ≤ (n : Int) := by omega
  have hn1 : (n : Int) ≤ 256 := by omega
  have hl0 : (0 : Int) ≤ (l : Int) := by omega
  have hl1 : (l : Int) ≤ 8 := by omega
  go_enter Tryd.func95, Tryd.ntmps95
  go_wp2_with (go_at_call 96; refine HQ.out.mono ?_; rintro e w' ⟨rfl, rfl⟩)
  go_ret
  exact ⟨by rw [← HN.out]; rfl, Kept.refl _⟩
theorem Size_any (n : Int) (w : World) (hx : I64 n) : Calls Tryd.prog 80 #[.int .i64 n] w fun e w' => e = .returned (.tuple #[.int .i64 (pk (szB n) (Mth.size n.toNat : Nat)), .int .i64 (er (szB n))]) ∧ Kept w w' := by
  have hk0 : Kept w (w.alloc (.cells #[.int .i64 n] 3)) := (Kept.refl w).alloc _
  obtain ⟨hl, hu⟩ := hx
  by_cases h0 : 0 < n
  · have hd0 : decide (0 < n) = true := decide_eq_true h0
    by_cases h1 : n ≤ 256
    · have hd1 : decide (n ≤ 256) = true := decide_eq_true h1
      have HB := Shut.mk (show szB n = true by unfold szB; rw [hd0, hd1]; rfl)
      obtain ⟨m, rfl⟩ : ∃ m : Nat, n = m := ⟨n.toNat, by omega⟩
      have HT := Lib.hid (told_val (g := 95) (enters_of Tryd.func95 (by kernel_rfl) rfl) (Size1_any w.heap.size m (by omega) (by omega) (w.alloc (.cells #[.int .i64 m] 3)) (cell_box _ _ _)))
      go_enter Tryd.func80, Tryd.ntmps80
      go_wp2_with (go_at_call 68; refine HT.out.mono ?_; rintro e w' ⟨rfl, hk⟩)
      go_ret2
      exact ⟨by rw [HB.out]; rfl, hk0.trans hk⟩
    · have hd1 : decide (n ≤ 256) = false := decide_eq_false h1
      have HB := Shut.mk (show szB n = false by unfold szB; rw [hd1, Bool.and_false])
      go_enter Tryd.func80, Tryd.ntmps80
      go_wp2_with (go_at_call 68; refine (told_no _ _).mono ?_; rintro e w' ⟨rfl, rfl⟩)
      go_ret2
      exact ⟨by rw [HB.out]; rfl, hk0⟩
  · have hd0 : decide (0 < n) = false := decide_eq_false h0
    have HB := Shut.mk (show szB n = false by unfold szB; rw [hd0, Bool.false_and])
    go_enter Tryd.func80, Tryd.ntmps80
    go_wp2_with (go_at_call 68; refine (told_no _ _).mono ?_; rintro e w' ⟨rfl, rfl⟩)
    go_ret2
    exact ⟨by rw [HB.out]; rfl, hk0⟩
end Go.Proofs.YtlmpejfkpidbeaaDoor
end

section
/- Walks of the program's ratchet: members, free, needed, needsAll. -/
set_option linter.unusedSimpArgs false
set_option linter.unusedVariables false
namespace Go.Proofs.YtlmpejfkpidbeaaDoor
open Go.RowKit
open Rt

set_option maxHeartbeats 8000000 in
set_option maxRecDepth 100000 in
theorem pmembers_any {w : World} {tv : Value} {t : List TN} {n : Nat} (ht : RdTs w tv t) (hn : n ∈ Mth.fulls) (hlen : t.length = 2 * n - 1) :
    Calls Tryd.prog 42 #[tv] w (MemPost w (memK t n)) := by
  have HLv := Lib.hid (pleaves_of ht hn hlen)
  have HNL := Shut.mk hlen
  have hnb := fulls_bd hn
  obtain ⟨ta, tc, rfl, t1, t2, t3⟩ := ht.len
  have n0 : (1 : Int) ≤ (n : Int) := by omega
  have n1 : (n : Int) ≤ 256 := by omega
  clear hlen hn
  go_enter Tryd.func42, Tryd.ntmps42
  go_wp2_with fail
  (with_reducible refine HLv.out.mono ?_); rintro e w2 ⟨rfl, rfl⟩
  go_wp2
  go_loopw [3, 7] (fun o c wr => ∃ k : Nat, k ≤ n ∧ c = .int .i64 k ∧ (∃ v, v = o ∧ OwnI w.heap.size wr v (memK t k)) ∧ Kept w wr) (fun _ c _ => n - (intOf c).toNat)
  case atStart => exact ⟨0, Nat.zero_le _, rfl, ⟨_, rfl, (OwnI.nil _ _ : OwnI _ _ _ (memK t 0))⟩, Kept.refl _⟩
  case round =>
    obtain ⟨k, hk, rfl, ⟨v, rfl, ho⟩, hkw⟩ := hrel
    by_cases hlt : k < n
    · obtain ⟨zb, zo, zc, za, zcc, hzv, hzat, hzun⟩ := ht.at (k := 2 * k) (by have := HNL.out; omega)
      simp only [Value.slice.injEq] at hzv
      obtain ⟨rfl, -, rfl⟩ := hzv
      have hz0 := (hzat _ hkw).1
      have HLk := Shut.mk (lk_nd t k)
      have HSu := Shut.mk (memK_succ t k)
      have hle := memK_len t k
      have k0 : (0 : Int) ≤ (k : Int) := by omega
      have k1 : (k : Int) < (n : Int) := by omega
      have k2 : 2 * (k : Int) < (t.length : Int) := by have := HNL.out; omega
      generalize (nd t (2 * k)).kd = kd at hz0 HLk
      clear hzat
      cases hkd : (kd == 1) with
      | false =>
        have HS2 := Shut.mk (show memK t (k + 1) = memK t k by rw [HSu.out, HLk.out, hkd]; exact List.append_nil _)
        go_wp2
        go_roundw
        case rel => exact ⟨k + 1, hlt, rfl, ⟨_, rfl, by rw [HS2.out]; exact ho⟩, hkw⟩
        case measure => simp [intOf]; omega
      | true =>
        have HS2 := Shut.mk (show memK t (k + 1) = memK t k ++ [(k : Int)] by rw [HSu.out, HLk.out, hkd]; rfl)
        have hk3 := hkw.alloc (.cells #[.int .i64 (k : Int)] 3)
        have o2 := Ownv.kept ho ((Kept.refl wr).alloc (.cells #[.int .i64 (k : Int)] 3))
        have hlen : (memK t k).length + 1 ≤ 10000000000 := by omega
        have hsz := hkw.size
        go_wp2_with (at_builtin; refine go_appi w.heap.size v (memK t k) rfl o2 _ [(k : Int)] rfl (OwnI.rd (OwnI.lit1 wr _)) hlen (by simp; omega) ?_; intro v6 w6 o6 t6 l6; have k6 : Kept w w6 := Turn.keptOf hk3 t6 (fun b hb => (Ownv.lt o2 hb).2))
        go_roundw
        case rel => exact ⟨k + 1, hlt, rfl, ⟨_, rfl, by rw [HS2.out]; exact o6⟩, k6⟩
        case measure => simp [intOf]; omega
    · have e : k = n := by omega
      subst e
      go_wp2
      go_ret
      exact ⟨_, rfl, ho, hkw⟩
set_option maxHeartbeats 4000000 in
set_option maxRecDepth 100000 in
theorem pfree_any {w : World} {tv : Value} {t : List TN} {n : Nat} (ht : RdTs w tv t) (m : MayN t n) :
    Calls Tryd.prog 44 #[tv] w fun e w' => e = .returned (.int .i64 (fr t n : Nat)) ∧ w = w' := by
  have HLv := Lib.hid (pleaves_of ht m.hn m.len)
  have HNL := Shut.mk m.len
  have hnb := fulls_bd m.hn
  have HM := Shut.mk (show ∀ k, k < n → ((nd t (2 * k)).kd == 0) = !lk t k from fun k hk => by
    rcases lk_leaf m hk with h | ⟨h, h0⟩
    · rw [h]
      unfold lk at h
      rw [of_decide_eq_true h]; rfl
    · rw [h, h0]; rfl)
  obtain ⟨ta, tc, rfl, t1, t2, t3⟩ := ht.len
  have n0 : (1 : Int) ≤ (n : Int) := by omega
  have n1 : (n : Int) ≤ 256 := by omega
  clear m
  go_enter Tryd.func44, Tryd.ntmps44
  go_wp2_with fail
  (with_reducible refine HLv.out.mono ?_); rintro e w2 ⟨rfl, rfl⟩
  go_wp2
  go_loop [8] (fun c => ∃ k : Nat, k ≤ n ∧ c = .int .i64 k ∧ (∀ j, j < k → lk t j = true)) (fun c => n - (intOf c).toNat)
  case atStart => exact ⟨0, Nat.zero_le _, rfl, fun j hj => absurd hj (Nat.not_lt_zero _)⟩
  case round =>
    obtain ⟨k, hk, rfl, hall⟩ := hrel
    have HAll := Shut.mk hall
    clear hall
    by_cases hlt : k < n
    · obtain ⟨zb, zo, zc, za, zcc, hzv, hzat, hzun⟩ := ht.at (k := 2 * k) (by have := HNL.out; omega)
      simp only [Value.slice.injEq] at hzv
      obtain ⟨rfl, -, rfl⟩ := hzv
      have hz0 := (hzat _ (Kept.refl _)).1
      have HLk := Shut.mk (HM.out k hlt)
      have k0 : (0 : Int) ≤ (k : Int) := by omega
      have k1 : (k : Int) < (n : Int) := by omega
      have k2 : 2 * (k : Int) < (t.length : Int) := by have := HNL.out; omega
      generalize (nd t (2 * k)).kd = kd at hz0 HLk
      clear hzat
      cases hkd : (kd == 0) with
      | false =>
        have HL1 := Shut.mk (show lk t k = true by have := HLk.out; rw [hkd] at this; simpa using this.symm)
        go_wp2
        go_round
        case rel => exact ⟨k + 1, hlt, rfl, fun j hj => by
          by_cases c : j = k
          · rw [c]; exact HL1.out
          · exact HAll.out j (by omega)⟩
        case measure => simp [intOf]; omega
      | true =>
        have hl0 : lk t k = false := by have := HLk.out; rw [hkd] at this; simpa using this.symm
        have HF := Shut.mk (fr_of hk HAll.out (.inr hl0))
        clear hl0
        go_wp2
        go_ret
        exact ⟨by rw [HF.out]; rfl, rfl⟩
    · have e : k = n := by omega
      have HF := Shut.mk (show fr t n = n from fr_of (Nat.le_refl _) (by rw [← e]; exact HAll.out) (.inl rfl))
      have k9 : ¬ (k : Int) < (n : Int) := by omega
      clear e
      go_wp2
      go_ret
      exact ⟨by rw [HF.out]; rfl, rfl⟩
set_option maxHeartbeats 4000000 in
theorem pneeded_any {w : World} {tv : Value} {t : List TN} {n : Nat} (ht : RdTs w tv t) (hn : n ∈ Mth.fulls) (hlen : t.length = 2 * n - 1) :
    Calls Tryd.prog 57 #[tv] w fun e w' => e = .returned (.int .i64 (ndd (memK t n) : Nat)) ∧ Kept w w' := by
  have HM := Lib.hid (pmembers_any ht hn hlen)
  have hnb := fulls_bd hn
  have hml := memK_len t n
  have hla := mem_last t n
  have HS := Lib.hid (fun W => Size_any ((memK t n).getD ((memK t n).length - 1) 0 + 1) W)
  have HD := Shut.mk (show ndd (memK t n) = bif Nat.beq (memK t n).length 0 then 0 else Mth.size (((memK t n).getD ((memK t n).length - 1) 0).toNat + 1) from rfl)
  generalize memK t n = l at HM hml hla HS HD ⊢
  by_cases h0 : l.length = 0
  · have HD2 := Shut.mk (show ndd l = 0 by rw [HD.out, h0]; rfl)
    have hb : ((l.length : Int) == 0) = true := by rw [beq_iff_eq]; omega
    clear hla HD
    go_enter Tryd.func57, Tryd.ntmps57
    go_wp2_with fail
    (with_reducible refine HM.out.mono ?_); rintro e w2 ⟨v, rfl, ho, k⟩
    obtain ⟨a, c, rfl, _, _, _⟩ := (OwnI.rd ho).len
    clear h0
    go_wp2
    go_ret
    exact ⟨by rw [HD2.out]; rfl, k⟩
  · have hb : ((l.length : Int) == 0) = false := by rw [beq_eq_false_iff_ne]; omega
    obtain ⟨L, hL, _, _, _, hlast⟩ := hla.resolve_left (fun h => h0 (by rw [h.1]; rfl))
    have HD2 := Shut.mk (show ndd l = Mth.size (L + 1) by rw [HD.out, nbeq_false h0, hlast, Int.toNat_natCast]; rfl)
    rw [hlast] at HS
    have hsz : szB ((L : Int) + 1) = true := by unfold szB; rw [decide_eq_true (by omega), decide_eq_true (by omega)]; rfl
    have HS2 : Hid (∀ W, Calls Tryd.prog 80 #[.int .i64 ((L : Int) + 1)] W fun e w' => e = .returned (.tuple #[.int .i64 (Mth.size (L + 1) : Nat), .int .i64 0]) ∧ Kept W w') := Lib.hid (fun W => by
      have := HS.out W ⟨by omega, by omega⟩
      rw [hsz] at this
      exact this)
    have L0 : (0 : Int) ≤ (L : Int) := by omega
    have L1 : (L : Int) ≤ 255 := by omega
    have l1 : (1 : Int) ≤ (l.length : Int) := by omega
    have l2 : (l.length : Int) ≤ 256 := by omega
    have hl1 : l.length - 1 < l.length := by omega
    have HLast := Shut.mk hlast
    have H0 := Shut.mk h0
    clear HD HS hsz hlast h0
    go_enter Tryd.func57, Tryd.ntmps57
    go_wp2_with fail
    (with_reducible refine HM.out.mono ?_); rintro e w2 ⟨v, rfl, ho, k⟩
    obtain ⟨rb, ro, rc, rfl, _, _, hrb, hcl⟩ := (OwnI.rd ho).addr (by omega)
    have q0 := hcl (l.length - 1) hl1
    rw [HLast.out] at q0
    have hsub : ((l.length : Int) - 1) = ((l.length - 1 : Nat) : Int) := by omega
    generalize l.length - 1 = j at q0 hsub hl1
    have hnat : ((l.length : Int) - 1).toNat = j := by omega
    clear hcl
    go_wp2_with fail
    (with_reducible refine (HS2.out _).mono ?_); rintro e w3 ⟨rfl, k3⟩
    go_wp2
    go_ret
    exact ⟨by rw [HD2.out]; rfl, k.trans k3⟩
theorem nat_beq (a b : Nat) : ((a : Int) == (b : Int)) = Nat.beq a b := by
  rw [Bool.eq_iff_iff, beq_iff_eq, Nat.beq_eq]
  omega
set_option maxHeartbeats 2000000 in
theorem pneedsAll_any {w : World} {tv : Value} {t : List TN} {n : Nat} (ht : RdTs w tv t) (hn : n ∈ Mth.fulls) (hlen : t.length = 2 * n - 1) :
    Calls Tryd.prog 36 #[tv] w fun e w' => e = .returned (.bool (needB t n)) ∧ Kept w w' := by
  have HN := Lib.hid (pneeded_any ht hn hlen)
  have HL := Lib.hid (fun W (k : Kept w W) => pleaves_of (ht.kept k) hn hlen)
  have HB := Shut.mk (show needB t n = ((ndd (memK t n) : Int) == (n : Int)) by unfold needB; rw [nat_beq])
  generalize ndd (memK t n) = d at HN HB
  generalize hq : ((d : Int) == (n : Int)) = q at HB
  obtain ⟨ta, tc, rfl, t1, t2, t3⟩ := ht.len
  clear hlen hn
  go_enter Tryd.func36, Tryd.ntmps36
  go_wp2_with fail
  (with_reducible refine HN.out.mono ?_); rintro e w2 ⟨rfl, k⟩
  go_wp2_with fail
  (with_reducible refine (HL.out _ k).mono ?_); rintro e w3 ⟨rfl, rfl⟩
  go_wp2
  go_ret
  exact ⟨by rw [HB.out]; rfl, k⟩
end Go.Proofs.YtlmpejfkpidbeaaDoor
end
