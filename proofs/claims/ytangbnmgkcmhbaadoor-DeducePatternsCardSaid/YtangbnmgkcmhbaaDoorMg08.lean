/- Texts of one proof, put together: PcN, PcO, HelpA, HelpB, MoreT. -/
import Derived.Test.YtangbnmgkcmhbaaDoorMg06
import Derived.Test.YtangbnmgkcmhbaaDoorMg07
import Derived.Test.YtangbnmgkcmhbaaDoorMg05
import Derived.Test.YtangbnmgkcmhbaaDoorMg03
section
/- patterns. -/
set_option linter.unusedSimpArgs false
set_option linter.unusedVariables false
namespace Go.Proofs.YtangbnmgkcmhbaaDoor
open Go.RowKit Go.Maps

theorem go_mkints {w : World} {ops : Array Oper} {rest : List Oper} {a : Act} {Q : Exit → Act → World → Prop} {d : Option Tmp} {ty : TypeId} {ps : String} {af : Array Edge} {l c : Operand}
    (n : Nat) (L : Int) (hl : a.eval l = .int .i64 L) (hc : a.eval c = .int .i64 L) (hL : L = (n : Int)) (h1 : n ≤ 1000000000)
    (hK : ∀ w', OwnI w.heap.size w' (.slice (some ⟨w.heap.size, 0, none⟩) n n) (List.replicate n 0) → Kept w w' → w.heap.size < w'.heap.size → wpList Tryd.prog ops Q rest (a.put d (.slice (some ⟨w.heap.size, 0, none⟩) n n)) w') :
    wpList Tryd.prog ops Q (⟨d, .makeSlice 23 l c, ty, ps, af, none⟩ :: rest) a w := by
  obtain ⟨i0, hi, hz0, hz1, hz2⟩ := info_parts Tryd.infoInt
  refine wpList_make_full w rfl l c 23 rfl w.heap.size 3 i0 (.int .i64 0) 1 Tryd.underlying23 hi hz0 hz1 .i64 .i64 L L n hl hc hL hL (by rw [hz2]; omega) (by unfold maxLen; omega) (Nat.le_refl _) ?_
  intro w' ho hg
  have hO : OwnI w.heap.size w' (.slice (some ⟨w.heap.size, 0, none⟩) n n) (List.replicate n 0) := by
    unfold OwnI Ownv
    rw [List.length_replicate]
    have e : (madeCells (Value.int .i64 0).cells (n * 1)).toList = (List.replicate n (0 : Int)).map (Value.int .i64) := by
      rw [List.map_replicate]
      refine List.ext_getElem? fun q => ?_
      by_cases hq : q < n
      · simp [madeCells, Value.cells, hq, List.getElem?_replicate, Nat.mod_one]
      · rw [List.getElem?_eq_none (by simp [madeCells]; omega), List.getElem?_eq_none (by simp; omega)]
    rw [← e]
    exact ho
  have hk : Kept w w' := (Below.refl w.heap.size w).grown hg (Nat.le_refl _) fun k hk => by cases hk
  refine hK w' hO hk ?_
  rcases hO.2 with ⟨hh, _⟩ | ⟨g, cap, cur, hv, _, hgg, _⟩
  · cases hh
  · simp only [Value.slice.injEq, Option.some.injEq, Addr.mk.injEq] at hv
    obtain ⟨⟨rfl, _⟩, _, rfl⟩ := hv
    exact (Array.getElem?_eq_some_iff.1 hgg).1

/-- Numbers so far, and zeros. -/
def partX (xs : List Int) (n : Nat) : List Int := xs ++ List.replicate (n - xs.length) 0
theorem partX_len {xs : List Int} {n : Nat} (h : xs.length ≤ n) : (partX xs n).length = n := by
  unfold partX
  rw [List.length_append, List.length_replicate]; omega
theorem partX_set {xs : List Int} {n : Nat} (h : xs.length < n) (x : Int) : (partX xs n).set xs.length x = partX (xs ++ [x]) n := by
  unfold partX
  have e : n - xs.length = (n - (xs ++ [x]).length) + 1 := by simp; omega
  rw [e, List.replicate_succ, List.set_append_right _ _ (Nat.le_refl _), Nat.sub_self, List.set_cons_zero, List.append_assoc]
  rfl
theorem partX_all (xs : List Int) : partX xs xs.length = xs := by simp [partX]
theorem partX_put {B : Nat} {w : World} {g n cap : Nat} {xs : List Int} (h : OwnI B w (.slice (some ⟨g, 0, none⟩) n cap) (partX xs n)) (hx : xs.length < n) (x : Int) :
    OwnI B (w.setCell ⟨g, xs.length, none⟩ (.int .i64 x)) (.slice (some ⟨g, 0, none⟩) n cap) (partX (xs ++ [x]) n) := by
  have hl := partX_len (Nat.le_of_lt hx)
  have h' : Ownv B 3 1 w (.slice (some ⟨g, 0, none⟩) n cap) n ((partX xs n).map (Value.int .i64)) := by
    have := h
    unfold OwnI at this
    rw [hl] at this
    exact this
  have := Ownv.put h' xs.length (by omega) (.int .i64 x)
  unfold OwnI
  rw [← partX_set hx x, List.length_set, hl, List.map_set]
  exact this

/-- What can be derived, as a row. -/
noncomputable def knL (ds : List Nd) (l : List Int) : List Bool := (List.range ds.length).map (fun t : Nat => derB ds l (t : Int))
theorem knL_eq {ds : List Nd} {l : List Int} {kn : List Bool} (hl : kn.length = ds.length) (h : ∀ t : Nat, t < ds.length → (kn.getD t false = true ↔ Der ds l (t : Int))) : kn = knL ds l := by
  refine List.ext_getElem? fun i => ?_
  by_cases hi : i < ds.length
  · have h1 := h i hi
    rw [List.getD_eq_getElem?_getD, List.getElem?_eq_getElem (by omega), Option.getD_some] at h1
    unfold knL
    rw [List.getElem?_eq_getElem (by omega), List.getElem?_map, List.getElem?_range hi]
    simp only [Option.map_some, Option.some.injEq]
    have h2 := @derB_true ds l (i : Int)
    cases ha : kn[i] <;> cases hb : derB ds l (i : Int) <;> simp_all
  · rw [List.getElem?_eq_none (by omega), List.getElem?_eq_none (by unfold knL; simp; omega)]
/-- What terms look like. -/
noncomputable def looks (ds : List Nd) (l : List Int) : List (List UInt8) := (patL (pat ds (knB (knL ds l))) [] l).1
theorem looks_len (ds : List Nd) (l : List Int) : (looks ds l).length = l.length := patL_len _ _ _

/-- What patterns has, on its way. -/
structure PlM (V W : Nat → Prop) (w0 : World) (wp pp : Value) (ds : List Nd) (kn : List Bool) (P : Nat → Prop) (w : World) (ps : List Pc) (l : List Int) (ub k : Nat) (wr : World) (P' : Nat → Prop) (ps' : List Pc) (a' ws' xs : List Int) : Prop where
  sl : OwnI 0 wr (.slice (some ⟨ub, 0, none⟩) l.length l.length) (partX xs l.length)
  xl : xs.length = k
  wg : WrG V P' W w0 wr wp pp ds kn ps' a' ws'
  ext : PExt ps ps'
  isP : ∀ x ∈ xs, IsP ps'.length x
  says : xs.map (tx ps') = (patL (pat ds (knB kn)) [] (l.take k)).1
  num : a' = (patL (pat ds (knB kn)) [] (l.take k)).2
  cnt : ps'.length ≤ ps.length + 100 * ws'.length
  turn : Turn P w wr
  new : ∀ b, P' b → P b ∨ w.heap.size ≤ b
  newW : ∀ b, W b → w.heap.size ≤ b
  apP : ∀ b, P' b → b ≠ ub
  apW : ∀ b, W b → b ≠ ub
  apV : ∀ b, V b → b ≠ ub
  ub0 : w.heap.size ≤ ub
  bas : w0.heap.size ≤ w.heap.size
section
variable {V W : Nat → Prop} {w0 : World} {wp pp : Value} {ds : List Nd} {kn : List Bool} {P : Nat → Prop} {w : World} {ps : List Pc} {l : List Int} {ub k : Nat} {wr : World} {P' : Nat → Prop} {ps' : List Pc} {a' ws' xs : List Int}
/-- The place that is written next. -/
theorem PlM.slot (h : PlM V W w0 wp pp ds kn P w ps l ub k wr P' ps' a' ws' xs) (hk : k < l.length) {w2 : World} (r8 : Turn (fun b => P' b ∨ W b) wr w2) :
    OwnI 0 w2 (.slice (some ⟨ub, 0, none⟩) l.length l.length) (partX xs l.length) ∧ w2.frozen? ⟨ub, k, none⟩ = false ∧ ∃ u, w2.cell? ⟨ub, k, none⟩ = some u := by
  have o := Ownv.turn h.sl r8 (fun b hb hc => by
    obtain rfl : ub = b := by simpa [Blks, Value.ownBlock] using hb
    exact hc.elim (fun c => h.apP _ c rfl) (fun c => h.apW _ c rfl))
  have hl := partX_len (n := l.length) (xs := xs) (by rw [h.xl]; omega)
  obtain ⟨g, cap, hv, _, _, _, _, hc, hf⟩ := Ownv.row o (by omega)
  simp only [Value.slice.injEq, Option.some.injEq, Addr.mk.injEq] at hv
  obtain ⟨⟨rfl, _⟩, _⟩ := hv
  exact ⟨o, hf k, _, hc k (by rw [hl]; omega)⟩
theorem PlM.step (h : PlM V W w0 wp pp ds kn P w ps l ub k wr P' ps' a' ws' xs) (hk : k < l.length) {w2 : World} {P2 : Nat → Prop} {ps2 : List Pc} {a2 ws2 : List Int} {n : Nat} (r1 : WrG V P2 W w0 w2 wp pp ds kn ps2 a2 ws2) (r2 : PExt ps' ps2) (r3 : n < ps2.length)
    (r4 : (tx ps2 (n : Int), a2) = pat ds (knB kn) a' (l.getD k 0)) (r5 : ps2.length + 100 * ws'.length ≤ ps'.length + 0 + 100 * ws2.length) (r8 : Turn (fun b => P' b ∨ W b) wr w2) (r9 : ∀ b, P2 b → P' b ∨ wr.heap.size ≤ b) :
    PlM V W w0 wp pp ds kn P w ps l ub (k + 1) (w2.setCell ⟨ub, k, none⟩ (.int .i64 n)) P2 ps2 a2 ws2 (xs ++ [(n : Int)]) := by
  obtain ⟨o, _, _⟩ := h.slot hk r8
  have hlt : ub < wr.heap.size := (Ownv.lt h.sl (b := ub) rfl).1
  have hx : l.getD k 0 = l[k] := by rw [List.getD_eq_getElem?_getD, List.getElem?_eq_getElem hk]; rfl
  have ts := turn_setCell w2 ⟨ub, k, none⟩ (.int .i64 n)
  have aP2 : ∀ b, P2 b → b ≠ ub := fun b hb e => (r9 b hb).elim (fun c => h.apP b c e) (fun c => by omega)
  have e4 : patL (pat ds (knB kn)) [] (l.take (k + 1)) = ((patL (pat ds (knB kn)) [] (l.take k)).1 ++ [tx ps2 (n : Int)], a2) := by
    rw [List.take_succ_eq_append_getElem hk, patL_snoc, ← h.num, ← hx, ← r4]
  have hmx := List.map_congr_left (fun x hx => tx_ext' r2 (h.isP x hx))
  have t2 : Turn P w w2 := h.turn.trans r8 (fun b hb => hb.elim (h.new b) (fun c => .inr (h.newW b c)))
  have hput := partX_put o (by rw [h.xl]; exact hk) (n : Int)
  rw [h.xl] at hput
  exact { sl := hput
          xl := by rw [List.length_append, h.xl]; rfl
          wg := r1.far ts (fun b hb e => h.apV b hb e) (fun b hb e => aP2 b hb e) (fun b hb e => h.apW b hb e) (fun b hb => by rw [show b = ub from hb]; exact Nat.le_trans h.bas h.ub0)
          ext := h.ext.trans r2
          isP := fun x hx => (List.mem_append.1 hx).elim (fun c => (h.isP x c).mono r2.len) (fun c => by rw [List.mem_singleton.1 c]; exact ⟨by omega, by omega⟩)
          says := by
            rw [e4, List.map_append, hmx, h.says]
            rfl
          num := by rw [e4]
          cnt := by have := h.cnt; omega
          turn := t2.trans ts (fun b hb => .inr (by rw [show b = ub from hb]; exact h.ub0))
          new := fun b hb => (r9 b hb).elim (h.new b) (fun c => .inr (Nat.le_trans h.turn.size c))
          newW := h.newW
          apP := aP2
          apW := h.apW
          apV := h.apV
          ub0 := h.ub0
          bas := h.bas }
end
/-- What patterns leaves. -/
def PatsPost (P : Nat → Prop) (w : World) (pp : Value) (ps : List Pc) (ds : List Nd) (l : List Int) (e : Ending) (w' : World) : Prop :=
  ∃ (P' : Nat → Prop) (ps' : List Pc) (u : Value) (xs : List Int), e = .returned (.tuple #[u, .int .i64 0]) ∧ PcG P' w' pp ps' ∧ PExt ps ps' ∧ ps'.length ≤ ps.length + 100 * ds.length ∧ OwnI 0 w' u xs ∧ (∀ x ∈ xs, IsP ps'.length x) ∧ xs.map (tx ps') = looks ds l ∧
    Turn P w w' ∧ (∀ b, P' b → P b ∨ w.heap.size ≤ b) ∧ ∀ b, Blks u b → w.heap.size ≤ b ∧ ¬ P' b

set_option maxHeartbeats 8000000 in
set_option maxRecDepth 100000 in
theorem patterns_any {P F : Nat → Prop} {w0 w : World} {pp p v : Value} {ps : List Pc} {ds : List Nd} {l : List Int} (ht : TabsD w0) (hk : Kept w0 w) (hP : PcG P w pp ps) (hb : ∀ b, P b → w0.heap.size ≤ b) (hA : Ar F w p ds) (hd : RdI w v l) (hv : ∀ b, VB v b → ¬ P b) (hT : termsB ds l = true) (hll : l.length ≤ 1000000) (hps : ps.length ≤ 100000000) :
    Calls Tryd.prog 37 #[pp, p, v] w (PatsPost P w pp ps ds l) := by
  have HHP := Shut.mk hP
  have hlk := look_any hA hd hT hll
  have hgood := hA.good
  have hfew := hA.few
  have HTT := Shut.mk (termsB_all hT)
  have HD := Shut.mk hd
  have HV := Shut.mk hv
  have HB := Shut.mk hb
  have HKW := Shut.mk hk
  have HTB := Shut.mk ht
  obtain ⟨la, lc, rfl, l1, l2, l3⟩ := hd.len
  have l63 : ((l.length : Nat) : Int) ≤ 9223372036854775807 := by omega
  have hpf : ∃ pb, pp = .pointer (some ⟨pb, 0, none⟩) := by
    obtain ⟨pb, mb, n, nv, lvs, D, e, _⟩ := hP.rep
    exact ⟨pb, e⟩
  obtain ⟨pb, rfl⟩ := hpf
  have hmm := @run_makeMap Tryd.prog
  clear hd hv hb hk ht hT hP hA
  go_enter Tryd.func37, Tryd.ntmps37
  go_wp2_with fail
  (with_reducible refine hlk.mono ?_)
  clear hlk
  rintro e w1 ⟨vp, V, kn, rfl, hvw, hV, hkn, k1⟩
  have HKN := Shut.mk (knL_eq hvw.len hkn)
  clear hkn
  have hvf : ∃ vb, vp = .pointer (some ⟨vb, 0, none⟩) := by
    obtain ⟨vb, nv, kv, lvs, e, _⟩ := hvw.rep
    exact ⟨vb, e⟩
  obtain ⟨vb, rfl⟩ := hvf
  have kA : Kept w1 (w1.alloc (.map #[] 0)) := (Kept.refl w1).alloc _
  have kB : Kept (w1.alloc (.map #[] 0)) ((w1.alloc (.map #[] 0)).alloc (.map #[] 0)) := (Kept.refl _).alloc _
  have kC : Kept ((w1.alloc (.map #[] 0)).alloc (.map #[] 0)) (((w1.alloc (.map #[] 0)).alloc (.map #[] 0)).alloc (.cells #[.pointer (some ⟨vb, 0, none⟩), .pointer (some ⟨pb, 0, none⟩), .map (some w1.heap.size), .map (some (w1.heap.size + 1))] 99)) := (Kept.refl _).alloc _
  have s1 : (w1.alloc (.map #[] 0)).heap.size = w1.heap.size + 1 := alloc_size _ _
  have s2 : ((w1.alloc (.map #[] 0)).alloc (.map #[] 0)).heap.size = w1.heap.size + 2 := by rw [alloc_size, s1]
  have s3 : (((w1.alloc (.map #[] 0)).alloc (.map #[] 0)).alloc (.cells #[.pointer (some ⟨vb, 0, none⟩), .pointer (some ⟨pb, 0, none⟩), .map (some w1.heap.size), .map (some (w1.heap.size + 1))] 99)).heap.size = w1.heap.size + 3 := by rw [alloc_size, s2]
  have m1 := ((IntMap.made w1 (fun t => (numAt [] t : Int))).kept kB).kept kC
  have m2 := (IntMap.made (w1.alloc (.map #[] 0)) (fun _ => 0)).kept kC
  rw [s1] at m2
  have bW := Blk.new ((w1.alloc (.map #[] 0)).alloc (.map #[] 0)) [.pointer (some ⟨vb, 0, none⟩), .pointer (some ⟨pb, 0, none⟩), .map (some w1.heap.size), .map (some (w1.heap.size + 1))] 99
  rw [s2] at bW
  have kD := (kA.trans kB).trans kC
  have g0 : WrG V P (fun b => b = w1.heap.size ∨ b = w1.heap.size + 1 ∨ b = w1.heap.size + 2) w0 (((w1.alloc (.map #[] 0)).alloc (.map #[] 0)).alloc (.cells #[.pointer (some ⟨vb, 0, none⟩), .pointer (some ⟨pb, 0, none⟩), .map (some w1.heap.size), .map (some (w1.heap.size + 1))] 99)) (.pointer (some ⟨w1.heap.size + 2, 0, none⟩)) (.pointer (some ⟨pb, 0, none⟩)) ds kn ps [] [] :=
    ⟨⟨w1.heap.size + 2, w1.heap.size, w1.heap.size + 1, _, fun _ => 0, rfl, bW, hvw.kept kD, m1, m2, ⟨List.nodup_nil, fun t ht => by cases ht⟩, by omega, .inr (.inr rfl), .inl rfl, .inr (.inl rfl)⟩, (HHP.out.kept k1).kept kD,
      fun b hb => by rw [s3]; omega, fun b hb hp => by have := hV b hb; have := HHP.out.lt b hp; omega, fun b hb hw => by have := hvw.lt b hb; omega, fun b hb hw => by have := HHP.out.lt b hb; have := k1.size; omega,
      HB.out, fun b hb => by have := HKW.out.size; have := k1.size; omega, (HKW.out.trans k1).trans kD, hgood, hfew, HTB.out, Nums.nil ds⟩
  have HG0 := Shut.mk g0
  have HKD := Shut.mk kD
  have HVW := Shut.mk hvw
  have HVN := Shut.mk hV
  clear g0 m1 m2 bW kA kB kC kD hvw hV
  go_wp2_with (at_make; refine go_mkints l.length _ rfl rfl rfl (by omega) ?_; intro w5 o5 k5 q5)
  rw [s3] at o5
  have st0 : PlM V (fun b => b = w1.heap.size ∨ b = w1.heap.size + 1 ∨ b = w1.heap.size + 2) w0 (.pointer (some ⟨w1.heap.size + 2, 0, none⟩)) (.pointer (some ⟨pb, 0, none⟩)) ds kn P w ps l (w1.heap.size + 3) 0 w5 P ps [] [] [] :=
    { sl := by
        have e : partX [] l.length = List.replicate l.length 0 := by simp [partX]
        rw [e]
        exact Ownv.mono0 o5
      xl := rfl
      wg := HG0.out.keep k5
      ext := PExt.refl _
      isP := fun x hx => by cases hx
      says := by simp [patL]
      num := by simp [patL]
      cnt := Nat.le_add_right _ _
      turn := ((k1.turn P).kept HKD.out).kept k5
      new := fun b hb => .inl hb
      newW := fun b hb => by have := k1.size; omega
      apP := fun b hb e => by have := HHP.out.lt b hb; have := k1.size; omega
      apW := fun b hb e => by omega
      apV := fun b hb e => by have := HVW.out.lt b hb; omega
      ub0 := by have := k1.size; omega
      bas := HKW.out.size }
  have HT3 := Shut.mk k1.size
  clear o5 k5 q5
  generalize w1.heap.size + 3 = ub at st0 s3 ⊢
  generalize (fun b => b = w1.heap.size ∨ b = w1.heap.size + 1 ∨ b = w1.heap.size + 2) = W at st0
  generalize w1.heap.size + 2 = wb at st0 ⊢
  clear HG0 HKD s3
  go_loopw [33] (fun i wr => ∃ (k : Nat) (P' : Nat → Prop) (ps' : List Pc) (a' ws' xs : List Int), k ≤ l.length ∧ i = .int .i64 k ∧ PlM V W w0 (.pointer (some ⟨wb, 0, none⟩)) (.pointer (some ⟨pb, 0, none⟩)) ds kn P w ps l ub k wr P' ps' a' ws' xs) (fun i _ => l.length - (intOf i).toNat)
  case atStart => exact ⟨0, P, ps, [], [], [], Nat.zero_le _, rfl, st0⟩
  case round =>
    obtain ⟨k, P', ps', a', ws', xs, hk0, rfl, st⟩ := hrel
    clear st0
    by_cases hlt : k < l.length
    · have hrw : RdI wr (.slice la l.length lc) l := RdI.turn HD.out st.turn HV.out
      obtain ⟨rb, ro, rc, hrv, _, _, hrb, hcl⟩ := hrw.addr (by omega)
      simp only [Value.slice.injEq] at hrv
      obtain ⟨rfl, _, rfl⟩ := hrv
      have hcw := hcl k hlt
      clear hcl hrw
      have hxT := HTT.out _ (getD_mem hlt)
      have hcn := st.cnt
      have HS := Shut.mk st
      have hwl := (by obtain ⟨_, _, _, _, _, _, _, _, _, _, hw, _⟩ := st.wg.own; exact hw.len : ws'.length ≤ ds.length)
      clear st
      generalize hxe : l.getD k 0 = x at hcw hxT
      have HX := Shut.mk hxe
      clear hxe
      have hxl := hxT.2
      have hc := pattern_any (x.toNat + 1) x (Nat.lt_succ_self _) hxT HS.out.wg (by omega)
      have hltI : (k : Int) < (l.length : Int) := by omega
      have HHL := Shut.mk hlt
      go_wp2_with (go_at_call 52; (with_reducible refine hc.mono ?_); rintro e w2 ⟨P2, ps2, a2, ws2, n, rfl, r1, r2, r3, r4, r5, r6, r7, r8, r9⟩; obtain ⟨q1, q2, q3, q4⟩ := HS.out.slot HHL.out r8)
      go_roundw
      case rel => exact ⟨k + 1, P2, ps2, a2, ws2, _, HHL.out, rfl, HS.out.step HHL.out r1 r2 r3 (by rw [HX.out]; exact r4) r5 r8 r9⟩
      case measure => simp [intOf]; omega
    · obtain rfl : k = l.length := by omega
      have HS := Shut.mk st
      clear st
      go_wp2
      go_ret2
      have st := HS.out
      have hsl := st.sl
      have hsy := st.says
      have hcn := st.cnt
      have hwl := (by obtain ⟨_, _, _, _, _, _, _, _, _, _, hw, _⟩ := st.wg.own; exact hw.len : ws'.length ≤ ds.length)
      have exl : partX xs l.length = xs := by rw [← st.xl]; exact partX_all xs
      rw [exl] at hsl
      rw [List.take_length, HKN.out] at hsy
      refine ⟨P', ps', _, xs, rfl, st.wg.pcs, st.ext, by omega, hsl, st.isP, hsy, st.turn, st.new, fun b hb => ?_⟩
      obtain rfl : ub = b := by simpa [Blks, Value.ownBlock] using hb
      exact ⟨st.ub0, fun hp => st.apP _ hp rfl⟩
end Go.Proofs.YtangbnmgkcmhbaaDoor
end

section
/- Pattern. -/
set_option linter.unusedSimpArgs false
set_option linter.unusedVariables false
namespace Go.Proofs.YtangbnmgkcmhbaaDoor
open Go.RowKit Go.Maps

theorem pieces_new (w : World) : PcG (fun b => b = w.heap.size ∨ b = w.heap.size + 1) ((w.alloc (.map #[] 0)).alloc (.cells #[.slice none 0 0, .map (some w.heap.size)] 96)) (.pointer (some ⟨w.heap.size + 1, 0, none⟩)) [] := by
  have s1 : (w.alloc (.map #[] 0)).heap.size = w.heap.size + 1 := alloc_size _ _
  have b := Blk.new (w.alloc (.map #[] 0)) [.slice none 0 0, .map (some w.heap.size)] 96
  rw [s1] at b
  have m := ownsMap_kept (H := Unit) (World.ownsMap_made w Tryd.prog 9 (plainElem Tryd.prog 3)) ((Kept.refl (w.alloc (.map #[] 0))).alloc (.cells #[.slice none 0 0, .map (some w.heap.size)] 96))
  refine ⟨PsOk.nil, ⟨w.heap.size + 1, w.heap.size, 0, .slice none 0 0, [], .map [], rfl, b, World.ownsRow_nil _ _ _ _, rfl, (fun i hi => absurd hi (Nat.not_lt_zero _)), m, Nat.le_refl _, ⟨(fun i hi => absurd hi (Nat.not_lt_zero _)), fun s hs => by simp [Maps.has] at hs⟩, .inr rfl, .inl rfl, (fun b hb => by cases hb), fun i hi => absurd hi (Nat.not_lt_zero _)⟩, fun b hb => ?_⟩
  rw [alloc_size, s1]
  omega
def NewPPost (w : World) (e : Ending) (w' : World) : Prop := ∃ (P : Nat → Prop) (p : Value), e = .returned p ∧ PcG P w' p [] ∧ (∀ b, P b → w.heap.size ≤ b) ∧ Kept w w'
set_option maxHeartbeats 4000000 in
theorem newPieces_any (w : World) : Calls Tryd.prog 36 #[] w (NewPPost w) := by
  have hmm := @run_makeMap Tryd.prog
  have hP := Shut.mk (pieces_new w)
  go_enter Tryd.func36, Tryd.ntmps36
  go_wp2
  go_ret
  exact ⟨_, _, rfl, hP.out, fun b hb => by omega, ((Kept.refl w).alloc _).trans ((Kept.refl _).alloc _)⟩

set_option maxHeartbeats 4000000 in
theorem patterns_bad {F : Nat → Prop} {w : World} {p pp v : Value} {ds : List Nd} {l : List Int} (h : Ar F w p ds) (hd : RdI w v l) (hT : termsB ds l = false) :
    Calls Tryd.prog 37 #[pp, p, v] w fun e w' => e = .returned (.tuple #[.slice none 0 0, .int .i64 1]) ∧ w = w' := by
  have hlk := look_bad h hd hT
  obtain ⟨la, lc, rfl, _, _, _⟩ := hd.len
  go_enter Tryd.func37, Tryd.ntmps37
  go_wp2_with (go_at_call 28; refine hlk.mono ?_; rintro e w' ⟨rfl, rfl⟩)
  go_ret2
  exact ⟨rfl, rfl⟩
set_option maxHeartbeats 4000000 in
theorem pattern_bad {F : Nat → Prop} {w : World} {p v : Value} {ds : List Nd} {l : List Int} (h : Ar F w p ds) (hd : RdI w v l) (hT : termsB ds l = false) :
    Calls Tryd.prog 17 #[p, v] w fun e w' => e = .returned (.tuple #[.slice none 0 0, .int .i64 1]) ∧ Kept w w' := by
  have hnp := newPieces_any w
  have HH := Shut.mk h
  have HD := Shut.mk hd
  have HT := Shut.mk hT
  obtain ⟨la, lc, rfl, _, _, _⟩ := hd.len
  clear h hd hT
  go_enter Tryd.func17, Tryd.ntmps17
  go_wp2_with (first
    | (go_at_call 36; (with_reducible refine hnp.mono ?_); rintro e w1 ⟨P, pp, rfl, hP, hb, k1⟩; have hps := patterns_bad (pp := pp) (ArG.kept HH.out k1) (HD.out.kept k1) HT.out)
    | (go_at_call 37; (with_reducible refine hps.mono ?_); rintro e w2 ⟨rfl, rfl⟩))
  go_ret2
  exact ⟨rfl, k1⟩
set_option maxHeartbeats 4000000 in
/-- What some terms look like is told. -/
theorem patternA {F : Nat → Prop} {w : World} {p v : Value} {ds : List Nd} {l : List Int} (ht : TabsD w) (h : Ar F w p ds) (hd : RdI w v l) (hT : termsB ds l = true) (hll : l.length ≤ 1000000) (hsum : (looks ds l).flatten.length ≤ 1000000) :
    Calls Tryd.prog 17 #[p, v] w (TextsPost w (looks ds l)) := by
  have hnp := newPieces_any w
  have HH := Shut.mk h
  have HD := Shut.mk hd
  have HT := Shut.mk hT
  have HTB := Shut.mk ht
  have hfew := h.few
  have HVL : Shut (∀ b, VB v b → b < w.heap.size) := ⟨fun b hb => by
    by_cases hp : 0 < l.length
    · exact Rdv.lt hd (by omega) hb
    · obtain ⟨la, lc, e, _, _, hno⟩ := hd.len
      obtain ⟨o, sp, n', c', hc', e'⟩ := hb
      rw [e] at e'
      simp only [Value.slice.injEq] at e'
      omega⟩
  obtain ⟨la, lc, rfl, _, _, _⟩ := hd.len
  clear h hd hT ht
  go_enter Tryd.func17, Tryd.ntmps17
  go_wp2_with (first
    | (go_at_call 36; (with_reducible refine hnp.mono ?_); rintro e w1 ⟨P, pp, rfl, hP, hb, k1⟩; have hps := patterns_any HTB.out k1 hP hb (ArG.kept HH.out k1) (HD.out.kept k1) (fun b h1 h2 => by have := HVL.out b h1; have := hb b h2; omega) HT.out hll (by simp))
    | (go_at_call 37; (with_reducible refine hps.mono ?_); rintro e w2 ⟨P2, ps2, u, xs, rfl, r1, r2, r3, r4, r5, r6, r7, r8, r9⟩; have hxl : xs.length = l.length := (by have := congrArg List.length r6; rw [List.length_map, looks_len] at this; exact this); have hts := texts_any r1 r4.rd r5 (by omega) (by unfold cat; rw [show (xs.map fun x => (txs ps2).getD x.toNat []) = xs.map (tx ps2) from rfl, r6]; exact hsum) (by simp at r3; omega))
    | (go_at_call 38; (with_reducible refine hts.mono ?_); rintro e w3 ⟨u3, rfl, o3, k3⟩))
  go_ret2
  have k2 : Kept w w2 := Turn.keptOf k1 r7 hb
  rw [r6] at o3
  exact ⟨u3, rfl, Ownv.mono o3 k2.size, k2.trans k3⟩
end Go.Proofs.YtangbnmgkcmhbaaDoor
end

section
/- Walks of the statements of layer 5: helpers: SameTexts, In, few, two. -/
set_option linter.unusedSimpArgs false
set_option linter.unusedVariables false
namespace Go.Proofs.YtangbnmgkcmhbaaDoor
open Go.RowKit Go.Maps

/-- v is a slice of the strings ts. -/
def RdT (w : World) (v : Value) (ts : List (List UInt8)) : Prop := Rdv 1 w v ts.length (ts.map strV)
theorem RdT.kept {w w' : World} {v : Value} {ts : List (List UInt8)} (h : RdT w v ts) (k : Kept w w') : RdT w' v ts := Rdv.kept h k
theorem OwnT.rd {B : Nat} {w : World} {v : Value} {ts : List (List UInt8)} (h : OwnT B w v ts) : RdT w v ts := Ownv.rdv h
theorem RdT.len {w : World} {v : Value} {ts : List (List UInt8)} (h : RdT w v ts) : ∃ a cap, v = .slice a ts.length cap ∧ ts.length ≤ cap ∧ cap ≤ maxLen ∧ (a = none → cap = 0) := by
  obtain ⟨a, cap, rfl, _, h2, h3, h4, _⟩ := h
  exact ⟨a, cap, rfl, h2, h3, h4⟩
theorem RdT.addr {w : World} {v : Value} {ts : List (List UInt8)} (h : RdT w v ts) (hp : 0 < ts.length) :
    ∃ b off cap, v = .slice (some ⟨b, off, none⟩) ts.length cap ∧ ts.length ≤ cap ∧ cap ≤ maxLen ∧ b < w.heap.size ∧ ∀ i, i < ts.length → w.cell? ⟨b, off + i, none⟩ = some (.string (strB (ts.getD i []))) := by
  obtain ⟨ao, cap, rfl, hl, hc, hm, hno, hcell⟩ := h
  cases ao with
  | none => have := hno rfl; omega
  | some ad =>
    obtain ⟨b, off, spot⟩ := ad
    have hg : ∀ i, i < ts.length → w.cell? ((⟨b, off, spot⟩ : Addr).add i) = some (.string (strB (ts.getD i []))) := by
      intro i hi
      refine hcell _ rfl i _ ?_
      simp [List.getD, List.getElem?_eq_getElem hi, strV]
    have h0 := hg 0 hp
    obtain rfl : spot = none := by simpa [Addr.add] using World.cell?_spot h0
    refine ⟨b, off, cap, rfl, hc, hm, World.block_lt_of_cell? _ _ h0, fun i hi => ?_⟩
    have := hg i hi
    rwa [Addr.add_lit] at this
theorem getD_extT {a b : List (List UInt8)} (hl : a.length = b.length) (h : ∀ i, i < a.length → a.getD i [] = b.getD i []) : a = b := by
  refine List.ext_getElem hl fun i h1 h2 => ?_
  have := h i h1
  rwa [List.getD_eq_getElem?_getD, List.getElem?_eq_getElem h1, List.getD_eq_getElem?_getD, List.getElem?_eq_getElem h2] at this
theorem strB_inj' {a b : List UInt8} (h : strB a = strB b) : a = b := by
  have := congrArg (fun x : ByteArray => x.data.toList) h
  simpa [strB] using this

set_option maxHeartbeats 4000000 in
set_option maxRecDepth 100000 in
theorem sameTexts_any {w : World} {u v : Value} {a b : List (List UInt8)} (ha : RdT w u a) (hb : RdT w v b) :
    Calls Tryd.prog 21 #[u, v] w fun e w' => e = .returned (.bool (decide (a = b))) ∧ Kept w w' := by
  obtain ⟨aa, ac, rfl, a1, a2, a3⟩ := ha.len
  obtain ⟨ba, bc, rfl, b1, b2, b3⟩ := hb.len
  have a63 : ((a.length : Nat) : Int) ≤ 9223372036854775807 := by unfold maxLen at a2; omega
  by_cases hl : a.length = b.length
  · have hd : ((a.length : Int) != (b.length : Int)) = false := by simp [hl]
    have HL := Shut.mk hl
    rw [← hl] at hb b1 hd ⊢
    clear hl
    go_enter Tryd.func21, Tryd.ntmps21
    go_wp2
    go_loopw [13] (fun i wr => ∃ k : Nat, k ≤ a.length ∧ i = .int .i64 k ∧ (∀ j, j < k → a.getD j [] = b.getD j []) ∧ Kept w wr) (fun i _ => a.length - (intOf i).toNat)
    case atStart => exact ⟨0, Nat.zero_le _, rfl, fun j hj => absurd hj (Nat.not_lt_zero _), Kept.refl _⟩
    case round =>
      obtain ⟨k, hk0, rfl, hsame, hk⟩ := hrel
      have HS := Shut.mk hsame
      clear hsame
      by_cases hlt : k < a.length
      · obtain ⟨rb, ro, rc, hrv, _, _, hrb, hcl⟩ := ha.addr (by omega)
        simp only [Value.slice.injEq] at hrv
        obtain ⟨rfl, _, rfl⟩ := hrv
        have hcb := hb
        rw [show (Value.slice ba a.length bc) = Value.slice ba b.length bc by rw [HL.out]] at hcb
        obtain ⟨sb, so, sc, hsv, _, _, hsb, hcl2⟩ := hcb.addr (by have := HL.out; omega)
        simp only [Value.slice.injEq] at hsv
        obtain ⟨rfl, _, rfl⟩ := hsv
        have x1 := hk.cell (p := ⟨rb, ro + k, none⟩) hrb |>.trans (hcl k hlt)
        have x2 := hk.cell (p := ⟨sb, so + k, none⟩) hsb |>.trans (hcl2 k (by have := HL.out; omega))
        clear hcl hcl2 hcb
        have k0 : (0 : Int) ≤ (k : Int) := by omega
        have k1 : (k : Int) < (a.length : Int) := by omega
        generalize hx : a.getD k [] = x at x1
        generalize hy : b.getD k [] = y at x2
        have HX := Shut.mk hx
        have HY := Shut.mk hy
        clear hx hy
        have e1 := strB_list x
        have e2 := strB_list y
        generalize strB x = X at x1 e1
        generalize strB y = Y at x2 e2
        by_cases hxy : x = y
        · subst hxy
          go_wp2
          go_quiet (fail)
          go_wp2
          go_roundw
          case rel => exact ⟨k + 1, hlt, rfl, fun j hj => by
            by_cases c : j < k
            · exact HS.out j c
            · obtain rfl : j = k := by omega
              rw [HX.out, HY.out], hk.drewN _⟩
          case measure => simp [intOf]; omega
        · have hd2 : (x == y) = false := by simpa using hxy
          have hne : ¬ a = b := fun e => hxy (by rw [← HX.out, ← HY.out, e])
          have HN := Shut.mk hne
          clear hne hxy
          go_wp2
          go_quiet (fail)
          go_wp2
          go_ret
          exact ⟨by rw [decide_eq_false HN.out]; rfl, hk.drewN _⟩
      · obtain rfl : k = a.length := by omega
        have he := getD_extT HL.out HS.out
        have HE := Shut.mk he
        clear he
        go_wp2
        go_ret
        exact ⟨by rw [decide_eq_true HE.out]; rfl, hk⟩
  · have hd : ((a.length : Int) != (b.length : Int)) = true := by simp; omega
    have hne : ¬ a = b := fun e => hl (by rw [e])
    have HN := Shut.mk hne
    clear hne hl
    go_enter Tryd.func21, Tryd.ntmps21
    go_wp2
    go_ret
    exact ⟨by rw [decide_eq_false HN.out]; rfl, Kept.refl _⟩

set_option maxHeartbeats 4000000 in
set_option maxRecDepth 100000 in
theorem inR_any {w : World} {v : Value} {l : List Int} (h : RdI w v l) {n : Int} (hn : I64 n) :
    Calls Tryd.prog 22 #[v, .int .i64 n] w fun e w' => e = .returned (.bool (decide (n ∈ l))) ∧ w = w' := by
  obtain ⟨la, lc, rfl, l1, l2, l3⟩ := h.len
  have l63 : ((l.length : Nat) : Int) ≤ 9223372036854775807 := by unfold maxLen at l2; omega
  go_enter Tryd.func22, Tryd.ntmps22
  go_wp2
  go_loopw [9] (fun i wr => ∃ k : Nat, k ≤ l.length ∧ i = .int .i64 k ∧ n ∉ l.take k ∧ w = wr) (fun i _ => l.length - (intOf i).toNat)
  case atStart => exact ⟨0, Nat.zero_le _, rfl, by simp, rfl⟩
  case round =>
    obtain ⟨k, hk0, rfl, hno, rfl⟩ := hrel
    have HN := Shut.mk hno
    clear hno
    by_cases hlt : k < l.length
    · obtain ⟨rb, ro, rc, hrv, _, _, hrb, hcl⟩ := h.addr (by omega)
      simp only [Value.slice.injEq] at hrv
      obtain ⟨rfl, _, rfl⟩ := hrv
      have hcw := hcl k hlt
      clear hcl
      have hx : l.getD k 0 = l[k] := by rw [List.getD_eq_getElem?_getD, List.getElem?_eq_getElem hlt]; rfl
      have HT := Shut.mk (show l.take (k + 1) = l.take k ++ [l.getD k 0] by rw [List.take_succ_eq_append_getElem hlt, hx])
      have HM := Shut.mk (getD_mem (l := l) hlt)
      clear hx
      generalize l.getD k 0 = x at hcw HT HM
      by_cases c : x = n
      · subst c
        go_wp2
        go_ret
        exact ⟨by rw [decide_eq_true HM.out]; rfl, rfl⟩
      · have hne : (x == n) = false := by simpa using c
        have hne' : ¬ n = x := fun e => c e.symm
        have HNE := Shut.mk hne'
        clear hne'
        go_wp2
        go_roundw
        case rel => exact ⟨k + 1, hlt, rfl, by rw [HT.out, List.mem_append, List.mem_singleton]; exact fun h => h.elim HN.out HNE.out, by first | rfl | trivial⟩
        case measure => simp [intOf]; omega
    · obtain rfl : k = l.length := by omega
      have HN' : Shut (n ∉ l) := ⟨by have := HN.out; rwa [List.take_length] at this⟩
      go_wp2
      go_ret
      exact ⟨by rw [decide_eq_false HN'.out]; rfl, rfl⟩

/-- What few lets by. -/
def Few5 (ls : List Nd) (lens : List Nat) : Prop := ls.length ≤ 40 ∧ (∀ k, k < ls.length → (ls.getD k nd0).s.length ≤ 60 ∧ (ls.getD k nd0).l.length ≤ 6) ∧ ∀ j, j < lens.length → lens.getD j 0 ≤ 20
def Few5Post (w : World) (ls : List Nd) (lens : List Nat) (e : Ending) (w' : World) : Prop := ∃ b : Bool, e = .returned (.bool b) ∧ (b = true → Few5 ls lens) ∧ Kept w w'
/-- A row of slices of these lengths. -/
def RowL (w : World) (g : Nat) (lens : List Nat) : Prop := g < w.heap.size ∧ ∀ j, j < lens.length → ∃ a c, w.cell? ⟨g, j, none⟩ = some (.slice a (lens.getD j 0) c) ∧ lens.getD j 0 ≤ 9223372036854775807

set_option maxHeartbeats 4000000 in
set_option maxRecDepth 100000 in
theorem few5_any {w : World} {v : Value} {ls : List Nd} (h : RdNs w v ls) {g cap : Nat} {lens : List Nat} (hr : RowL w g lens) (hll : lens.length ≤ 1000) :
    Calls Tryd.prog 9 #[v, .slice (some ⟨g, 0, none⟩) lens.length cap] w (Few5Post w ls lens) := by
  obtain ⟨na, ncap, rfl, n1, n2, _⟩ := h.len
  have n63 : ((ls.length : Nat) : Int) ≤ 9223372036854775807 := by unfold maxLen at n2; omega
  have l63 : ((lens.length : Nat) : Int) ≤ 9223372036854775807 := by omega
  by_cases hl : 40 < ls.length
  · go_enter Tryd.func9, Tryd.ntmps9
    go_wp2
    go_ret
    exact ⟨false, rfl, (fun e => by cases e), Kept.refl _⟩
  · have HL40 := Shut.mk (show ls.length ≤ 40 by omega)
    have HR := Shut.mk hr
    clear hr
    go_enter Tryd.func9, Tryd.ntmps9
    go_wp2
    go_loopw [14] (fun i wr => ∃ k : Nat, k ≤ ls.length ∧ i = .int .i64 k ∧ (∀ j, j < k → (ls.getD j nd0).s.length ≤ 60 ∧ (ls.getD j nd0).l.length ≤ 6) ∧ Kept w wr) (fun i _ => ls.length - (intOf i).toNat)
    case atStart => exact ⟨0, Nat.zero_le _, rfl, fun j hj => absurd hj (Nat.not_lt_zero _), Kept.refl _⟩
    case round =>
      obtain ⟨k, hk0, rfl, hsame, hk⟩ := hrel
      have HS := Shut.mk hsame
      clear hsame
      by_cases hlt : k < ls.length
      · obtain ⟨nb, noff, ncap', la, lc, hv, hcl, hlr⟩ := h.at hlt
        simp only [Value.slice.injEq] at hv
        obtain ⟨rfl, _, rfl⟩ := hv
        obtain ⟨y0, y1, y2, y3⟩ := hcl wr hk
        clear hcl
        generalize hd : ls.getD k nd0 = d at y0 y1 y2 y3 hlr
        have HD := Shut.mk hd
        clear hd
        obtain ⟨op, n, s, l⟩ := d
        simp only at y0 y1 y2 y3 hlr
        have e1 := strB_size s
        generalize strB s = S at y2 e1
        have ka : Kept wr (wr.alloc (.cells #[.int .i64 op, .int .i64 n, .string S, .slice la l.length lc] 51)) := (Kept.refl wr).alloc _
        by_cases c1 : 60 < s.length
        · go_wp2
          go_ret
          exact ⟨false, rfl, (fun e => by cases e), hk.trans ka⟩
        · by_cases c2 : 6 < l.length
          · go_wp2
            go_ret
            exact ⟨false, rfl, (fun e => by cases e), hk.trans ka⟩
          · go_wp2
            go_roundw
            case rel => exact ⟨k + 1, hlt, rfl, fun j hj => by
              by_cases c : j < k
              · exact HS.out j c
              · obtain rfl : j = k := by omega
                rw [HD.out]
                exact ⟨by show s.length ≤ 60; omega, by show l.length ≤ 6; omega⟩, hk.trans ka⟩
            case measure => simp [intOf]; omega
      · obtain rfl : k = ls.length := by omega
        go_wp2
        go_loopw [31] (fun i wx => ∃ k : Nat, k ≤ lens.length ∧ i = .int .i64 k ∧ (∀ j, j < k → lens.getD j 0 ≤ 20) ∧ wr = wx) (fun i _ => lens.length - (intOf i).toNat)
        case atStart => exact ⟨0, Nat.zero_le _, rfl, fun j hj => absurd hj (Nat.not_lt_zero _), rfl⟩
        case round =>
          obtain ⟨k, hk1, rfl, hsame, rfl⟩ := hrel
          have HS2 := Shut.mk hsame
          clear hsame
          by_cases hlt2 : k < lens.length
          · obtain ⟨a, c, hc, h63⟩ := HR.out.2 k hlt2
            have hcw := hk.cell (p := ⟨g, k, none⟩) HR.out.1 |>.trans hc
            clear hc
            have hkI : (k : Int) < (lens.length : Int) := by omega
            generalize hm : lens.getD k 0 = m at hcw h63
            have HM := Shut.mk hm
            clear hm
            have m63 : ((m : Nat) : Int) ≤ 9223372036854775807 := by omega
            by_cases c1 : 20 < m
            · go_wp2
              go_ret
              exact ⟨false, rfl, (fun e => by cases e), hk⟩
            · go_wp2
              go_roundw
              case rel => exact ⟨k + 1, hlt2, rfl, fun j hj => by
                by_cases c : j < k
                · exact HS2.out j c
                · obtain rfl : j = k := by omega
                  rw [HM.out]
                  omega, by first | rfl | trivial⟩
              case measure => simp [intOf]; omega
          · obtain rfl : k = lens.length := by omega
            go_wp2
            go_ret
            exact ⟨true, rfl, fun _ => ⟨HL40.out, HS.out, HS2.out⟩, hk⟩

/-- Two arenas of the same terms. -/
def TwoPost (w : World) (ls : List Nd) (e : Ending) (w' : World) : Prop :=
  ∃ (F G : Nat → Prop) (a : Addr) (q : Value), e = .returned (.tuple #[.pointer (some a), q]) ∧ Ar F w' (.pointer (some a)) (mkAll ls) ∧ ArR G w' q (mkAll ls) ∧ (∀ x, F x → ¬ G x) ∧ (∀ x, F x → w.heap.size ≤ x) ∧ (∀ x, G x → w.heap.size ≤ x) ∧ Kept w w'
set_option maxHeartbeats 8000000 in
set_option maxRecDepth 100000 in
theorem two_any {w : World} {v : Value} {ls : List Nd} (hv : RdNs w v ls) (hok : ∀ d ∈ ls, NdOk d) (ht : Tabs w) :
    Calls Tryd.prog 10 #[v] w (TwoPost w ls) := by
  obtain ⟨na, ncap, rfl, n1, n2, _⟩ := hv.len
  have n63 : ((ls.length : Nat) : Int) ≤ 9223372036854775807 := by unfold maxLen at n2; omega
  go_enter Tryd.func10, Tryd.ntmps10
  go_wp2_with fail
  refine (new_any w).mono ?_
  rintro e w4 ⟨Fa, pa, rfl, ha, k4, hFa, hpa⟩
  have hpa' : ∃ a, pa = .pointer (some a) := ⟨_, hpa⟩
  clear hpa
  obtain ⟨aa, rfl⟩ := hpa'
  go_wp2_with fail
  refine (newR_any w4).mono ?_
  rintro e w5 ⟨Fb, pb, rfl, hb, k5, hFb, hpb⟩
  clear hpb
  have k05 := k4.trans k5
  have ha5 : Ar Fa w5 (.pointer (some aa)) [] := ArG.kept ha k5
  have hdis : ∀ x, Fa x → ¬ Fb x := fun x h1 h2 => by have := ha.lt x h1; have := hFb x h2; omega
  have hFb' : ∀ x, Fb x → w.heap.size ≤ x := fun x h => Nat.le_trans k4.size (hFb x h)
  go_wp2
  go_loopw [12] (fun i wr => ∃ (k : Nat) (F G : Nat → Prop), k ≤ ls.length ∧ i = .int .i64 k ∧ Ar F wr (.pointer (some aa)) (mkAll (ls.take k)) ∧ ArR G wr pb (mkAll (ls.take k)) ∧ (∀ x, F x → ¬ G x) ∧ (∀ x, F x → w.heap.size ≤ x) ∧ (∀ x, G x → w.heap.size ≤ x) ∧ Kept w wr) (fun i _ => ls.length - (intOf i).toNat)
  case atStart => exact ⟨0, Fa, Fb, Nat.zero_le _, rfl, ha5, hb, hdis, hFa, hFb', k05⟩
  case round =>
    clear ha5 hb hdis hFb' ha hFa hFb
    obtain ⟨k, F, G, hk0, rfl, har, hbr, hd, hF, hG, hk⟩ := hrel
    by_cases hlt : k < ls.length
    · obtain ⟨nb, noff, ncap', la, lc, hv', hcl, hlr⟩ := hv.at hlt
      simp only [Value.slice.injEq] at hv'
      obtain ⟨rfl, hdrop, rfl⟩ := hv'
      clear hdrop
      obtain ⟨y0, y1, y2, y3⟩ := hcl wr hk
      have hdk : NdOk (ls.getD k nd0) := hok _ (by rw [List.getD_eq_getElem?_getD, List.getElem?_eq_getElem hlt]; exact List.getElem_mem _)
      have HMK := Shut.mk (mkAll_take ls hlt)
      clear hcl
      generalize ls.getD k nd0 = d at y0 y1 y2 y3 hlr hdk HMK
      generalize mkAll (ls.take k) = ds at har hbr HMK
      have hd1 : ∀ W, Kept w W → RdN W (.agg #[.int .i64 d.op, .int .i64 d.n, .string (strB d.s), .slice la d.l.length lc]) d := fun W k => ⟨_, rfl, hlr.kept k⟩
      have ka : Kept wr (wr.alloc (.cells #[.int .i64 d.op, .int .i64 d.n, .string (strB d.s), .slice la d.l.length lc] 51)) := (Kept.refl wr).alloc _
      have bx := Blk.new wr [.int .i64 d.op, .int .i64 d.n, .string (strB d.s), .slice la d.l.length lc] 51
      have hmk := make_any (ArG.kept har ka) (ht.kept (hk.trans ka)) (hd1 _ (hk.trans ka)) hdk
      have hmb : ∀ W, Kept w W → ∀ G', ArR G' W pb ds → Calls Tryd.prog 27 #[pb, .agg #[.int .i64 d.op, .int .i64 d.n, .string (strB d.s), .slice la d.l.length lc]] W fun e w' => ∃ F' : Nat → Prop, e = .returned (.tuple #[.int .i64 (mk ds d).2.1, .int .i64 (mk ds d).2.2]) ∧ ArR F' w' pb (mk ds d).1 ∧ Turn G' W w' ∧ (∀ b, F' b → G' b ∨ W.heap.size ≤ b) :=
        fun W kk G' hh => makeR_any hh (hd1 W kk) hdk
      generalize mk ds d = m at hmk hmb HMK
      obtain ⟨ds2, t2, e2⟩ := m
      simp only at hmk hmb HMK
      go_wp2_with fail
      (with_reducible refine hmk.mono ?_)
      rintro e w8 ⟨F', rfl, r1, r2, r3⟩
      have hnF : ∀ b, F b → b < wr.heap.size := har.lt
      have hnG : ∀ b, G b → b < wr.heap.size := hbr.lt
      have x8 := bx.turn r2 (fun e => by have := hnF _ e; omega)
      have k8 : Kept w w8 := Turn.keptOf (hk.trans ka) r2 hF
      have g8 : ArR G w8 pb ds := ArG.turn (ArG.kept hbr ka) r2 (fun x h1 h2 => hd x h2 h1)
      have q0 := x8.cell 0
      have q1 := x8.cell 1
      have q2 := x8.cell 2
      have q3 := x8.cell 3
      simp only [List.getElem?_cons_succ, List.getElem?_cons_zero] at q0 q1 q2 q3
      have hmb8 := hmb w8 k8 G g8
      clear hmb hmk
      go_wp2_with fail
      (with_reducible refine hmb8.mono ?_)
      rintro e w9 ⟨G', rfl, s1, s2, s3⟩
      have k9 : Kept w w9 := Turn.keptOf k8 s2 hG
      have sz := ka.size
      have hd' : ∀ x, F' x → ¬ G' x := fun x h1 h2 => (s3 x h2).elim (fun h => (r3 x h1).elim (fun h' => hd x h' h) (fun h' => by have := hnG x h; omega)) (fun h => by have := r1.lt x h1; omega)
      have f9 : Ar F' w9 (.pointer (some aa)) ds2 := ArG.turn r1 s2 (fun x h1 h2 => (r3 x h1).elim (fun h' => hd x h' h2) (fun h' => by have := hnG x h2; omega))
      have hF' : ∀ x, F' x → w.heap.size ≤ x := fun x h => (r3 x h).elim (hF x) (fun c => by have := hk.size; omega)
      have hG' : ∀ x, G' x → w.heap.size ≤ x := fun x h => (s3 x h).elim (hG x) (fun c => Nat.le_trans k8.size c)
      clear hmb8 g8 x8 bx q0 q1 q2 q3
      go_wp2
      go_roundw
      case rel => exact ⟨k + 1, F', G', hlt, rfl, by rw [HMK.out]; exact f9, by rw [HMK.out]; exact s1, hd', hF', hG', k9⟩
      case measure => simp [intOf]; omega
    · obtain rfl : k = ls.length := by omega
      rw [List.take_length] at har hbr
      go_wp2
      go_ret2
      exact ⟨F, G, aa, pb, rfl, har, hbr, hd, hF, hG, hk⟩
end Go.Proofs.YtangbnmgkcmhbaaDoor
end

section
/- Walks of the statements of layer 5: live. -/
set_option linter.unusedSimpArgs false
set_option linter.unusedVariables false
namespace Go.Proofs.YtangbnmgkcmhbaaDoor
open Go.RowKit Go.Maps

theorem Rdv.blk {w : World} {g : Nat} {e : TypeId} {xs : List Value} {size n : Nat} (h : Blk w g e xs) (hl : xs.length = n * size) (hm : n ≤ maxLen) : Rdv size w (.slice (some ⟨g, 0, none⟩) n n) n xs := by
  refine ⟨_, n, rfl, hl, Nat.le_refl _, hm, (fun h => by cases h), fun ad had j u hj => ?_⟩
  obtain rfl := Option.some.inj had
  have := h.cell j
  rw [hj] at this
  rw [Addr.add_lit, Nat.zero_add]
  exact this
theorem knB_knL {ds : List Nd} {l : List Int} {t : Nat} (ht : t < ds.length) : knB (knL ds l) (t : Int) = derB ds l (t : Int) := by
  unfold knB knL
  rw [Int.toNat_natCast, List.getD_eq_getElem?_getD, List.getElem?_map, List.getElem?_range ht]
  rfl
theorem lvD1 : derB lvN [2] 1 = false := by
  cases h : derB lvN [2] 1 with
  | false => rfl
  | true =>
    have := lvNo (by simp) (derB_true.1 h)
    omega
theorem lvD2 : derB lvN [2, 0] 1 = true := derB_true.2 lvYes
theorem lvLooks' : looks lvN [2, 2, 3] = [[101, 110, 99, 35, 48], [101, 110, 99, 35, 48], [101, 110, 99, 35, 49]] := by
  have hno : ∀ t : Nat, t < 2 → knB (knL lvN [2, 2, 3]) (t : Int) = false := fun t ht => by
    rw [knB_knL (Nat.lt_of_lt_of_le ht (by decide))]
    cases h : derB lvN [2, 2, 3] (t : Int) with
    | false => rfl
    | true =>
      have := lvNo (by simp) (derB_true.1 h)
      omega
  unfold looks
  rw [lvLooks _ (hno 0 (by decide)) (hno 1 (by decide))]

theorem lit4r (w : World) (a b c d : Int) : RdI (w.alloc (.cells #[.int .i64 a, .int .i64 b, .int .i64 c, .int .i64 d] 3)) (.slice (some ⟨w.heap.size, 0, none⟩) 4 4) [a, b, c, d] :=
  (Ownv.lit (B := 0) 3 (w := w) [.int .i64 a, .int .i64 b, .int .i64 c, .int .i64 d] (Nat.zero_le _) (by unfold maxLen; simp)).rdv
theorem lit2r (w : World) (a b : Int) : RdI (w.alloc (.cells #[.int .i64 a, .int .i64 b] 3)) (.slice (some ⟨w.heap.size, 0, none⟩) 2 2) [a, b] :=
  (Ownv.lit (B := 0) 3 (w := w) [.int .i64 a, .int .i64 b] (Nat.zero_le _) (by unfold maxLen; simp)).rdv
theorem lit3r (w : World) (a b c : Int) : RdI (w.alloc (.cells #[.int .i64 a, .int .i64 b, .int .i64 c] 3)) (.slice (some ⟨w.heap.size, 0, none⟩) 3 3) [a, b, c] :=
  (Ownv.lit (B := 0) 3 (w := w) [.int .i64 a, .int .i64 b, .int .i64 c] (Nat.zero_le _) (by unfold maxLen; simp)).rdv
theorem lvRd (w : World) : RdNs (((w.alloc (.cells #[.int .i64 0, .int .i64 1, .int .i64 1, .int .i64 1] 3)).alloc (.cells #[.int .i64 0, .int .i64 0, .int .i64 1, .int .i64 1] 3)).alloc (.cells #[.int .i64 1, .int .i64 0, .string ⟨#[]⟩, .slice none 0 0, .int .i64 1, .int .i64 1, .string ⟨#[]⟩, .slice none 0 0, .int .i64 9, .int .i64 0, .string ⟨#[]⟩, .slice (some ⟨w.heap.size, 0, none⟩) 4 4, .int .i64 9, .int .i64 0, .string ⟨#[]⟩, .slice (some ⟨w.heap.size + 1, 0, none⟩) 4 4] 51)) (.slice (some ⟨w.heap.size + 1 + 1, 0, none⟩) 4 4) lvN ∧ Kept w (((w.alloc (.cells #[.int .i64 0, .int .i64 1, .int .i64 1, .int .i64 1] 3)).alloc (.cells #[.int .i64 0, .int .i64 0, .int .i64 1, .int .i64 1] 3)).alloc (.cells #[.int .i64 1, .int .i64 0, .string ⟨#[]⟩, .slice none 0 0, .int .i64 1, .int .i64 1, .string ⟨#[]⟩, .slice none 0 0, .int .i64 9, .int .i64 0, .string ⟨#[]⟩, .slice (some ⟨w.heap.size, 0, none⟩) 4 4, .int .i64 9, .int .i64 0, .string ⟨#[]⟩, .slice (some ⟨w.heap.size + 1, 0, none⟩) 4 4] 51)) := by
  have s1 : (w.alloc (.cells #[.int .i64 0, .int .i64 1, .int .i64 1, .int .i64 1] 3)).heap.size = w.heap.size + 1 := alloc_size _ _
  have s2 : ((w.alloc (.cells #[.int .i64 0, .int .i64 1, .int .i64 1, .int .i64 1] 3)).alloc (.cells #[.int .i64 0, .int .i64 0, .int .i64 1, .int .i64 1] 3)).heap.size = w.heap.size + 1 + 1 := by rw [alloc_size, s1]
  have kA : Kept w (w.alloc (.cells #[.int .i64 0, .int .i64 1, .int .i64 1, .int .i64 1] 3)) := (Kept.refl _).alloc _
  have kB : Kept (w.alloc (.cells #[.int .i64 0, .int .i64 1, .int .i64 1, .int .i64 1] 3)) ((w.alloc (.cells #[.int .i64 0, .int .i64 1, .int .i64 1, .int .i64 1] 3)).alloc (.cells #[.int .i64 0, .int .i64 0, .int .i64 1, .int .i64 1] 3)) := (Kept.refl _).alloc _
  have kC : Kept ((w.alloc (.cells #[.int .i64 0, .int .i64 1, .int .i64 1, .int .i64 1] 3)).alloc (.cells #[.int .i64 0, .int .i64 0, .int .i64 1, .int .i64 1] 3)) (((w.alloc (.cells #[.int .i64 0, .int .i64 1, .int .i64 1, .int .i64 1] 3)).alloc (.cells #[.int .i64 0, .int .i64 0, .int .i64 1, .int .i64 1] 3)).alloc (.cells #[.int .i64 1, .int .i64 0, .string ⟨#[]⟩, .slice none 0 0, .int .i64 1, .int .i64 1, .string ⟨#[]⟩, .slice none 0 0, .int .i64 9, .int .i64 0, .string ⟨#[]⟩, .slice (some ⟨w.heap.size, 0, none⟩) 4 4, .int .i64 9, .int .i64 0, .string ⟨#[]⟩, .slice (some ⟨w.heap.size + 1, 0, none⟩) 4 4] 51)) := (Kept.refl _).alloc _
  have r1 := ((lit4r w 0 1 1 1).kept kB).kept kC
  have r2 := (lit4r (w.alloc (.cells #[.int .i64 0, .int .i64 1, .int .i64 1, .int .i64 1] 3)) 0 0 1 1).kept kC
  rw [s1] at r2
  have bl := Blk.new ((w.alloc (.cells #[.int .i64 0, .int .i64 1, .int .i64 1, .int .i64 1] 3)).alloc (.cells #[.int .i64 0, .int .i64 0, .int .i64 1, .int .i64 1] 3)) [.int .i64 1, .int .i64 0, .string ⟨#[]⟩, .slice none 0 0, .int .i64 1, .int .i64 1, .string ⟨#[]⟩, .slice none 0 0, .int .i64 9, .int .i64 0, .string ⟨#[]⟩, .slice (some ⟨w.heap.size, 0, none⟩) 4 4, .int .i64 9, .int .i64 0, .string ⟨#[]⟩, .slice (some ⟨w.heap.size + 1, 0, none⟩) 4 4] 51
  rw [s2] at bl
  refine ⟨⟨[.slice none 0 0, .slice none 0 0, .slice (some ⟨w.heap.size, 0, none⟩) 4 4, .slice (some ⟨w.heap.size + 1, 0, none⟩) 4 4], rfl, Rdv.blk bl rfl (by unfold maxLen; decide), fun i hi => ?_⟩, (kA.trans kB).trans kC⟩
  have hi' : i < 4 := hi
  match i, hi' with
  | 0, _ => exact RdI.nil _
  | 1, _ => exact RdI.nil _
  | 2, _ => exact r1
  | 3, _ => exact r2
theorem lvOk : ∀ d ∈ lvN, NdOk d := fun d hd => by
  have h64 : ∀ x : Int, x = 0 ∨ x = 1 → I64 x := fun x hx => by unfold I64; omega
  unfold lvN at hd
  simp only [List.mem_cons, List.not_mem_nil, or_false] at hd
  rcases hd with rfl | rfl | rfl | rfl
  · exact ⟨i64_lit (by simp), i64_lit (by simp), by simp, fun x hx => by cases hx⟩
  · exact ⟨i64_lit (by simp), i64_lit (by simp), by simp, fun x hx => by cases hx⟩
  · exact ⟨i64_lit (by simp), i64_lit (by simp), by simp, fun x hx => h64 x (by simp at hx; omega)⟩
  · exact ⟨i64_lit (by simp), i64_lit (by simp), by simp, fun x hx => h64 x (by simp at hx; omega)⟩
theorem lvT (l : List Int) (h : ∀ x ∈ l, 0 ≤ x ∧ x < 4) : termsB lvN l = true := by
  unfold termsB
  rw [List.all_eq_true]
  intro x hx
  have := h x hx
  exact decide_eq_true ⟨this.1, by show x < ((4 : Nat) : Int); omega⟩

set_option maxHeartbeats 4000000 in
set_option maxRecDepth 100000 in
theorem live5_any {w : World} (ht : TabsD w) : Calls Tryd.prog 8 #[] w fun e w' => e = .returned (.bool true) ∧ Kept w w' := by
  obtain ⟨hr, k0⟩ := lvRd w
  have h2 := two_any hr lvOk (ht.kept k0).tabs

  have HTB := Shut.mk ht
  have HK0 := Shut.mk k0
  clear hr k0 ht
  go_enter Tryd.func8, Tryd.ntmps8
  go_wp2_with fail
  (with_reducible refine h2.mono ?_)
  clear h2
  rintro e w1 ⟨F, G, aa, q, rfl, ha, hb, _, hF, hG, k1⟩
  rw [lvAll] at ha hb
  have k01 := HK0.out.trans k1
  have HA := Shut.mk ha
  have HK1 := Shut.mk k01
  clear ha hb hF hG k1 k01
  have kd : Kept w1 (w1.alloc (.cells #[.int .i64 2] 3)) := (Kept.refl w1).alloc _
  have hd1 := derives_any (ArG.kept HA.out kd) (OwnI.rd (lit1 w1 2)) 1 ⟨by decide, by decide⟩ (lvT [2] (by simp)) (by simp)
  rw [lvD1] at hd1
  clear kd
  go_wp2_with fail
  (with_reducible refine hd1.mono ?_)
  clear hd1
  rintro e w2 ⟨rfl, k2⟩
  have HK2 := Shut.mk (HK1.out.trans (((Kept.refl w1).alloc _).trans k2))
  have HA2 : Shut (Ar F w2 (.pointer (some aa)) lvN) := ⟨ArG.kept HA.out (((Kept.refl w1).alloc _).trans k2)⟩
  clear k2
  have kd : Kept w2 (w2.alloc (.cells #[.int .i64 2, .int .i64 0] 3)) := (Kept.refl w2).alloc _
  have hd1 := derives_any (ArG.kept HA2.out kd) (lit2r w2 2 0) 1 ⟨by decide, by decide⟩ (lvT [2, 0] (by simp)) (by simp)
  rw [lvD2] at hd1
  clear kd
  go_wp2_with fail
  (with_reducible refine hd1.mono ?_)
  clear hd1
  rintro e w3 ⟨rfl, k3⟩
  have HK3 := Shut.mk (HK2.out.trans (((Kept.refl w2).alloc _).trans k3))
  have HA3 : Shut (Ar F w3 (.pointer (some aa)) lvN) := ⟨ArG.kept HA2.out (((Kept.refl w2).alloc _).trans k3)⟩
  clear k3
  have kd : Kept w3 (w3.alloc (.cells #[.int .i64 2, .int .i64 2, .int .i64 3] 3)) := (Kept.refl w3).alloc _
  have hp := patternA (HTB.out.kept (HK3.out.trans kd)) (ArG.kept HA3.out kd) (lit3r w3 2 2 3) (lvT [2, 2, 3] (by simp)) (by simp) (by rw [lvLooks']; decide)
  rw [lvLooks'] at hp
  clear kd
  go_wp2_with fail
  (with_reducible refine hp.mono ?_)
  clear hp
  rintro e w4 ⟨u, rfl, o4, k4⟩
  have HK4 := Shut.mk (HK3.out.trans (((Kept.refl w3).alloc _).trans k4))
  clear k4
  have kd : Kept w4 (w4.alloc (.cells #[.string ⟨#[101, 110, 99, 35, 48]⟩, .string ⟨#[101, 110, 99, 35, 48]⟩, .string ⟨#[101, 110, 99, 35, 49]⟩] 9)) := (Kept.refl w4).alloc _
  have rl : RdT _ (.slice (some ⟨w4.heap.size, 0, none⟩) 3 3) [[101, 110, 99, 35, 48], [101, 110, 99, 35, 48], [101, 110, 99, 35, 49]] := Rdv.blk (Blk.new w4 [.string ⟨#[101, 110, 99, 35, 48]⟩, .string ⟨#[101, 110, 99, 35, 48]⟩, .string ⟨#[101, 110, 99, 35, 49]⟩] 9) rfl (by unfold maxLen; decide)
  have hs := sameTexts_any ((OwnT.rd o4).kept kd) rl
  rw [decide_eq_true rfl] at hs
  clear kd rl o4
  go_wp2_with fail
  (with_reducible refine hs.mono ?_)
  clear hs
  rintro e w5 ⟨rfl, k5⟩
  go_wp2
  go_ret
  exact ⟨rfl, HK4.out.trans (((Kept.refl w4).alloc _).trans k5)⟩
end Go.Proofs.YtangbnmgkcmhbaaDoor
end

section
/- The walk of DeduceMore. -/
set_option linter.unusedSimpArgs false
set_option linter.unusedVariables false
namespace Go.Proofs.YtangbnmgkcmhbaaDoor
open Go.RowKit Go.Maps

theorem rowL2 (w : World) (la ma : Option Addr) (a b lc mc : Nat) (ha : (a : Int) ≤ 9223372036854775807) (hb : (b : Int) ≤ 9223372036854775807) : RowL (w.alloc (.cells #[.slice la a lc, .slice ma b mc] 23)) w.heap.size [a, b] := by
  have bl := Blk.new w [.slice la a lc, .slice ma b mc] 23
  refine ⟨bl.lt, fun j hj => ?_⟩
  have hj' : j < 2 := hj
  match j, hj' with
  | 0, _ => exact ⟨la, lc, bl.cell 0, by simp; omega⟩
  | 1, _ => exact ⟨ma, mc, bl.cell 1, by simp; omega⟩
theorem termsB_append {ds : List Nd} {l m : List Int} (h1 : termsB ds l = true) (h2 : ∀ x ∈ m, IsT ds x) : termsB ds (l ++ m) = true := by
  unfold termsB
  rw [List.all_eq_true]
  intro x hx
  exact decide_eq_true ((List.mem_append.1 hx).elim (termsB_all h1 x) (h2 x))
theorem derB_eq {ds : List Nd} {l us : List Int} (h : Knows ds l us) (t : Int) : derB ds us t = derB ds l t := by
  have h1 := @derB_true ds l t
  have h2 := @derB_true ds us t
  have h3 := h.same t
  cases ha : derB ds l t <;> cases hb : derB ds us t <;> simp_all

set_option maxHeartbeats 8000000 in
set_option maxRecDepth 100000 in
theorem more_walk {w : World} {v u u2 : Value} {ls : List Nd} {l m : List Int} (hv : RdNs w v ls) (hok : ∀ d ∈ ls, NdOk d) (hl : RdI w u l) (_hl64 : ∀ x ∈ l, I64 x) (hm : RdI w u2 m) (_hm64 : ∀ x ∈ m, I64 x) (ht : TabsD w) :
    Calls Tryd.prog 5 #[v, u, u2] w fun e w' => e = .returned (.bool true) ∧ Kept w w' := by
  obtain ⟨na, ncap, rfl, n1, n2, _⟩ := hv.len
  obtain ⟨la, lc, rfl, l1, l2, _⟩ := hl.len
  obtain ⟨ma, mc, rfl, m1, m2, _⟩ := hm.len
  have l63 : ((l.length : Nat) : Int) ≤ 9223372036854775807 := by unfold maxLen at l2; omega
  have m63 : ((m.length : Nat) : Int) ≤ 9223372036854775807 := by unfold maxLen at m2; omega
  have HV := Shut.mk hv
  have HL := Shut.mk hl
  have HM := Shut.mk hm
  have HT := Shut.mk ht
  have HOK := Shut.mk hok
  clear hv hl hm ht hok n1 n2 l1 l2 m1 m2
  go_enter Tryd.func5, Tryd.ntmps5
  go_wp2_with fail
  (with_reducible refine (live5_any HT.out).mono ?_)
  rintro e w1 ⟨rfl, k1⟩
  have kb : Kept w1 (w1.alloc (.cells #[.slice la l.length lc, .slice ma m.length mc] 23)) := (Kept.refl w1).alloc _
  have hfew := few5_any ((HV.out.kept k1).kept kb) (cap := 2) (rowL2 w1 la ma l.length m.length lc mc l63 m63) (by simp)
  simp only [List.length_cons, List.length_nil, Nat.zero_add, Nat.reduceAdd] at hfew
  have HK1 := Shut.mk (k1.trans kb)
  clear k1 kb
  go_wp2_with fail
  (with_reducible refine hfew.mono ?_)
  clear hfew
  rintro e w2 ⟨b, rfl, hfew, k2⟩
  have HK2 := Shut.mk (HK1.out.trans k2)
  clear k2
  cases b with
  | false =>
    go_wp2
    go_ret
    exact ⟨rfl, HK2.out⟩
  | true =>
  have HF := Shut.mk (hfew rfl)
  have hl20 : l.length ≤ 20 := HF.out.2.2 0 (by simp)
  have hm20 : m.length ≤ 20 := HF.out.2.2 1 (by simp)
  have hls := HF.out.1
  clear hfew
  have h2 := two_any (HV.out.kept HK2.out) HOK.out (HT.out.kept HK2.out).tabs
  go_wp2_with fail
  (with_reducible refine h2.mono ?_)
  clear h2
  rintro e w3 ⟨F, G, aa, q, rfl, ha, hb, _, hF, hG, k3⟩
  have hdl := mkAll_len ls
  generalize mkAll ls = ds at ha hb hdl
  have HK3 := Shut.mk (HK2.out.trans k3)
  have HA := Shut.mk ha
  have HB := Shut.mk hb
  have HGD := Shut.mk ha.good
  clear ha hb hF hG k3
  by_cases hT : termsB ds l = true
  · have hkn := known_any HA.out (HL.out.kept HK3.out) hT (by omega)
    have HTL := Shut.mk hT
    clear hT
    go_wp2_with fail
    (with_reducible refine hkn.mono ?_)
    clear hkn
    rintro e w4 ⟨ux, us, rfl, ox, hkx, huL, k4⟩
    obtain ⟨xa, xc, rfl, _, _, _⟩ := (OwnI.rd ox).len
    have HKX := Shut.mk hkx
    have HOX := Shut.mk ox
    have HK4 := Shut.mk (HK3.out.trans k4)
    have HK34 := Shut.mk k4
    have husT : Shut (∀ x ∈ us, IsT ds x) := ⟨fun x hx => ((HKX.out.mem x).1 hx).1.isT HGD.out (termsB_all HTL.out)⟩
    have hsz4 : w.heap.size ≤ w4.heap.size := HK4.out.size
    clear hkx ox k4
    -- the second list
    have hlx := HL.out.kept HK4.out
    have hmx := HM.out.kept HK4.out
    by_cases hT2 : termsB ds (l ++ m) = true
    · have HT2 := Shut.mk hT2
      clear hT2
      go_wp2_with (first
        | (at_builtin; refine go_appi w.heap.size _ [] rfl (OwnI.nil _ _) _ l rfl hlx (by simp; omega) hsz4 ?_; intro v6 w6 o6 t6 l6; have k6 : Kept w4 w6 := Turn.keptOf (Kept.refl w4) t6 (fun b hb => by cases hb); have hm6 := hmx.kept k6; have hs6 := Nat.le_trans hsz4 k6.size)
        | (at_builtin; refine go_appi w.heap.size _ ([] ++ l) rfl o6 _ m rfl hm6 (by simp; omega) hs6 ?_; intro v7 w7 o7 t7 l7; have k7 : Kept w4 w7 := Turn.keptOf k6 t7 (fun b hb => (l6 b hb).elim (fun c => by cases c) (fun c => c)); have hk2 := known_any (ArG.kept HA.out (HK34.out.trans k7)) (OwnI.rd o7) HT2.out (by simp; omega))
        | (go_at_call 11; (with_reducible refine hk2.mono ?_); rintro e w8 ⟨uy, ys, rfl, oy, hky, hyL, k8⟩))
      have HKY := Shut.mk (HKX.out.more hky)
      have k48 := k7.trans k8
      have HK8 := Shut.mk (HK4.out.trans k48)
      have HA8 := Shut.mk (ArG.kept HA.out (HK34.out.trans k48))
      have HB8 := Shut.mk (ArG.kept HB.out (HK34.out.trans k48))
      have hrx := (OwnI.rd HOX.out).kept k48
      have hry := OwnI.rd oy
      have hlx8 := HL.out.kept HK8.out
      have us63 : ((us.length : Nat) : Int) ≤ 9223372036854775807 := by omega
      have hsz8 : w.heap.size ≤ w8.heap.size := HK8.out.size
      clear k6 hm6 hs6 k7 hk2 o6 t6 l6 o7 t7 l7 hky k8 k48 oy hlx hmx hsz4
      obtain ⟨wq, rfl⟩ : ∃ wq : World, wq = w8 := ⟨_, rfl⟩
      go_loopw [68] (fun i wr => ∃ k : Nat, k ≤ us.length ∧ i = .int .i64 k ∧ wq = wr) (fun i _ => us.length - (intOf i).toNat)
      case atStart => exact ⟨0, Nat.zero_le _, rfl, rfl⟩
      case round =>
        obtain ⟨k, hk0, rfl, rfl⟩ := hrel
        by_cases hlt : k < us.length
        · obtain ⟨rb, ro, rc, hrv, _, _, hrb, hcl⟩ := hrx.addr (by omega)
          simp only [Value.slice.injEq] at hrv
          obtain ⟨rfl, _, rfl⟩ := hrv
          have hcw := hcl k hlt
          clear hcl
          have hxm := getD_mem (l := us) hlt
          have hxT := husT.out _ hxm
          have hxy := HKY.out _ hxm
          generalize us.getD k 0 = x at hcw hxm hxT hxy
          have hin := inR_any hry (n := x) ⟨by have := hxT.1; omega, by have := hxT.2; omega⟩
          rw [decide_eq_true hxy] at hin
          have hltI : (k : Int) < (us.length : Int) := by omega
          have HLT := Shut.mk hlt
          clear hxm hxT hxy
          go_wp2_with (go_at_call 22; refine hin.mono ?_; rintro e w9 ⟨rfl, rfl⟩)
          go_roundw
          case rel => exact ⟨k + 1, HLT.out, rfl, by first | rfl | trivial⟩
          case measure => simp [intOf]; omega
        · obtain rfl : k = us.length := by omega
          clear hlt hk0
          have hT3 := Shut.mk (termsB_append HTL.out husT.out)
          go_wp2_with (first
            | (at_builtin; refine go_appi w.heap.size _ [] rfl (OwnI.nil _ _) _ l rfl hlx8 (by simp; omega) hsz8 ?_; intro v6 w6 o6 t6 l6; have k6 : Kept wq w6 := Turn.keptOf (Kept.refl wq) t6 (fun b hb => by cases hb); have hm6 := hrx.kept k6; have hs6 := Nat.le_trans hsz8 k6.size)
            | (at_builtin; refine go_appi w.heap.size _ ([] ++ l) rfl o6 _ us rfl hm6 (by simp; omega) hs6 ?_; intro v7 w7 o7 t7 l7; have k7 : Kept wq w7 := Turn.keptOf k6 t7 (fun b hb => (l6 b hb).elim (fun c => by cases c) (fun c => c)); have hk2 := known_any (ArG.kept HA8.out k7) (OwnI.rd o7) hT3.out (by simp; omega))
            | (go_at_call 11; (with_reducible refine hk2.mono ?_); rintro e w9 ⟨uz, zs, rfl, oz, hkz, hzL, k9⟩; have hsi := sameInts_any (hrx.kept (k7.trans k9)) (OwnI.rd oz); rw [decide_eq_true (HKX.out.adds hkz)] at hsi)
            | (go_at_call 15; (with_reducible refine hsi.mono ?_); rintro e w10 ⟨rfl, k10⟩; have k810 := (k7.trans k9).trans k10; have hln := lenR (ArG.kept HB8.out k810))
            | (go_at_call 23; refine hln.mono ?_; rintro e w11 ⟨rfl, rfl⟩))
          have HK10 := Shut.mk (HK8.out.trans k810)
          have HA10 := Shut.mk (ArG.kept HA8.out k810)
          have hrx10 := hrx.kept k810
          have hlx10 := hlx8.kept k810
          have d63 : ((ds.length : Nat) : Int) ≤ 9223372036854775807 := by omega
          clear k6 hm6 hs6 k7 hk2 o6 t6 l6 o7 t7 l7 hkz k9 k10 k810 oz hrx hlx8 hsi hln
          go_loopw [96] (fun i wr => ∃ k : Nat, k ≤ ds.length ∧ i = .int .i64 k ∧ Kept w10 wr) (fun i _ => ds.length - (intOf i).toNat)
          case atStart => exact ⟨0, Nat.zero_le _, rfl, Kept.refl _⟩
          case round =>
            obtain ⟨k, hk0, rfl, hk⟩ := hrel
            by_cases hlt : k < ds.length
            · have hgT : IsT ds (k : Int) := ⟨by omega, by omega⟩
              have hd1 := derives_any (ArG.kept HA10.out hk) (hlx10.kept hk) (k : Int) hgT HTL.out (by omega)
              have hd2 := fun W (kW : Kept wr W) => derives_any (ArG.kept (ArG.kept HA10.out hk) kW) ((hrx10.kept hk).kept kW) (k : Int) hgT (terms_of husT.out) (by omega)
              rw [derB_eq HKX.out] at hd2
              generalize derB ds l (k : Int) = bb at hd1 hd2
              have HLT := Shut.mk hlt
              clear hgT
              go_wp2_with fail
              (with_reducible refine hd1.mono ?_)
              rintro e w12 ⟨rfl, k12⟩
              have hd3 := hd2 w12 k12
              clear hd1 hd2
              go_wp2_with fail
              (with_reducible refine hd3.mono ?_)
              rintro e w13 ⟨rfl, k13⟩
              clear hd3
              go_wp2
              go_roundw
              case rel => exact ⟨k + 1, HLT.out, rfl, (hk.trans k12).trans k13⟩
              case measure => simp [intOf]; omega
            · obtain rfl : k = ds.length := by omega
              go_wp2
              go_ret
              exact ⟨rfl, HK10.out.trans hk⟩
    · have hT2' : termsB ds (l ++ m) = false := by simpa using hT2
      have HT2 := Shut.mk hT2'
      clear hT2 hT2'
      go_wp2_with (first
        | (at_builtin; refine go_appi w.heap.size _ [] rfl (OwnI.nil _ _) _ l rfl hlx (by simp; omega) hsz4 ?_; intro v6 w6 o6 t6 l6; have k6 : Kept w4 w6 := Turn.keptOf (Kept.refl w4) t6 (fun b hb => by cases hb); have hm6 := hmx.kept k6; have hs6 := Nat.le_trans hsz4 k6.size)
        | (at_builtin; refine go_appi w.heap.size _ ([] ++ l) rfl o6 _ m rfl hm6 (by simp; omega) hs6 ?_; intro v7 w7 o7 t7 l7; have k7 : Kept w4 w7 := Turn.keptOf k6 t7 (fun b hb => (l6 b hb).elim (fun c => by cases c) (fun c => c)); have hk2 := known_bad (ArG.kept HA.out (HK34.out.trans k7)) (OwnI.rd o7) HT2.out)
        | (go_at_call 11; refine hk2.mono ?_; rintro e w8 ⟨rfl, rfl⟩))
      go_ret
      exact ⟨rfl, HK4.out.trans k7⟩
  · have hT' : termsB ds l = false := by simpa using hT
    have hkn := known_bad HA.out (HL.out.kept HK3.out) hT'
    clear hT hT'
    go_wp2_with (go_at_call 11; refine hkn.mono ?_; rintro e w4 ⟨rfl, rfl⟩)
    go_ret
    exact ⟨rfl, HK3.out⟩
end Go.Proofs.YtangbnmgkcmhbaaDoor
end
