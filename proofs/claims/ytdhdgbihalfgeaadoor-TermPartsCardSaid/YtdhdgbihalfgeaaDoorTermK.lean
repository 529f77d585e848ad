/- Walks of package term: within, Size. -/
import Derived.Test.YtdhdgbihalfgeaaDoorTermB
import Derived.Test.YtdhdgbihalfgeaaDoorTermR
import Derived.Deep.AppendLies
set_option linter.unusedSimpArgs false
set_option linter.unusedVariables false
namespace Go.Proofs.YtdhdgbihalfgeaaDoor
open Go.RowKit Go.Maps

theorem i64_wf {x : Int} (h : I64 x) : (Lit.int .i64 x).wf = true := WalkArith.wf_i64 h
theorem keyInt {x : Int} (h : I64 x) : keyOf Tryd.prog 3 (.int .i64 x) = some (.int .i64 x) := keyOf_int_mk Tryd.underlying3 (i64_wf h)
theorem isKeyInt {x : Int} (h : I64 x) : WideAt.IsKeyLit (.int .i64 x) := by first | trivial | exact i64_wf h | simpa [WideAt.IsKeyLit] using i64_wf h

/-- Block mb is a set of numbers: those of ks, each once. -/
def MapSet (w : World) (mb : Nat) (ks : List Int) : Prop :=
  ∃ (D : DataW Unit) (n : Nat), w.ownsMap Tryd.prog 3 unitElem mb n D ∧ n ≤ ks.length ∧ Maps.size D = ks.length ∧ ∀ x, Maps.has D (.int .i64 x) = true ↔ x ∈ ks

theorem MapSet.made (w : World) : MapSet (w.alloc (.map #[] 0)) w.heap.size [] :=
  ⟨.map [], 0, World.ownsMap_made w _ _ _, Nat.le_refl _, rfl, fun x => by simp [Maps.has]⟩
theorem MapSet.turn {w w' : World} {mb : Nat} {ks : List Int} {F : Nat → Prop} (h : MapSet w mb ks) (t : Turn F w w') (hn : ¬ F mb) : MapSet w' mb ks := by
  obtain ⟨D, n, h1, r⟩ := h
  exact ⟨D, n, ownsMap_turn h1 t hn, r⟩
theorem MapSet.kept {w w' : World} {mb : Nat} {ks : List Int} (h : MapSet w mb ks) (k : Kept w w') : MapSet w' mb ks := h.turn (k.turn (fun _ => False)) (fun x => x)
theorem MapSet.notBlk {w : World} {mb : Nat} {ks : List Int} (h : MapSet w mb ks) {B : Nat} {e : TypeId} {size m : Nat} {v : Value} {xs : List Value} (h' : Ownv B e size w v m xs) : ¬ Blks v mb := by
  obtain ⟨D, n, h1, r⟩ := h
  exact ownsMap_notBlk h1 h'
theorem MapSet.lt {w : World} {mb : Nat} {ks : List Int} (h : MapSet w mb ks) : mb < w.heap.size := by
  obtain ⟨D, n, h1, r⟩ := h
  exact h1.lt
/-- How many entries the map of a block has. -/
def entries (w : World) (b : Nat) : Nat := match w.heap[b]? with | some (.map es _) => es.size | _ => 0
theorem MapSet.entries {w : World} {mb : Nat} {ks : List Int} (h : MapSet w mb ks) : entries w mb = ks.length := by
  obtain ⟨D, n, ⟨es, clock, hb, _, _, rfl⟩, _, h3, _⟩ := h
  rw [← h3]
  simp [Proofs.YtdhdgbihalfgeaaDoor.entries, hb, Maps.size, length_sorted]

theorem go_set_put {w : World} {ops : Array Oper} {rest : List Oper} {o : Oper} {a : Act} {Q : Exit → Act → World → Prop} (hg : o.guard = none) (m x v : Operand) (hop : o.op = Op.mapUpdate 71 m x v)
    (mb : Nat) (ks : List Int) (hm : a.eval m = .map (some mb)) (h : MapSet w mb ks) (hl : ks.length ≤ 1000000) (z : Int) (hz : I64 z) (hn : z ∉ ks) (hx : a.eval x = .int .i64 z) (hv : a.eval v = .agg #[])
    (hK : ∀ w', MapSet w' mb (z :: ks) → Turn (fun b => b = mb) w w' → wpList Tryd.prog ops Q rest (a.put o.dst undef) w') : wpList Tryd.prog ops Q (o :: rest) a w := by
  obtain ⟨D, n, h1, h2, h3, h4⟩ := h
  refine wpList_mapUpdate_own w hg m x v 71 hop 3 89 (int_keyed Tryd.underlying3) Tryd.underlying71 unitElem mb n D hm h1 (by unfold maxLen; omega) _ _ (.int .i64 z) hx hv (keyInt hz) (.agg []) [] unitElem_mk ?_
  intro w' o' g'
  have hk := isKeyInt hz
  have hh : Maps.has D (.int .i64 z) = false := by
    cases hc : Maps.has D (.int .i64 z) with
    | false => rfl
    | true => exact absurd ((h4 z).1 hc) hn
  refine hK w' ⟨_, _, o', by simp; omega, ?_, fun y => ?_⟩ ((Grown.turn g').mono fun b hb => by simpa using hb)
  · rw [size_put (h1.tidy (int_keyed Tryd.underlying3)), hh, h3]; rfl
  · by_cases c : y = z
    · subst c
      rw [has_put_same h1.isMap hk]; simp
    · rw [has_put_other (fun e => c (by injection e)), h4 y]
      simp [c]

theorem go_set_has {w : World} {ops : Array Oper} {rest : List Oper} {o : Oper} {a : Act} {Q : Exit → Act → World → Prop} (hg : o.guard = none) (m x : Operand) (hop : o.op = Op.lookup 71 m x true)
    (mb : Nat) (ks : List Int) (hm : a.eval m = .map (some mb)) (h : MapSet w mb ks) (z : Int) (hz : I64 z) (hx : a.eval x = .int .i64 z) (b : Bool) (hb : b = true ↔ z ∈ ks)
    (hK : wpList Tryd.prog ops Q rest (a.put o.dst (.tuple #[.agg #[], .bool b])) w) : wpList Tryd.prog ops Q (o :: rest) a w := by
  obtain ⟨D, n, h1, h2, h3, h4⟩ := h
  have e : Maps.has D (.int .i64 z) = b := by
    cases hc : Maps.has D (.int .i64 z) with
    | true => exact (hb.2 ((h4 z).1 hc)).symm
    | false =>
      cases b with
      | false => rfl
      | true =>
        have := (h4 z).2 (hb.1 rfl)
        rw [hc] at this; cases this
  refine wpList_lookup_own_unit w hg m x 71 hop 3 89 (int_keyed Tryd.underlying3) Tryd.underlying71 (by kernel_rfl) mb n D hm h1 _ (.int .i64 z) hx (keyInt hz) ?_
  rw [e]
  exact hK

theorem go_set_len {w : World} {ops : Array Oper} {rest : List Oper} {o : Oper} {a : Act} {Q : Exit → Act → World → Prop} (hg : o.guard = none) (m : Operand) (hop : o.op = Op.call { callee := Callee.builtin Builtin.len, args := #[m], argTypes := #[71] })
    (mb : Nat) (ks : List Int) (hm : a.eval m = .map (some mb)) (h : MapSet w mb ks) (hK : wpList Tryd.prog ops Q rest (a.put o.dst (.int .i64 ks.length)) w) : wpList Tryd.prog ops Q (o :: rest) a w := by
  obtain ⟨D, n, h1, h2, h3, h4⟩ := h
  refine wpList_len_own w hg m 71 hop 3 89 Tryd.underlying71 unitElem mb n D hm h1 ?_
  rw [h3]
  exact hK
theorem OwnI.lit1 (w : World) (z : Int) : OwnI w.heap.size (w.alloc (.cells #[.int .i64 z] 3)) (.slice (some ⟨w.heap.size, 0, none⟩) 1 1) [z] :=
  Ownv.lit (B := w.heap.size) 3 (w := w) [.int .i64 z] (Nat.le_refl _) (by unfold maxLen; simp)
/-- The first k of a row are a row. -/
theorem OwnI.take {B : Nat} {w : World} {g cap : Nat} {zs : List Int} {n : Nat} (h : OwnI B w (.slice (some ⟨g, 0, none⟩) n cap) zs) (k : Nat) (hk : k ≤ zs.length) : OwnI B w (.slice (some ⟨g, 0, none⟩) k cap) (zs.take k) := by
  obtain ⟨h1, h2⟩ := h
  have hl : (zs.take k).length = k := by rw [List.length_take]; omega
  rcases h2 with ⟨e, _⟩ | ⟨g', cap', cur, hv, hb, hg, hn, hm, hs, ht⟩
  · cases e
  · simp only [Value.slice.injEq, Option.some.injEq, Addr.mk.injEq] at hv
    obtain ⟨⟨rfl, _, _⟩, hn', rfl⟩ := hv
    unfold OwnI Ownv
    rw [hl]
    refine ⟨by rw [List.length_map, hl, Nat.mul_one], .inr ⟨g, cap, cur, rfl, hb, hg, by omega, hm, hs, ?_⟩⟩
    rw [Nat.mul_one] at ht ⊢
    have := congrArg (List.take k) ht
    rw [List.take_take, Nat.min_eq_left (by omega)] at this
    rw [this, List.map_take]

def lenV : Value → Nat
  | .slice _ n _ => n
  | _ => 0

set_option maxHeartbeats 4000000 in
set_option maxRecDepth 100000 in
theorem within_any {F : Nat → Prop} {w : World} {p : Value} {ds : List Nd} (h : Ar F w p ds) {t : Int} (ht : I64 t) :
    Calls Tryd.prog 41 #[p, .int .i64 t] w fun e w' => ∃ (mb : Nat) (ks : List Int), e = .returned (.map (some mb)) ∧ MapSet w' mb ks ∧ Parts ds t ks ∧ Kept w w' ∧ w.heap.size ≤ mb := by
  have hmm := @run_makeMap Tryd.prog
  have HH := Shut.mk h
  have k1 : Kept w (w.alloc (.map #[] 0)) := (Kept.refl w).alloc _
  have m1 := MapSet.made w
  have hsz := alloc_size w (.map #[] 0)
  by_cases hin : 0 ≤ t ∧ t < ds.length
  · obtain ⟨pb, mb0, nv, rfl, q0, q1, hns⟩ := ArG.nodes h
    obtain ⟨t0, t1⟩ := hin
    obtain ⟨nb, noff, ncap, lvs, rfl, _, _, hnb, hnc, hnl⟩ := hns.addr (by omega)
    have hg := h.good
    have hfew := h.few
    have HF := Shut.mk hfew
    clear h hfew hns
    have hq := World.block_lt_of_cell? _ _ q0
    go_enter Tryd.func41, Tryd.ntmps41
    go_wp2_with (first
      | (go_at_call 35; refine (arg_has_t (ArG.kept HH.out k1) t0 t1).mono ?_; rintro e w' ⟨rfl, rfl⟩)
      | (at_mapUpdate; refine go_set_put rfl _ _ _ rfl w.heap.size [] rfl m1 (by simp) t ht (by simp) rfl rfl ?_; intro w2 m2 t2))
    have k2 : Kept w w2 := Turn.keptOf k1 t2 (fun b hb => by omega)
    have o3 := OwnI.lit1 w2 t
    have k3 : Kept w (w2.alloc (.cells #[.int .i64 t] 3)) := k2.alloc _
    have m3 : MapSet (w2.alloc (.cells #[.int .i64 t] 3)) w.heap.size [t] := m2.kept ((Kept.refl w2).alloc _)
    have hb3 : ∀ b, Blks (.slice (some ⟨w2.heap.size, 0, none⟩) 1 1) b → w.heap.size ≤ b := fun b hb => Nat.le_trans k2.size (Ownv.lt o3 hb).2
    have o3' : OwnI 0 _ _ _ := o3.mono0
    generalize w2.alloc (.cells #[.int .i64 t] 3) = w3 at o3' k3 m3 ⊢
    have HG := Shut.mk hg
    have HNC := Shut.mk hnc
    clear hnc o3 hg
    go_loopw [6] (fun v wr => ∃ (zs ks : List Int), OwnI 0 wr v zs ∧ (∀ b, Blks v b → w.heap.size ≤ b) ∧ MapSet wr w.heap.size ks ∧ Dfs ds t zs ks ∧ Kept w wr ∧ zs.length ≤ ks.length) (fun v wr => 2 * (ds.length - entries wr w.heap.size) + lenV v)
    case atStart => exact ⟨[t], [t], o3', hb3, m3, Dfs.start t0 t1, k3, Nat.le_refl _⟩
    case round =>
      obtain ⟨zs, ks, ho, hb, hm, hd, hk, hzk⟩ := hrel
      by_cases hz : 0 < zs.length
      · obtain ⟨m, hm1⟩ : ∃ m, zs.length = m + 1 := ⟨zs.length - 1, by omega⟩
        obtain ⟨g, cap, rfl, _, hglt⟩ := World.ownsRow.form ho hz
        have hcell := World.ownsRow.cells ho rfl m (.int .i64 (zs.getD m 0)) (by simp [List.getD, List.getElem?_eq_getElem (show m < zs.length by omega)])
        rw [Addr.add_lit, Nat.zero_add] at hcell
        have hpop := hd.pop hz
        rw [hm1, Nat.add_sub_cancel] at hpop
        rw [hm1] at ho ⊢
        have HM1 := Shut.mk hm1
        clear hm1
        have otk := OwnI.take ho m (by have := HM1.out; omega)
        generalize hxv : zs.getD m 0 = x at hcell hpop
        have hxr := hpop.in' x hpop.x
        obtain ⟨x0, x1, x2, x3⟩ := hxr.bound HG.out
        obtain ⟨j, rfl⟩ := Int.eq_ofNat_of_zero_le x0
        have hjl : j < ds.length := by omega
        obtain ⟨y0, y1, y2, y3⟩ := HNC.out j hjl
        have z3 := hk.cell (p := ⟨nb, noff + j * 4 + 3, none⟩) hnb |>.trans y3
        have zq := hk.cell (p := ⟨pb, 0, none⟩) hq |>.trans q0
        have hlr := hnl j hjl
        have hmay := HG.out.may' hjl
        have hless := HG.out.lesser hjl
        clear y0 y1 y2 y3
        obtain ⟨la, lc, hlv, l1, l2, l3⟩ := hlr.len
        rw [hlv] at z3 hlr
        clear hlv
        have hll := hmay.len64
        have hpop' : Dfs2 ds t (j : Int) 0 (zs.take m) ks := hpop
        have hent := hm.entries
        have hkl : ks.length ≤ ds.length := nodup_le ds.length ks hd.once (fun x hx => by have := (hd.in' x hx).bound HG.out; omega)
        have HP := Shut.mk hpop'
        have HMAY := Shut.mk hmay
        have HLESS := Shut.mk hless
        clear hpop hpop' hmay hless hd hz
        generalize hL : (ds.getD j nd0).l = l at z3 hlr l1 l3 hll
        have HL := Shut.mk hL
        clear hL
        have j0 : (0 : Int) ≤ (j : Int) := by omega
        have j1 : (j : Int) < (ds.length : Int) := by omega
        have m0 : (0 : Int) < (m : Int) + 1 := by omega
        obtain ⟨hmcap, m63⟩ : m + 1 ≤ cap ∧ (m : Int) + 1 ≤ 9223372036854775807 := by
          obtain ⟨_, _, hv, _, hc, hc2, _⟩ := Ownv.rdv ho
          have := HM1.out
          simp only [Value.slice.injEq] at hv
          unfold maxLen at hc2
          omega
        go_wp2
        go_loopw [6, 46] (fun v i wr' => ∃ (k : Nat) (zs' ks' : List Int), k ≤ l.length ∧ i = .int .i64 k ∧ OwnI 0 wr' v zs' ∧ (∀ b, Blks v b → w.heap.size ≤ b) ∧ MapSet wr' w.heap.size ks' ∧ Dfs2 ds t (j : Int) k zs' ks' ∧ Kept w wr' ∧ ks'.length + m = ks.length + zs'.length ∧ m ≤ zs'.length) (fun _ i _ => l.length - (intOf i).toNat)
        case atStart => exact ⟨0, zs.take m, ks, Nat.zero_le _, rfl, otk, fun b hb' => hb b hb', hm, HP.out, hk, by rw [List.length_take, HM1.out]; omega, by rw [List.length_take, HM1.out]; omega⟩
        case round =>
          obtain ⟨k, zs', ks', hk0, rfl, ho', hb', hm', hd', hk', hcnt, hmz⟩ := hrel
          have HD' := Shut.mk hd'
          by_cases hlt : k < l.length
          · obtain ⟨rb, ro, rc, hrv, _, _, hrb, hcl⟩ := hlr.addr (by omega)
            simp only [Value.slice.injEq] at hrv
            obtain ⟨rfl, _, rfl⟩ := hrv
            have hcw := hk'.cell (p := ⟨rb, ro + k, none⟩) hrb |>.trans (hcl k hlt)
            have hmem : l.getD k 0 ∈ l := mem_getD hlt
            have hyb := HLESS.out (l.getD k 0) (by rw [HL.out]; exact hmem)
            have hlt2 := Shut.mk (show k < (ds.getD j nd0).l.length by rw [HL.out]; exact hlt)
            have HY : Shut ((ds.getD j nd0).l.getD k 0 = l.getD k 0) := ⟨by rw [HL.out]⟩
            clear hcl hmem hd'
            generalize l.getD k 0 = y at hcw hyb HY
            have hy64 : I64 y := by have := HF.out; unfold I64; omega
            have hks' : ks'.length ≤ 1000000 := by
              have := nodup_le ds.length ks' HD'.out.once (fun x hx => by have := (HD'.out.in' x hx).bound HG.out; omega)
              have := HF.out
              omega
            have hzs' : zs'.length ≤ 1000000 := by have := HM1.out; omega
            have HC := Shut.mk hcnt
            have HZ := Shut.mk hmz
            have HKS := Shut.mk hks'
            have HZS := Shut.mk hzs'
            clear hcnt hmz hks' hzs'
            by_cases hin : y ∈ ks'
            · go_wp2_with (at_lookup; refine go_set_has rfl _ _ rfl w.heap.size ks' rfl hm' y hy64 rfl true (by simp [hin]) ?_)
              go_roundw
              case rel =>
                have ka : Kept wr (wr.alloc (.cells #[] 89)) := (Kept.refl wr).alloc _
                exact ⟨k + 1, zs', ks', hlt, rfl, Ownv.kept ho' ka, hb', hm'.kept ka, HD'.out.old (by
                  show (ds.getD j nd0).l.getD k 0 ∈ ks'
                  rw [HY.out]; exact hin), hk'.trans ka, HC.out, HZ.out⟩
              case measure => simp [intOf]; omega
            · have ka : Kept wr (wr.alloc (.cells #[] 89)) := (Kept.refl wr).alloc _
              have hm2 := hm'.kept ka
              have ho2 : OwnI 0 _ _ _ := Ownv.kept ho' ka
              have hk2 := hk'.trans ka
              go_wp2_with (first
                | (at_lookup; refine go_set_has rfl _ _ rfl w.heap.size ks' rfl hm' y hy64 rfl false (by simp [hin]) ?_)
                | (at_mapUpdate; refine go_set_put rfl _ _ _ rfl w.heap.size ks' rfl hm2 HKS.out y hy64 hin rfl rfl ?_; intro w5 m5 t5;
                   have o5 : OwnI 0 w5 _ zs' := Ownv.turn ho2 t5 (fun b hb1 hb2 => by subst hb2; exact MapSet.notBlk hm2 ho2 hb1);
                   have k5 : Kept w w5 := Turn.keptOf hk2 t5 (fun b hb => by omega))
                | (at_builtin; refine go_appi 0 _ zs' rfl (Ownv.kept o5 ((Kept.refl w5).alloc _)) _ [y] rfl (OwnI.rd (OwnI.lit1 w5 y)) (by have := HZS.out; simp; omega) (Nat.zero_le _) ?_; intro v6 w6 o6 t6 l6))
              have ka5 : Kept w5 (w5.alloc (.cells #[.int .i64 y] 3)) := (Kept.refl w5).alloc _
              have m6 : MapSet w6 w.heap.size (y :: ks') := (m5.kept ka5).turn t6 (fun hb1 => MapSet.notBlk (m5.kept ka5) (Ownv.kept o5 ka5) hb1)
              have k6 : Kept w w6 := Turn.keptOf (k5.trans ka5) t6 hb'
              go_roundw
              case rel =>
                refine ⟨k + 1, zs' ++ [y], y :: ks', hlt, rfl, o6, fun b hb1 => ?_, m6, ?_, k6, ?_, ?_⟩
                · rcases l6 b hb1 with c | c
                  · exact hb' b c
                  · have := (k5.trans ka5).size; omega
                · have := HD'.out.new hlt2.out (by
                    show ¬ (ds.getD j nd0).l.getD k 0 ∈ ks'
                    rw [HY.out]; exact hin)
                  have e : (ds.getD (Int.toNat (j : Int)) nd0).l.getD k 0 = y := HY.out
                  rw [e] at this
                  exact this
                · have := HC.out; simp; omega
                · have := HZ.out; simp; omega
              case measure => simp [intOf]; omega
          · obtain rfl : k = l.length := by omega
            go_wp2
            go_roundw
            case rel =>
              refine ⟨zs', ks', ho', hb', hm', ?_, hk', by have := HM1.out; omega⟩
              have e : (ds.getD (Int.toNat (j : Int)) nd0).l.length = l.length := by show (ds.getD j nd0).l.length = _; rw [HL.out]
              exact Dfs2.done (by rw [e]; exact HD'.out)
            case measure =>
              have h1 := hm'.entries
              have h2 : ks'.length ≤ ds.length := nodup_le ds.length ks' HD'.out.once (fun x hx => by have := (HD'.out.in' x hx).bound HG.out; omega)
              obtain ⟨a6, c6, rfl, _, _, _⟩ := (OwnI.rd ho').len
              show 2 * (ds.length - entries _ w.heap.size) + zs'.length < 2 * (ds.length - entries _ w.heap.size) + (m + 1)
              rw [h1, hent]
              omega
      · obtain rfl : zs = [] := List.eq_nil_of_length_eq_zero (by omega)
        obtain ⟨a6, c6, rfl, _, _, _⟩ := (OwnI.rd ho).len
        go_wp2
        go_ret
        exact ⟨_, ks, rfl, hm, hd.done, hk, Nat.le_refl _⟩
  · clear h
    go_enter Tryd.func41, Tryd.ntmps41
    go_wp2_with (go_at_call 35; refine (arg_has_f (ArG.kept HH.out k1) hin).mono ?_; rintro e w' ⟨rfl, rfl⟩)
    go_ret
    exact ⟨_, [], rfl, m1, ⟨by simp, fun x => ⟨(fun hx => by cases hx), fun hx => by
      have := hx.bound HH.out.good
      omega⟩⟩, k1, Nat.le_refl _⟩

theorem size_any {F : Nat → Prop} {w : World} {p : Value} {ds : List Nd} (h : Ar F w p ds) {t : Int} (ht : I64 t) :
    Calls Tryd.prog 22 #[p, .int .i64 t] w fun e w' => ∃ ks : List Int, e = .returned (.int .i64 ks.length) ∧ Parts ds t ks ∧ Kept w w' := by
  go_enter Tryd.func22, Tryd.ntmps22
  go_wp2_with fail
  refine (within_any h ht).mono ?_
  rintro e w' ⟨mb, ks, rfl, h1, h2, h3, h4⟩
  go_wp2_with (at_len; refine go_set_len rfl _ rfl mb ks rfl h1 ?_)
  go_ret
  exact ⟨ks, rfl, h2, h3⟩
end Go.Proofs.YtdhdgbihalfgeaaDoor
