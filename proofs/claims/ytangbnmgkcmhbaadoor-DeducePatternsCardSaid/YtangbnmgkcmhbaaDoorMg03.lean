/- Texts of one proof, put together: Rising, DedB, DedC, NodesAt, DedD, DedE, DedF, DedG, DedI. -/
import Derived.Test.YtangbnmgkcmhbaaDoorMg02
import Derived.Deep.RegionHeldLaw
import Derived.Deep.RegionLaw
import Derived.Test.YtangbnmgkcmhbaaDoorMg01
import Derived.DeepKeys4
section
/- The document's Rising. -/
set_option linter.unusedSimpArgs false
set_option linter.unusedVariables false
namespace Go.Proofs.YtangbnmgkcmhbaaDoor
open Go.RowKit Go.Maps

/-- append to numbers of the call's own, at an operation: what is appended may be none. -/
theorem wp_appi {w : World} {o : Oper} {a : Act} {K : Act → World → Prop} {Q : Exit → Act → World → Prop} (s x : Operand)
    (ho : o.op = .call { callee := .builtin .append, args := #[s, x], argTypes := #[23, 23] })
    (B : Nat) (v : Value) (zs : List Int) (hs : a.eval s = v) (hw : OwnI B w v zs) (u : Value) (news : List Int) (hx : a.eval x = u) (hr : RdI w u news)
    (hl : zs.length + news.length ≤ 10000000000) (hB : B ≤ w.heap.size)
    (hK : ∀ v' w', OwnI B w' v' (zs ++ news) → Turn (Blks v) w w' → (∀ b, Blks v' b → Blks v b ∨ w.heap.size ≤ b) → K (a.put o.dst v') w') : o.wp Tryd.prog a w K Q := by
  obtain ⟨i0, hi, hz0, hz1, hz2⟩ := info_parts Tryd.infoInt
  obtain ⟨ao, cap, hu, hl', hc, hm, hno, hcell⟩ := hr
  cases ao with
  | none =>
    have e0 := hno rfl
    have em : news.length = 0 := by omega
    obtain rfl : news = [] := List.eq_nil_of_length_eq_zero em
    subst e0
    have hrun := run_append_owned_none (P := Tryd.prog) (w := w) B 23 o.type 3 i0 1 Tryd.underlying23 hi v zs.length (zs.map (Value.int .i64)) hw
    have hx' : a.eval x = .slice none 0 0 := hx.trans hu
    unfold Oper.wp
    simp [execOp, ho, resolve, invoke, builtin, hs, hx', hrun, Result.andThen]
    exact hK v w (by simpa using hw) (Turn.refl _ _) (fun b hb => .inl hb)
  | some ad =>
    obtain ⟨v', w', hrun, h2, h3, h4, h5⟩ := run_append_own_at (P := Tryd.prog) w B 23 o.type 3 i0 (.int .i64 0) 1 8 Tryd.underlying23 hi hz0 hz1 hz2 rfl (by decide) v zs.length (zs.map (Value.int .i64)) hw ad news.length cap (news.map (Value.int .i64)) hl' (hcell ad rfl) (ones_int .i64 news) (by unfold maxLen; omega) (by omega) hB
    have hx' : a.eval x = .slice (some ad) news.length cap := hx.trans hu
    unfold Oper.wp execOp
    simp only [ho, resolve, invoke, builtin, Sem.run_bind, Sem.run_pure, Result.andThen_ok, List.map_toArray, List.map_cons, List.map_nil, hs, hx', hrun]
    refine hK v' w' (by unfold OwnI; rw [List.length_append, List.map_append]; exact h2) ((Grown.turn h3).mono fun b hb => hb.symm) (fun b hb => ?_)
    rcases h5 with h | h
    · exact .inl (h.symm.trans hb)
    · rw [Blks, h] at hb
      simp only [Option.some.injEq] at hb
      exact .inr (by omega)

theorem mem_take_at {us : List Int} {k : Nat} {x : Int} (h : x ∈ us.take k) : ∃ j, j < k ∧ j < us.length ∧ us.getD j 0 = x := by
  obtain ⟨j, hj, e⟩ := List.mem_iff_getElem.1 h
  rw [List.length_take] at hj
  refine ⟨j, by omega, by omega, ?_⟩
  rw [← e, List.getElem_take, List.getD_eq_getElem?_getD, List.getElem?_eq_getElem (by omega)]
  rfl
theorem mem_drop_at {us : List Int} {k : Nat} {x : Int} (h : x ∈ us.drop k) : ∃ j, k ≤ j ∧ j < us.length ∧ us.getD j 0 = x := by
  obtain ⟨j, hj, e⟩ := List.mem_iff_getElem.1 h
  rw [List.length_drop] at hj
  refine ⟨k + j, by omega, by omega, ?_⟩
  rw [← e, List.getElem_drop, List.getD_eq_getElem?_getD, List.getElem?_eq_getElem (by omega)]
  rfl
theorem ins_sorted {us : List Int} {n : Int} {k : Nat} (hs : us.Pairwise (· < ·)) (ha : ∀ j, k ≤ j → j < us.length → n < us.getD j 0) (hb : ∀ j, j < k → j < us.length → us.getD j 0 < n) :
    (us.take k ++ [n] ++ us.drop k).Pairwise (· < ·) := by
  have ht : (us.take k).Pairwise (· < ·) := hs.sublist (List.take_sublist _ _)
  have hd : (us.drop k).Pairwise (· < ·) := hs.sublist (List.drop_sublist _ _)
  have l1 : ∀ x ∈ us.take k, x < n := fun x hx => by
    obtain ⟨j, a, b, c⟩ := mem_take_at hx
    rw [← c]; exact hb j a b
  have l2 : ∀ x ∈ us.drop k, n < x := fun x hx => by
    obtain ⟨j, a, b, c⟩ := mem_drop_at hx
    rw [← c]; exact ha j a b
  rw [List.pairwise_append]
  refine ⟨?_, hd, fun x hx y hy => ?_⟩
  · rw [List.pairwise_append]
    exact ⟨ht, List.pairwise_singleton _ _, fun x hx y hy => by rw [List.mem_singleton.1 hy]; exact l1 x hx⟩
  · rcases List.mem_append.1 hx with h | h
    · exact Int.lt_trans (l1 x h) (l2 y hy)
    · rw [List.mem_singleton.1 h]; exact l2 y hy
theorem ins_mem {us zs : List Int} {n : Int} {k m : Nat} (hm : ∀ x, x ∈ us ↔ x ∈ zs.take m) (hml : m < zs.length) (hn : zs.getD m 0 = n) (x : Int) : x ∈ us.take k ++ [n] ++ us.drop k ↔ x ∈ zs.take (m + 1) := by
  have e : zs[m] = n := by rw [← hn, List.getD_eq_getElem?_getD, List.getElem?_eq_getElem hml]; rfl
  have e2 : x ∈ zs.take (m + 1) ↔ x ∈ us ∨ x = n := by rw [List.take_succ_eq_append_getElem hml, List.mem_append, ← hm x, e, List.mem_singleton]
  rw [e2]
  have : x ∈ us ↔ x ∈ us.take k ∨ x ∈ us.drop k := by
    rw [← List.mem_append, List.take_append_drop]
  rw [this]
  simp only [List.mem_append, List.mem_singleton]
  constructor
  · rintro ((h | h) | h)
    · exact .inl (.inl h)
    · exact .inr h
    · exact .inl (.inr h)
  · rintro ((h | h) | h)
    · exact .inl (.inl h)
    · exact .inr h
    · exact .inl (.inr h)
theorem ins_len {us : List Int} {n : Int} {k : Nat} : (us.take k ++ [n] ++ us.drop k).length = us.length + 1 := by
  simp only [List.length_append, List.length_take, List.length_drop, List.length_singleton]; omega
theorem below_at {us : List Int} {n : Int} {q : Nat} (hs : us.Pairwise (· < ·)) (hq : q < us.length) (h : us.getD q 0 < n) : ∀ j, j < q + 1 → j < us.length → us.getD j 0 < n := fun j h1 h2 => by
  by_cases c : j = q
  · rw [c]; exact h
  · have := List.pairwise_iff_getElem.1 hs j q h2 hq (by omega)
    rw [List.getD_eq_getElem?_getD, List.getElem?_eq_getElem hq] at h
    rw [List.getD_eq_getElem?_getD, List.getElem?_eq_getElem h2]
    simp only [Option.getD_some] at h ⊢
    omega
theorem RdI.take {w : World} {g o c n : Nat} {us : List Int} (h : RdI w (.slice (some ⟨g, o, none⟩) n c) us) (k : Nat) (hk : k ≤ us.length) : RdI w (.slice (some ⟨g, o, none⟩) k c) (us.take k) := by
  obtain ⟨a, cap, hv, h1, h2, h3, h4, h5⟩ := h
  simp only [Value.slice.injEq] at hv
  obtain ⟨rfl, rfl, rfl⟩ := hv
  have hl : (us.take k).length = k := by rw [List.length_take]; omega
  unfold RdI
  rw [hl]
  refine ⟨_, _, rfl, by rw [List.length_map, hl, Nat.mul_one], by omega, h3, h4, fun ad had j u hj => h5 ad had j u ?_⟩
  have hjk : j < k := by
    have := (List.getElem?_eq_some_iff.1 hj).1
    simp at this; omega
  rw [← hj, List.getElem?_map, List.getElem?_map, List.getElem?_take, if_pos hjk]
theorem RdI.drop {w : World} {g o c n : Nat} {us : List Int} (h : RdI w (.slice (some ⟨g, o, none⟩) n c) us) (k : Nat) (hk : k ≤ us.length) : RdI w (.slice (some ⟨g, o + k, none⟩) (us.length - k) (c - k)) (us.drop k) := by
  obtain ⟨a, cap, hv, h1, h2, h3, h4, h5⟩ := h
  simp only [Value.slice.injEq] at hv
  obtain ⟨rfl, rfl, rfl⟩ := hv
  have hl : (us.drop k).length = us.length - k := List.length_drop
  unfold RdI
  rw [hl]
  refine ⟨_, _, rfl, by rw [List.length_map, hl, Nat.mul_one], by omega, by omega, (fun e => by cases e), fun ad had j u hj => ?_⟩
  cases had
  have := h5 ⟨g, o, none⟩ rfl (k + j) u (by rw [← hj, List.getElem?_map, List.getElem?_map, List.getElem?_drop])
  rw [Addr.add_lit] at this ⊢
  rw [← this, Nat.add_assoc]

theorem RdI.dropIf {w : World} {g c n : Nat} {us : List Int} (h : RdI w (.slice (some ⟨g, 0, none⟩) n c) us) (k : Nat) (hk : k ≤ us.length) (hc : us.length ≤ c) :
    RdI w (.slice (if c = k then some ⟨g, 0, none⟩ else some ⟨g, k, none⟩) (us.length - k) (c - k)) (us.drop k) := by
  by_cases e : c = k
  · rw [if_pos e]
    have hd : us.drop k = [] := List.drop_eq_nil_of_le (by omega)
    have hm := h.len
    obtain ⟨_, _, hv, _, h2, _⟩ := hm
    simp only [Value.slice.injEq] at hv
    rw [hd]
    refine ⟨_, _, by rw [show us.length - k = 0 by omega]; rfl, rfl, Nat.zero_le _, by omega, (fun e => by cases e), fun ad had j u hj => by cases hj⟩
  · rw [if_neg e]
    have := h.drop k hk
    rwa [Nat.zero_add] at this

theorem OwnI.form {B : Nat} {w : World} {v : Value} {us : List Int} (h : OwnI B w v us) : (us = [] ∧ v = .slice none 0 0) ∨ ∃ g c, v = .slice (some ⟨g, 0, none⟩) us.length c ∧ us.length ≤ c ∧ c ≤ maxLen := by
  obtain ⟨h1, h2⟩ := h
  rcases h2 with ⟨e, h3⟩ | ⟨g, c, cur, hv, _, _, hn, hm, _⟩
  · exact .inl ⟨List.eq_nil_of_length_eq_zero h3, e⟩
  · exact .inr ⟨g, c, hv, hn, hm⟩

theorem step_appi {w : World} {ops : Array Oper} {o : Oper} {a : Act} {K : Act → World → Prop} {Q : Exit → Act → World → Prop} {E : Prop} (s x : Operand) (hgd : o.guard = none)
    (ho : o.op = .call { callee := .builtin .append, args := #[s, x], argTypes := #[23, 23] })
    (B : Nat) (v : Value) (zs : List Int) (hs : a.eval s = v) (hw : OwnI B w v zs) (u : Value) (news : List Int) (hx : a.eval x = u) (hr : RdI w u news)
    (hl : zs.length + news.length ≤ 10000000000) (hB : B ≤ w.heap.size)
    (hK : ∀ v' w', OwnI B w' v' (zs ++ news) → Turn (Blks v) w w' → (∀ b, Blks v' b → Blks v b ∨ w.heap.size ≤ b) → K (a.put o.dst v') w') :
    if Region.wanted o (yielded ops a.tmps) = true then Oper.wp Tryd.prog o a w K Q else E := by
  have hw' : Region.wanted o (yielded ops a.tmps) = true := by simp [Region.wanted, hgd]
  rw [if_pos hw']
  exact wp_appi s x ho B v zs hs hw u news hx hr hl hB hK

set_option maxHeartbeats 4000000 in
set_option maxRecDepth 100000 in
theorem rising_any {w : World} {v : Value} {zs : List Int} (h : RdI w v zs) (hz : zs.length ≤ 1000000000) :
    Calls Tryd.prog 34 #[v] w fun e w' => ∃ u us, e = .returned u ∧ RdI w' u us ∧ us.Pairwise (· < ·) ∧ (∀ x, x ∈ us ↔ x ∈ zs) ∧ Kept w w' := by
  obtain ⟨a, cap, rfl, h1, h2, h3⟩ := h.len
  go_enter Tryd.func34, Tryd.ntmps34
  go_wp2
  go_loopw [3, 9] (fun o i wr => ∃ (m : Nat) (us : List Int), m ≤ zs.length ∧ i = .int .i64 m ∧ OwnI w.heap.size wr o us ∧ us.Pairwise (· < ·) ∧ (∀ x, x ∈ us ↔ x ∈ zs.take m) ∧ us.length ≤ m ∧ Kept w wr) (fun _ i _ => zs.length - (intOf i).toNat)
  case atStart => exact ⟨0, [], Nat.zero_le _, rfl, OwnI.nil _ _, List.Pairwise.nil, fun x => by simp, Nat.le_refl _, Kept.refl _⟩
  case round =>
    obtain ⟨m, us, hm0, rfl, ho, hsort, hmem, hlen, hk⟩ := hrel
    have HSO := Shut.mk hsort
    have HME := Shut.mk hmem
    clear hsort hmem
    by_cases hml : m < zs.length
    · obtain ⟨zb, zo, zc, hlv, _, _, hlb, hlc⟩ := h.addr (by omega)
      simp only [Value.slice.injEq] at hlv
      obtain ⟨rfl, hdrop, rfl⟩ := hlv
      clear hdrop
      have hcw := hk.cell (p := ⟨zb, zo + m, none⟩) hlb |>.trans (hlc m hml)
      clear hlc
      have HN := Shut.mk (rfl : zs.getD m 0 = zs.getD m 0)
      generalize hn : zs.getD m 0 = n at hcw HN
      have HNN := Shut.mk hn
      clear HN hn
      rcases ho.form with ⟨rfl, rfl⟩ | ⟨g, oc, rfl, o1, o2⟩
      · go_wp2
        go_loop [6] (fun i => i = .int .i64 0) (fun _ => 0)
        case atStart => rfl
        case round =>
          subst hrel
          go_wp2
          have rdA : ∀ W, Kept wr W → RdI W (.slice none 0 0) (([] : List Int).take 0) := fun W k => RdI.nil W
          have rdB : ∀ W, Kept wr W → RdI W (.slice none 0 0) (([] : List Int).drop 0) := fun W k => RdI.nil W
          have lA : (([] : List Int).take 0).length ≤ 0 := Nat.le_refl _
          have lB : (([] : List Int).drop 0).length ≤ 0 := Nat.le_refl _
          have wsz := hk.size
          go_region_held_law (fun w' => Kept wr w') (first | go_keep | assumption | exact Kept.drew (Kept.refl _) | exact Kept.trans (by assumption) ((Kept.refl _).alloc _))
            (first
              | (refine step_appi (.const (.slice none 0 0)) (.tmp 41) rfl rfl w.heap.size _ [] rfl (OwnI.nil _ _) _ (([] : List Int).take 0) rfl (rdA _ (by assumption)) (by simp only [List.length_nil]; omega) (Nat.le_trans wsz (Below.size (by assumption : Kept wr _))) ?_
                 intro v42 w42 own42 t42 loc42
                 have p42 := Turn.keptOf (Kept.refl _) t42 (fun x hx => by simp only [Blks] at hx; cases hx)
                 have k42 := Kept.trans (by assumption : Kept wr _) p42
                 have b42 : ∀ b, Blks v42 b → wr.heap.size ≤ b := fun b hb => (loc42 b hb).elim (fun x => by simp only [Blks] at x; cases x) (fun x => Nat.le_trans (Below.size (by assumption : Kept wr _)) x)
                 rw [List.nil_append] at own42)
              | (refine step_appi (.tmp 42) (.tmp 44) rfl rfl w.heap.size v42 (([] : List Int).take 0) rfl (by first | exact own42 | exact (show OwnI _ _ _ _ from Ownv.kept own42 ((Kept.refl _).alloc _))) _ [n] rfl (by first | exact (OwnI.lit1 _ n).rd | exact (OwnI.lit1 _ n).rd.kept p42 | exact RdI.kept (OwnI.lit1 (World.drew _) n).rd p42 | exact RdI.kept (OwnI.lit1 (World.drewN _ _) n).rd p42) (by simp only [List.length_singleton]; omega) (Nat.le_trans wsz (Below.size (by assumption : Kept wr _))) ?_
                 intro v45 w45 own45 t45 loc45
                 have k45 := Turn.keptOf (by assumption : Kept wr _) t45 b42
                 have b45 : ∀ b, Blks v45 b → wr.heap.size ≤ b := fun b hb => (loc45 b hb).elim (b42 b) (fun x => Nat.le_trans (Below.size (by assumption : Kept wr _)) x))
              | (refine step_appi (.tmp 45) (.tmp 48) rfl rfl w.heap.size v45 (([] : List Int).take 0 ++ [n]) rfl own45 _ (([] : List Int).drop 0) rfl (rdB _ (by assumption)) (by simp only [List.length_append, List.length_singleton]; omega) (Nat.le_trans wsz (Below.size (by assumption : Kept wr _))) ?_
                 intro v49 w49 own49 t49 loc49
                 have k49 := Turn.keptOf (by assumption : Kept wr _) t49 b45))
          all_goals
            go_wp2
            go_roundw
            case rel => exact ⟨m + 1, ([] : List Int).take 0 ++ [n] ++ ([] : List Int).drop 0, hml, rfl, own49, ins_sorted HSO.out (fun j _ h => absurd h (Nat.not_lt_zero _)) (fun j h _ => absurd h (Nat.not_lt_zero _)), ins_mem HME.out hml HNN.out, by rw [ins_len]; omega, hk.trans k49⟩
            case measure => simp [intOf]; omega
      go_wp2
      go_loop [6] (fun i => ∃ k : Nat, k ≤ us.length ∧ i = .int .i64 k ∧ Shut (∀ j, k ≤ j → j < us.length → n < us.getD j 0)) (fun i => (intOf i).toNat)
      case atStart => exact ⟨us.length, Nat.le_refl _, rfl, ⟨fun j h1 h2 => absurd h2 (by omega)⟩⟩
      case round =>
        obtain ⟨k, hk0, rfl, hab⟩ := hrel
        by_cases hkp : 0 < k
        · obtain ⟨ub, uo, uc, huv, _, _, hub, huc⟩ := ho.rd.addr (by omega)
          simp only [Value.slice.injEq, Option.some.injEq, Addr.mk.injEq, and_true] at huv
          obtain ⟨⟨rfl, rfl⟩, _, rfl⟩ := huv
          obtain ⟨q, rfl⟩ : ∃ q, k = q + 1 := ⟨k - 1, by omega⟩
          have hcu := huc q (by omega)
          rw [Nat.zero_add] at hcu
          generalize hu : us.getD q 0 = y at hcu
          have HUU := Shut.mk hu
          have HAB := Shut.mk hab.out
          clear huc hu hab
          have us63 : us.length ≤ 9223372036854775807 := by unfold maxLen at o2; omega
          by_cases hny : n < y
          · have hd : decide (n < y) = true := decide_eq_true hny
            go_wp2
            go_round
            case rel => exact ⟨q, by omega, rfl, ⟨fun j a b => by
              by_cases c : j = q
              · rw [c, HUU.out]; exact hny
              · exact HAB.out j (by omega) b⟩⟩
            case measure => simp [intOf]
          · have hd : decide (n < y) = false := decide_eq_false hny
            by_cases hyn : y = n
            · have hb : (y == n) = true := by simpa using hyn
              have HY := Shut.mk hyn
              clear hyn
              go_wp2
              go_roundw
              case rel => exact ⟨m + 1, us, hml, rfl, ho, HSO.out, fun x => by
                rw [List.take_succ_eq_append_getElem hml, List.mem_append, ← HME.out x]
                refine ⟨.inl, fun e => e.elim id fun e => ?_⟩
                have : x = n := by rw [← HNN.out]; simpa [List.getD_eq_getElem?_getD, List.getElem?_eq_getElem hml] using e
                rw [this, ← HY.out, ← HUU.out]
                exact mem_getD (by omega), by omega, hk⟩
              case measure => simp [intOf]; omega
            · have hb : (y == n) = false := by simpa using hyn
              have HY := Shut.mk hyn
              clear hyn
              go_wp2
              have rdA : ∀ W, Kept wr W → RdI W (.slice (some ⟨g, 0, none⟩) (q + 1) oc) (us.take (q + 1)) := fun W k => (ho.rd.kept k).take _ (by omega)
              have rdB : ∀ W, Kept wr W → RdI W (.slice (if oc = q + 1 then some ⟨g, 0, none⟩ else some ⟨g, q + 1, none⟩) (us.length - (q + 1)) (oc - (q + 1))) (us.drop (q + 1)) := fun W k => (ho.rd.kept k).dropIf (q + 1) (by omega) o1
              have lA : (us.take (q + 1)).length ≤ us.length := by rw [List.length_take]; omega
              have lB : (us.drop (q + 1)).length ≤ us.length := by rw [List.length_drop]; omega
              have wsz := hk.size
              have hq1 : (q : Int) + 1 ≤ (us.length : Int) := by omega
              have hq2 : (us.length : Int) ≤ (oc : Int) := by omega
              have hq3 : q + 1 ≤ oc := by omega
              have hq4 : (q : Int) + 1 ≤ (oc : Int) := by omega
              by_cases hcap : oc = q + 1
              · subst hcap
                have hle : us.length = q + 1 := by omega
                have rdB2 : ∀ W, Kept wr W → RdI W (.slice (some ⟨g, 0, none⟩) 0 0) (us.drop (q + 1)) := fun W k => by
                  have := rdB W k
                  rwa [if_pos rfl, hle, Nat.sub_self] at this
                clear hle
                go_region_held_law (fun w' => Kept wr w') (first | go_keep | assumption | exact Kept.drew (Kept.refl _) | exact Kept.trans (by assumption) ((Kept.refl _).alloc _))
                  (first
                    | (refine step_appi (.const (.slice none 0 0)) (.tmp 41) rfl rfl w.heap.size _ [] rfl (OwnI.nil _ _) _ (us.take (q + 1)) rfl (rdA _ (by assumption)) (by simp only [List.length_nil]; omega) (Nat.le_trans wsz (Below.size (by assumption : Kept wr _))) ?_
                       intro v42 w42 own42 t42 loc42
                       have p42 := Turn.keptOf (Kept.refl _) t42 (fun x hx => by simp only [Blks] at hx; cases hx)
                       have k42 := Kept.trans (by assumption : Kept wr _) p42
                       have b42 : ∀ b, Blks v42 b → wr.heap.size ≤ b := fun b hb => (loc42 b hb).elim (fun x => by simp only [Blks] at x; cases x) (fun x => Nat.le_trans (Below.size (by assumption : Kept wr _)) x)
                       rw [List.nil_append] at own42)
                    | (refine step_appi (.tmp 42) (.tmp 44) rfl rfl w.heap.size v42 (us.take (q + 1)) rfl (by first | exact own42 | exact (show OwnI _ _ _ _ from Ownv.kept own42 ((Kept.refl _).alloc _))) _ [n] rfl (by first | exact (OwnI.lit1 _ n).rd | exact (OwnI.lit1 _ n).rd.kept p42 | exact RdI.kept (OwnI.lit1 (World.drew _) n).rd p42 | exact RdI.kept (OwnI.lit1 (World.drewN _ _) n).rd p42) (by simp only [List.length_singleton]; omega) (Nat.le_trans wsz (Below.size (by assumption : Kept wr _))) ?_
                       intro v45 w45 own45 t45 loc45
                       have k45 := Turn.keptOf (by assumption : Kept wr _) t45 b42
                       have b45 : ∀ b, Blks v45 b → wr.heap.size ≤ b := fun b hb => (loc45 b hb).elim (b42 b) (fun x => Nat.le_trans (Below.size (by assumption : Kept wr _)) x))
                    | (refine step_appi (.tmp 45) (.tmp 48) rfl rfl w.heap.size v45 (us.take (q + 1) ++ [n]) rfl own45 _ (us.drop (q + 1)) rfl (by first | exact rdB _ (by assumption) | exact rdB2 _ (by assumption)) (by simp only [List.length_append, List.length_singleton]; omega) (Nat.le_trans wsz (Below.size (by assumption : Kept wr _))) ?_
                       intro v49 w49 own49 t49 loc49
                       have k49 := Turn.keptOf (by assumption : Kept wr _) t49 b45))
                all_goals
                  go_wp2
                  go_roundw
                  case rel => exact ⟨m + 1, us.take (q + 1) ++ [n] ++ us.drop (q + 1), hml, rfl, own49, ins_sorted HSO.out HAB.out (below_at HSO.out (by omega) (by rw [HUU.out]; have := HY.out; omega)), ins_mem HME.out hml HNN.out, by rw [ins_len]; omega, hk.trans k49⟩
                  case measure => simp [intOf]; omega
              · have hcap0 : ¬ oc - (q + 1) = 0 := by omega
                have rdB2 : ∀ W, Kept wr W → RdI W (.slice (some ⟨g, q + 1, none⟩) (us.length - (q + 1)) (oc - (q + 1))) (us.drop (q + 1)) := fun W k => by
                  have := rdB W k
                  rwa [if_neg hcap] at this
                go_region_held_law (fun w' => Kept wr w') (first | go_keep | assumption | exact Kept.drew (Kept.refl _) | exact Kept.trans (by assumption) ((Kept.refl _).alloc _))
                  (first
                    | (refine step_appi (.const (.slice none 0 0)) (.tmp 41) rfl rfl w.heap.size _ [] rfl (OwnI.nil _ _) _ (us.take (q + 1)) rfl (rdA _ (by assumption)) (by simp only [List.length_nil]; omega) (Nat.le_trans wsz (Below.size (by assumption : Kept wr _))) ?_
                       intro v42 w42 own42 t42 loc42
                       have p42 := Turn.keptOf (Kept.refl _) t42 (fun x hx => by simp only [Blks] at hx; cases hx)
                       have k42 := Kept.trans (by assumption : Kept wr _) p42
                       have b42 : ∀ b, Blks v42 b → wr.heap.size ≤ b := fun b hb => (loc42 b hb).elim (fun x => by simp only [Blks] at x; cases x) (fun x => Nat.le_trans (Below.size (by assumption : Kept wr _)) x)
                       rw [List.nil_append] at own42)
                    | (refine step_appi (.tmp 42) (.tmp 44) rfl rfl w.heap.size v42 (us.take (q + 1)) rfl (by first | exact own42 | exact (show OwnI _ _ _ _ from Ownv.kept own42 ((Kept.refl _).alloc _))) _ [n] rfl (by first | exact (OwnI.lit1 _ n).rd | exact (OwnI.lit1 _ n).rd.kept p42 | exact RdI.kept (OwnI.lit1 (World.drew _) n).rd p42 | exact RdI.kept (OwnI.lit1 (World.drewN _ _) n).rd p42) (by simp only [List.length_singleton]; omega) (Nat.le_trans wsz (Below.size (by assumption : Kept wr _))) ?_
                       intro v45 w45 own45 t45 loc45
                       have k45 := Turn.keptOf (by assumption : Kept wr _) t45 b42
                       have b45 : ∀ b, Blks v45 b → wr.heap.size ≤ b := fun b hb => (loc45 b hb).elim (b42 b) (fun x => Nat.le_trans (Below.size (by assumption : Kept wr _)) x))
                    | (refine step_appi (.tmp 45) (.tmp 48) rfl rfl w.heap.size v45 (us.take (q + 1) ++ [n]) rfl own45 _ (us.drop (q + 1)) rfl (by first | exact rdB _ (by assumption) | exact rdB2 _ (by assumption)) (by simp only [List.length_append, List.length_singleton]; omega) (Nat.le_trans wsz (Below.size (by assumption : Kept wr _))) ?_
                       intro v49 w49 own49 t49 loc49
                       have k49 := Turn.keptOf (by assumption : Kept wr _) t49 b45))
                all_goals
                  go_wp2
                  go_roundw
                  case rel => exact ⟨m + 1, us.take (q + 1) ++ [n] ++ us.drop (q + 1), hml, rfl, own49, ins_sorted HSO.out HAB.out (below_at HSO.out (by omega) (by rw [HUU.out]; have := HY.out; omega)), ins_mem HME.out hml HNN.out, by rw [ins_len]; omega, hk.trans k49⟩
                  case measure => simp [intOf]; omega
        · obtain rfl : k = 0 := by omega
          have HAB := Shut.mk hab.out
          clear hab hkp
          go_wp2
          have rdA : ∀ W, Kept wr W → RdI W (.slice (some ⟨g, 0, none⟩) 0 oc) (us.take 0) := fun W k => (ho.rd.kept k).take 0 (Nat.zero_le _)
          have rdB : ∀ W, Kept wr W → RdI W (.slice (some ⟨g, 0, none⟩) us.length oc) (us.drop 0) := fun W k => ho.rd.kept k
          have lA : (us.take 0).length ≤ us.length := by rw [List.length_take]; omega
          have lB : (us.drop 0).length ≤ us.length := Nat.le_refl _
          have wsz := hk.size
          go_region_held_law (fun w' => Kept wr w') (first | go_keep | assumption | exact Kept.drew (Kept.refl _) | exact Kept.trans (by assumption) ((Kept.refl _).alloc _))
            (first
              | (refine step_appi (.const (.slice none 0 0)) (.tmp 41) rfl rfl w.heap.size _ [] rfl (OwnI.nil _ _) _ (us.take 0) rfl (rdA _ (by assumption)) (by simp only [List.length_nil]; omega) (Nat.le_trans wsz (Below.size (by assumption : Kept wr _))) ?_
                 intro v42 w42 own42 t42 loc42
                 have p42 := Turn.keptOf (Kept.refl _) t42 (fun x hx => by simp only [Blks] at hx; cases hx)
                 have k42 := Kept.trans (by assumption : Kept wr _) p42
                 have b42 : ∀ b, Blks v42 b → wr.heap.size ≤ b := fun b hb => (loc42 b hb).elim (fun x => by simp only [Blks] at x; cases x) (fun x => Nat.le_trans (Below.size (by assumption : Kept wr _)) x)
                 rw [List.nil_append] at own42)
              | (refine step_appi (.tmp 42) (.tmp 44) rfl rfl w.heap.size v42 (us.take 0) rfl (by first | exact own42 | exact (show OwnI _ _ _ _ from Ownv.kept own42 ((Kept.refl _).alloc _))) _ [n] rfl (by first | exact (OwnI.lit1 _ n).rd | exact (OwnI.lit1 _ n).rd.kept p42 | exact RdI.kept (OwnI.lit1 (World.drew _) n).rd p42 | exact RdI.kept (OwnI.lit1 (World.drewN _ _) n).rd p42) (by simp only [List.length_singleton]; omega) (Nat.le_trans wsz (Below.size (by assumption : Kept wr _))) ?_
                 intro v45 w45 own45 t45 loc45
                 have k45 := Turn.keptOf (by assumption : Kept wr _) t45 b42
                 have b45 : ∀ b, Blks v45 b → wr.heap.size ≤ b := fun b hb => (loc45 b hb).elim (b42 b) (fun x => Nat.le_trans (Below.size (by assumption : Kept wr _)) x))
              | (refine step_appi (.tmp 45) (.tmp 48) rfl rfl w.heap.size v45 (us.take 0 ++ [n]) rfl own45 _ (us.drop 0) rfl (rdB _ (by assumption)) (by simp only [List.length_append, List.length_singleton]; omega) (Nat.le_trans wsz (Below.size (by assumption : Kept wr _))) ?_
                 intro v49 w49 own49 t49 loc49
                 have k49 := Turn.keptOf (by assumption : Kept wr _) t49 b45))
          all_goals
            go_wp2
            go_roundw
            case rel => exact ⟨m + 1, us.take 0 ++ [n] ++ us.drop 0, hml, rfl, own49, ins_sorted HSO.out HAB.out (fun j h _ => absurd h (Nat.not_lt_zero _)), ins_mem HME.out hml HNN.out, by rw [ins_len]; omega, hk.trans k49⟩
            case measure => simp [intOf]; omega
    · obtain rfl : m = zs.length := by omega
      go_wp2
      go_ret
      exact ⟨_, us, rfl, ho.rd, HSO.out, fun x => by have := HME.out x; rwa [List.take_length] at this, hk⟩
end Go.Proofs.YtangbnmgkcmhbaaDoor
end

section
/- The rules and who waits for them, in memory; what derived's second function literal does. -/
set_option linter.unusedSimpArgs false
set_option linter.unusedVariables false
namespace Go.Proofs.YtangbnmgkcmhbaaDoor
open Go.RowKit Go.Maps

/-! ## who waits -/
structure WtS (F : Nat → Prop) (wb : Nat) (w : World) (ws : List (List Int)) : Prop where
  rep : ∃ (wv : Value) (wvs : List Value), Blk w wb 52 [wv] ∧ Ownv 0 23 1 w wv ws.length wvs ∧ (∀ i, i < ws.length → OwnI 0 w (wvs.getD i undef) (ws.getD i [])) ∧
    (∀ i j, i < ws.length → j < ws.length → i ≠ j → ∀ b, Blks (wvs.getD i undef) b → ¬ Blks (wvs.getD j undef) b) ∧ F wb ∧ (∀ b, Blks wv b → F b) ∧ ∀ i, i < ws.length → ∀ b, Blks (wvs.getD i undef) b → F b
  lt : ∀ b, F b → b < w.heap.size
theorem WtS.same {F : Nat → Prop} {wb : Nat} {w w' : World} {ws : List (List Int)} (h : WtS F wb w ws) (k : Same F w w') (hl : w.heap.size ≤ w'.heap.size) : WtS F wb w' ws := by
  obtain ⟨wv, wvs, h1, h2, h3, h4, h5, h6, h7⟩ := h.rep
  exact ⟨⟨wv, wvs, h1.same (k.mono fun b e => by rw [e]; exact h5), Ownv.same h2 (k.mono h6), fun i hi => Ownv.same (h3 i hi) (k.mono (h7 i hi)), h4, h5, h6, h7⟩, fun b hb => Nat.lt_of_lt_of_le (h.lt b hb) hl⟩
theorem WtS.turn {F G : Nat → Prop} {wb : Nat} {w w' : World} {ws : List (List Int)} (h : WtS F wb w ws) (k : Turn G w w') (hd : ∀ b, F b → ¬ G b) : WtS F wb w' ws := h.same (k.same h.lt hd) k.size

/-! ## the rules -/
def flatR : List Int → List Value → List Value
  | [], _ => []
  | m :: ms, tvs => .int .i64 m :: tvs.headD undef :: flatR ms tvs.tail
theorem flatR_length (ms : List Int) (tvs : List Value) : (flatR ms tvs).length = ms.length * 2 := by
  induction ms generalizing tvs with
  | nil => rfl
  | cons d ds ih => simp [flatR, ih]; omega
theorem flatR_at (ms : List Int) (tvs : List Value) (i : Nat) (hi : i < ms.length) : (flatR ms tvs).getD (i * 2) undef = .int .i64 (ms.getD i 0) ∧ (flatR ms tvs).getD (i * 2 + 1) undef = tvs.getD i undef := by
  induction ms generalizing tvs i with
  | nil => simp at hi
  | cons d ds ih =>
    cases i with
    | zero => cases tvs <;> simp [flatR]
    | succ i =>
      have e : (i + 1) * 2 = i * 2 + 1 + 1 := by omega
      obtain ⟨h1, h2⟩ := ih tvs.tail i (by simpa using hi)
      simp only [flatR]
      rw [e]
      simp only [List.getD_cons_succ]
      refine ⟨h1, ?_⟩
      rw [h2]
      cases tvs <;> simp
theorem flatR_snoc (ms : List Int) (tvs : List Value) (h : tvs.length = ms.length) (m : Int) (tv : Value) : flatR (ms ++ [m]) (tvs ++ [tv]) = flatR ms tvs ++ [.int .i64 m, tv] := by
  induction ms generalizing tvs with
  | nil =>
    cases tvs with
    | nil => simp [flatR]
    | cons => simp at h
  | cons e ds ih =>
    cases tvs with
    | nil => simp at h
    | cons v tvs => simp [flatR, ih tvs (by simpa using h)]
theorem flatR_set (ms : List Int) (tvs : List Value) (i : Nat) (m : Int) : (flatR ms tvs).set (i * 2) (.int .i64 m) = flatR (ms.set i m) tvs := by
  induction ms generalizing tvs i with
  | nil => simp [flatR]
  | cons d ds ih =>
    cases i with
    | zero => simp [flatR]
    | succ i =>
      have e : (i + 1) * 2 = i * 2 + 1 + 1 := by omega
      simp only [flatR, List.set_cons_succ]
      rw [e]
      simp only [List.set_cons_succ]
      rw [ih]

/-- A: what may be turned while the rules are there. -/
structure RlS (A F : Nat → Prop) (rb : Nat) (w : World) (rs : List Rl) (ms : List Int) : Prop where
  len : ms.length = rs.length
  rep : ∃ (rv : Value) (tvs : List Value), Blk w rb 119 [rv] ∧ Ownv 0 123 2 w rv rs.length (flatR ms tvs) ∧ tvs.length = rs.length ∧ (∀ i, i < rs.length → RdI w (tvs.getD i undef) (rs.getD i rl0).to) ∧
    F rb ∧ (∀ b, Blks rv b → F b) ∧ (∀ i, i < rs.length → ∀ b, VB (tvs.getD i undef) b → ¬ A b ∧ b < w.heap.size)
  lt : ∀ b, F b → b < w.heap.size

theorem RlS.turn {A A' F G : Nat → Prop} {rb : Nat} {w w' : World} {rs : List Rl} {ms : List Int} (h : RlS A F rb w rs ms) (k : Turn G w w') (hd : ∀ b, F b → ¬ G b) (hG : ∀ b, G b → A b ∨ w.heap.size ≤ b) (hA : ∀ b, A' b → A b ∨ w.heap.size ≤ b) : RlS A' F rb w' rs ms := by
  obtain ⟨rv, tvs, h1, h2, h3, h4, h5, h6, h7⟩ := h.rep
  refine ⟨h.len, ⟨rv, tvs, h1.turn k (hd _ h5), Ownv.turn h2 k (fun b hb => hd _ (h6 b hb)), h3, fun i hi => RdI.turn (h4 i hi) k (fun b hb hg => ?_), h5, h6, fun i hi b hb => ⟨fun ha => (hA b ha).elim (h7 i hi b hb).1 (fun c => by have := (h7 i hi b hb).2; omega), Nat.lt_of_lt_of_le (h7 i hi b hb).2 k.size⟩⟩, fun b hb => Nat.lt_of_lt_of_le (h.lt b hb) k.size⟩
  obtain ⟨a, c⟩ := h7 i hi b hb
  rcases hG b hg with d | d
  · exact a d
  · omega
structure St where
  rs : List Rl
  ms : List Int
  ws : List (List Int)
  s : List Bool × List Int
def addW (i : Int) (ws : List (List Int)) (t : Int) : List (List Int) := ws.set t.toNat (ws.getD t.toNat [] ++ [i])
/-- What derived's second literal makes of a rule. -/
def tell (st : St) (r : Rl) : St :=
  if r.src = [] then ⟨st.rs, st.ms, st.ws, know st.s r.to⟩ else ⟨st.rs ++ [r], st.ms ++ [(r.src.length : Int)], r.src.foldl (addW st.rs.length) st.ws, st.s⟩

/-- Where derived's own lie. -/
structure Bx where
  kb : Nat
  tb : Nat
  xb : Nat
  wb : Nat
  rb : Nat
/-- All of derived's own: what is known, who waits, the rules; S is to stay. -/
structure DvS (S : Nat → Prop) (w : World) (x : Bx) (st : St) : Prop where
  rep : ∃ FK FW FR : Nat → Prop, KnS FK x.kb x.tb w st.s ∧ WtS FW x.wb w st.ws ∧ RlS (fun b => FK b ∨ FW b ∨ FR b) FR x.rb w st.rs st.ms ∧ (∀ b, FK b → ¬ FW b ∧ ¬ FR b) ∧ (∀ b, FW b → ¬ FR b) ∧ (∀ b, (FK b ∨ FW b ∨ FR b) → ¬ S b)
  box : Blk w x.xb 120 [.func (.func 69) #[] #[.pointer (some ⟨x.kb, 0, none⟩), .pointer (some ⟨x.tb, 0, none⟩)]]
  inS : S x.xb
  old : ∀ b, S b → b < w.heap.size

def TellPost (S : Nat → Prop) (w : World) (x : Bx) (st : St) (e : Ending) (w' : World) : Prop := e = .returned (.tuple #[]) ∧ DvS S w' x st ∧ Turn (fun b => ¬ S b) w w'

set_option maxHeartbeats 4000000 in
set_option maxRecDepth 100000 in
theorem tell_none {S : Nat → Prop} {w : World} {x : Bx} {st : St} (h : DvS S w x st) {tv fv : Value} {r : Rl} (hr : r.src = []) (ht : RdI w tv r.to) (htS : ∀ b, VB tv b → S b) (hf : RdI w fv r.src)
    (htr : ∀ y ∈ r.to, 0 ≤ y ∧ y < (st.s.1.length : Int)) (hs : st.s.2.length + r.to.length ≤ 1000000000) :
    Calls Tryd.prog 71 #[tv, fv, .pointer (some ⟨x.xb, 0, none⟩), .pointer (some ⟨x.wb, 0, none⟩), .pointer (some ⟨x.rb, 0, none⟩)] w (TellPost S w x (tell st r)) := by
  have HT : Shut (tell st r = ⟨st.rs, st.ms, st.ws, know st.s r.to⟩) := ⟨by unfold tell; rw [if_pos hr]⟩
  obtain ⟨fa, fc, rfl, l1, l2, l3⟩ := hf.len
  obtain ⟨ta, tc, rfl, m1, m2, m3⟩ := ht.len
  rw [hr] at hf l1 ⊢
  clear hf
  have hbx := h.box
  have c0 := h.box.cell 0
  simp only [List.getElem?_cons_zero] at c0
  obtain ⟨FK, FW, FR, q1, q2, q3, q4, q5, q6⟩ := h.rep
  have hk := know_any q1 ht (fun b hb hF => q6 b (.inl hF) (htS b hb)) htr hs
  have hS := h.inS
  have hold := h.old
  go_enter Tryd.func71, Tryd.ntmps71
  go_wp2_with fail
  refine hk.mono ?_
  rintro e w' ⟨rfl, F', k1, k2, k3⟩
  go_wp2
  go_end0
  have hw : ∀ b, FW b → ¬ F' b := fun b hb hF => (k3 b hF).elim (fun c => (q4 b c).1 hb) (fun c => by have := q2.lt b hb; omega)
  have hrr : ∀ b, FR b → ¬ F' b := fun b hb hF => (k3 b hF).elim (fun c => (q4 b c).2 hb) (fun c => by have := q3.lt b hb; omega)
  have e3 := q3.turn (A' := fun b => F' b ∨ FW b ∨ FR b) k2 (fun b hb hF => (q4 b hF).2 hb) (fun b hb => .inl (.inl hb)) (fun b hb => hb.elim (fun c => (k3 b c).imp .inl id) (fun c => .inl (.inr c)))
  refine ⟨rfl, ?_, k2.mono fun b hb => q6 b (.inl hb)⟩
  rw [HT.out]
  refine ⟨⟨F', FW, FR, k1, q2.turn k2 (fun b hb hF => (q4 b hF).1 hb), e3, fun b hb => ⟨fun c => hw b c hb, fun c => hrr b c hb⟩, q5, fun b hb hs => ?_⟩, hbx.turn k2 (fun hF => q6 _ (.inl hF) hS), hS, fun b hb => Nat.lt_of_lt_of_le (hold b hb) k2.size⟩
  · rcases hb with c | c
    · rcases k3 b c with d | d
      · exact q6 b (.inl d) hs
      · have := hold b hs; omega
    · exact q6 b (.inr c) hs

theorem addW_len (i : Int) (l : List Int) (ws : List (List Int)) : (l.foldl (addW i) ws).length = ws.length := by
  induction l generalizing ws with
  | nil => rfl
  | cons a l ih =>
    show (l.foldl (addW i) (addW i ws a)).length = _
    rw [ih]; simp [addW]
theorem addW_take (i : Int) (l : List Int) (ws : List (List Int)) (k : Nat) (h : k < l.length) : (l.take (k + 1)).foldl (addW i) ws = addW i ((l.take k).foldl (addW i) ws) (l.getD k 0) := by
  rw [List.take_succ_eq_append_getElem h, List.foldl_append, List.getD_eq_getElem?_getD, List.getElem?_eq_getElem h]
  rfl
theorem addW_few (i : Int) (l : List Int) (ws : List (List Int)) (x : Nat) : ((l.foldl (addW i) ws).getD x []).length ≤ (ws.getD x []).length + l.length := by
  induction l generalizing ws with
  | nil => simp
  | cons a l ih =>
    have := ih (addW i ws a)
    have h2 : ((addW i ws a).getD x []).length ≤ (ws.getD x []).length + 1 := by
      unfold addW
      simp only [List.getD_eq_getElem?_getD, List.getElem?_set]
      by_cases c : a.toNat = x
      · subst c
        by_cases d : a.toNat < ws.length
        · simp [d]
        · simp [d]
      · simp [c]
    show ((l.foldl (addW i) (addW i ws a)).getD x []).length ≤ _
    simp only [List.length_cons]
    omega
/-- One more waits. -/
theorem WtS.add {F : Nat → Prop} {wb n m g cap : Nat} {w w3 : World} {ws : List (List Int)} {wvs : List Value} {v3 : Value} {i : Int} (hm : m = ws.length) (hn : n < ws.length) (q1 : Blk w wb 52 [.slice (some ⟨g, 0, none⟩) m cap])
    (q2 : Ownv 0 23 1 w (.slice (some ⟨g, 0, none⟩) m cap) m wvs) (q3 : ∀ j, j < ws.length → OwnI 0 w (wvs.getD j undef) (ws.getD j []))
    (q4 : ∀ i j, i < ws.length → j < ws.length → i ≠ j → ∀ b, Blks (wvs.getD i undef) b → ¬ Blks (wvs.getD j undef) b) (q5 : F wb) (q6 : ∀ b, Blks (.slice (some ⟨g, 0, none⟩) m cap) b → F b) (q7 : ∀ i, i < ws.length → ∀ b, Blks (wvs.getD i undef) b → F b)
    (lt : ∀ b, F b → b < w.heap.size) (o3 : OwnI 0 w3 v3 (ws.getD n [] ++ [i])) (t3 : Turn (Blks (wvs.getD n undef)) w w3) (l3 : ∀ b, Blks v3 b → Blks (wvs.getD n undef) b ∨ w.heap.size ≤ b) :
    WtS (fun b => F b ∨ (w.heap.size ≤ b ∧ b < w3.heap.size)) wb (w3.setCell ⟨g, n, none⟩ v3) (ws.set n (ws.getD n [] ++ [i])) ∧ Turn F w (w3.setCell ⟨g, n, none⟩ v3) := by
  subst hm
  have hg : ∀ j, j < ws.length → ¬ Blks (wvs.getD j undef) g := fun j hj hb => Ownv.apart (q3 j hj) q2 (by decide) hb rfl
  have hwb : wb ≠ g := fun e => Ownv.notBlk q2 q1 (by decide) (e ▸ rfl)
  have hwn : ∀ j, j < ws.length → ¬ Blks (wvs.getD j undef) wb := fun j hj hb => Ownv.notBlk (q3 j hj) q1 (by decide) hb
  have tS := turn_setCell w3 ⟨g, n, none⟩ v3
  have hv3g : ¬ Blks v3 g := fun hb => by
    rcases l3 g hb with c | c
    · exact hg n hn c
    · have := lt g (q6 g rfl); omega
  have e1 := (q1.turn t3 (hwn n hn)).turn tS hwb
  have e2 := Ownv.put (Ownv.turn q2 t3 (fun b hb hc => by rw [show b = g from (Option.some.inj hb).symm] at hc; exact hg n hn hc)) n (by omega) v3
  have hlen : wvs.length = ws.length := by have := q2.1; omega
  have gv : ∀ j, (wvs.set n v3).getD j undef = if n = j then v3 else wvs.getD j undef := fun j => by
    simp only [List.getD_eq_getElem?_getD, List.getElem?_set]
    by_cases c : n = j
    · subst c; simp [hlen, hn]
    · simp [c]
  have gw : ∀ j, (ws.set n (ws.getD n [] ++ [i])).getD j [] = if n = j then ws.getD n [] ++ [i] else ws.getD j [] := fun j => by
    simp only [List.getD_eq_getElem?_getD, List.getElem?_set]
    by_cases c : n = j
    · subst c; simp [hn]
    · simp [c]
  have e3 : OwnI 0 (w3.setCell ⟨g, n, none⟩ v3) v3 (ws.getD n [] ++ [i]) := Ownv.setCell o3 hv3g v3
  refine ⟨⟨⟨_, wvs.set n v3, e1, by rw [List.length_set]; exact e2, fun j hj => ?_, fun a b ha hb hab c hc hd => ?_, .inl q5, fun b hb => .inl (q6 b hb), fun j hj b hb => ?_⟩, fun b hb => ?_⟩, ?_⟩
  · rw [gv, gw]
    rw [List.length_set] at hj
    split
    · exact e3
    · rename_i c
      refine Ownv.setCell (Ownv.turn (q3 j hj) t3 (fun b hb hc => q4 n j hn hj c b hc hb)) (hg j hj) v3
  · rw [List.length_set] at ha hb
    rw [gv] at hc hd
    split at hc
    · rename_i c1
      split at hd
      · rename_i c2; exact hab (c1.symm.trans c2)
      · rename_i c2
        rcases l3 c hc with x | x
        · exact q4 n b hn hb c2 c x hd
        · have := lt c (q7 b hb c hd); omega
    · rename_i c1
      split at hd
      · rename_i c2
        rcases l3 c hd with x | x
        · exact q4 n a hn ha c1 c x hc
        · have := lt c (q7 a ha c hc); omega
      · exact q4 a b ha hb hab c hc hd
  · rw [List.length_set] at hj
    rw [gv] at hb
    split at hb
    · rcases l3 b hb with x | x
      · exact .inl (q7 n hn b x)
      · exact .inr ⟨x, (Ownv.lt o3 hb).1⟩
    · exact .inl (q7 j hj b hb)
  · rw [size_setCell]
    rcases hb with c | c
    · exact Nat.lt_of_lt_of_le (lt b c) t3.size
    · exact c.2
  · exact Turn.trans (t3.mono fun b hb => q7 n hn b hb) tS (fun b hb => .inl (by rw [show b = g from hb]; exact q6 g rfl))
end Go.Proofs.YtangbnmgkcmhbaaDoor
end

section
/- What derived's second function literal does: a rule with something that it waits for. -/
set_option linter.unusedSimpArgs false
set_option linter.unusedVariables false
namespace Go.Proofs.YtangbnmgkcmhbaaDoor
open Go.RowKit Go.Maps

theorem Tryd.infoRule : (Tryd.prog.info? 123).map (fun i => (i.zero, i.size, i.bytes)) = some (some (.agg #[.int .i64 0, .slice none 0 0]), 2, 32) := by kernel_rfl
theorem rule_lit (w : World) (m : Int) (tv : Value) : Rdv 2 (w.alloc (.cells #[.int .i64 m, tv] 123)) (.slice (some ⟨w.heap.size, 0, none⟩) 1 1) 1 [.int .i64 m, tv] := by
  refine ⟨_, 1, rfl, rfl, Nat.le_refl _, by unfold maxLen; omega, (fun h => by cases h), fun ad had j u hj => ?_⟩
  cases had
  have e : (⟨w.heap.size, 0, none⟩ : Addr).add j = ⟨w.heap.size, j, none⟩ := by rw [Addr.add_lit, Nat.zero_add]
  rw [e, cell_of_row _ w.heap.size j _ _ (0, 0) (heap_alloc_new w _)]
  simpa using hj

theorem getD_snoc_r (l : List Rl) (v : Rl) (i : Nat) : (l ++ [v]).getD i rl0 = if i < l.length then l.getD i rl0 else if i = l.length then v else rl0 := by
  simp only [List.getD_eq_getElem?_getD]
  by_cases h : i < l.length
  · rw [if_pos h, List.getElem?_append_left h]
  · rw [if_neg h, List.getElem?_append_right (by omega)]
    by_cases h2 : i = l.length
    · simp [h2]
    · rw [if_neg h2, List.getElem?_eq_none (by simp; omega)]; rfl

set_option maxHeartbeats 8000000 in
set_option maxRecDepth 100000 in
theorem tell_some {S : Nat → Prop} {w : World} {x : Bx} {st : St} (h : DvS S w x st) {tv fv : Value} {r : Rl} (hr : r.src ≠ []) (ht : RdI w tv r.to) (htS : ∀ b, VB tv b → S b) (hf : RdI w fv r.src) (hfS : ∀ b, VB fv b → S b)
    (hfr : ∀ y ∈ r.src, 0 ≤ y ∧ y < (st.ws.length : Int)) (hs : st.rs.length ≤ 1000000) (hw : ∀ y, (st.ws.getD y []).length ≤ 1000000000) (hfl : r.src.length ≤ 1000000) :
    Calls Tryd.prog 71 #[tv, fv, .pointer (some ⟨x.xb, 0, none⟩), .pointer (some ⟨x.wb, 0, none⟩), .pointer (some ⟨x.rb, 0, none⟩)] w (TellPost S w x (tell st r)) := by
  have HT : Shut (tell st r = ⟨st.rs ++ [r], st.ms ++ [(r.src.length : Int)], r.src.foldl (addW st.rs.length) st.ws, st.s⟩) := ⟨by unfold tell; rw [if_neg hr]⟩
  obtain ⟨fa, fc, rfl, l1, l2, l3⟩ := hf.len
  obtain ⟨ta, tc, rfl, m1, m2, m3⟩ := ht.len
  have h0 : (((r.src.length : Nat) : Int) == 0) = false := by
    rw [beq_eq_false_iff_ne]
    intro e
    exact hr (List.eq_nil_of_length_eq_zero (by omega))
  have HR := Shut.mk hr
  clear hr
  have l63 : ((r.src.length : Nat) : Int) ≤ 9223372036854775807 := by omega
  obtain ⟨FK, FW, FR, q1, q2, q3, q4, q5, q6⟩ := h.rep
  obtain ⟨rv, tvs, g1, g2, g3, g4, g5, g6, g7⟩ := q3.rep
  obtain ⟨ra, rc, hrv, _, _, _⟩ := (Ownv.rdv g2)
  subst hrv
  have HW := Shut.mk hw
  have HFR := Shut.mk hfr
  clear hw hfr
  go_enter Tryd.func71, Tryd.ntmps71
  go_wp2
  go_loopw [17] (fun i wr => ∃ k : Nat, k ≤ r.src.length ∧ i = .int .i64 k ∧ Turn FW w wr ∧ ∃ F', WtS F' x.wb wr ((r.src.take k).foldl (addW st.rs.length) st.ws) ∧ ∀ b, F' b → FW b ∨ w.heap.size ≤ b) (fun i _ => r.src.length - (intOf i).toNat)
  case atStart => exact ⟨0, Nat.zero_le _, rfl, Turn.refl _ _, FW, q2, fun b hb => .inl hb⟩
  case round =>
    obtain ⟨k, hk0, rfl, hT, F', hk, hF⟩ := hrel
    have HF := Shut.mk hF
    clear hF
    have b1 := g1.turn hT (fun c => q5 _ c g5)
    have cR := b1.cell 0
    simp only [List.getElem?_cons_zero] at cR
    by_cases hlt : k < r.src.length
    · have hxr := HFR.out _ (getD_mem hlt)
      obtain ⟨rb, ro, rrc, hrv, _, _, hrb, hcl⟩ := hf.addr (by omega)
      simp only [Value.slice.injEq] at hrv
      obtain ⟨rfl, _, rfl⟩ := hrv
      have hnb : ¬ FW rb := fun c => q6 rb (.inr (.inl c)) (hfS rb ⟨ro, none, _, _, by omega, rfl⟩)
      have x1 : wr.cell? ⟨rb, ro + k, none⟩ = some (.int .i64 (r.src.getD k 0)) := (World.cell?_of_block (hT.block rb hrb hnb)).trans (hcl k hlt)
      clear hcl
      have htk := addW_take st.rs.length r.src st.ws k hlt
      have hwl := addW_len st.rs.length (r.src.take k) st.ws
      have hwf := fun y => addW_few st.rs.length (r.src.take k) st.ws y
      generalize (r.src.take k).foldl (addW st.rs.length) st.ws = ws at hk htk hwl hwf
      generalize hx : r.src.getD k 0 = y at x1 hxr htk
      obtain ⟨y0, y63⟩ := hxr
      obtain ⟨n, rfl⟩ := Int.eq_ofNat_of_zero_le y0
      have hnl : n < ws.length := by omega
      have hnl' : (n : Int) < (ws.length : Int) := by omega
      have hwn := hwf n
      rw [List.length_take] at hwn
      have hw0 := HW.out n
      obtain ⟨wv, wvs, p1, p2, p3, p4, p5, p6, p7⟩ := hk.rep
      obtain ⟨wg, wc, rfl, k1, k2, k3, k4, k5, k6⟩ := Ownv.row p2 (by omega)
      have c1 := p1.cell 0
      simp only [List.getElem?_cons_zero] at c1
      have cn := k5 n (by omega)
      have fn := k6 n
      have pn := p3 n hnl
      obtain ⟨va, vc, hva, _, _, _⟩ := pn.rd.len
      have hng : ¬ Blks (wvs.getD n undef) wg := fun hb => Ownv.apart pn p2 (by decide) hb rfl
      have hnwb : ¬ Blks (wvs.getD n undef) x.wb := fun hb => Ownv.notBlk pn p1 (by decide) hb
      have hnrb : ¬ Blks (wvs.getD n undef) x.rb := fun hb => Ownv.notBlk pn b1 (by decide) hb
      rw [hva] at cn
      have HTK := Shut.mk htk
      have HX := Shut.mk hx
      have HWL := Shut.mk hwl
      have HVA := Shut.mk hva
      have HP3 := Shut.mk p3
      have HP4 := Shut.mk p4
      have HP7 := Shut.mk p7
      rw [hva] at pn hng hnwb hnrb
      clear htk hx hwl hwf k5 k6 hva p3 p4 p7
      generalize hold : ws.getD n [] = old at pn cn hng hnwb hnrb hwn HVA
      have HO := Shut.mk hold
      clear hold
      have ho1 : old.length + 1 ≤ 10000000000 := by omega
      have keepB : ∀ W, Turn (Blks (.slice va old.length vc)) wr W → W.cell? ⟨x.wb, 0, none⟩ = some (.slice (some ⟨wg, 0, none⟩) ws.length wc) ∧ W.cell? ⟨x.rb, 0, none⟩ = some (.slice ra st.rs.length rc) := fun W tW =>
        ⟨(World.cell?_of_block (tW.block x.wb (hk.lt _ p5) hnwb)).trans c1, (World.cell?_of_block (tW.block x.rb b1.lt hnrb)).trans cR⟩
      have keepC : ∀ W, Turn (Blks (.slice va old.length vc)) wr W → W.cell? ⟨wg, n, none⟩ = some (.slice va old.length vc) ∧ W.frozen? ⟨wg, n, none⟩ = false := fun W tW => ⟨(World.cell?_of_block (tW.block wg k4 hng)).trans cn, (World.frozen?_of_block (tW.block wg k4 hng)).trans fn⟩
      have a1 : ∀ ob, (wr.alloc ob).cell? ⟨x.wb, 0, none⟩ = some (.slice (some ⟨wg, 0, none⟩) ws.length wc) := fun ob => (keepB _ (((Kept.refl wr).alloc ob).turn _)).1
      have a2 : ∀ ob, (wr.alloc ob).cell? ⟨x.rb, 0, none⟩ = some (.slice ra st.rs.length rc) := fun ob => (keepB _ (((Kept.refl wr).alloc ob).turn _)).2
      have a3 : ∀ ob, (wr.alloc ob).cell? ⟨wg, n, none⟩ = some (.slice va old.length vc) := fun ob => (keepC _ (((Kept.refl wr).alloc ob).turn _)).1
      go_wp2_with fail
      go_region_law
        (first
          | (refine step_appi (.tmp 26) (.tmp 29) rfl rfl 0 _ old rfl (by first | exact Ownv.kept pn ((Kept.refl _).alloc _) | exact Ownv.kept pn ((Kept.refl _).drew.alloc _) | exact Ownv.kept pn (((Kept.refl _).drewN _).alloc _)) _ [(st.rs.length : Int)] rfl (OwnI.rd (lit1 _ _)) ho1 (Nat.zero_le _) ?_
             intro v30 w30 o30 t30 l30
             obtain ⟨a30, c30, hv30, _, _, _⟩ := (OwnI.rd o30).len
             simp only [List.length_append, List.length_cons, List.length_nil, Nat.zero_add] at hv30
             subst hv30
             have k30 := Turn.trans ((by first | exact (Kept.refl wr).alloc _ | exact (Kept.refl wr).drew.alloc _ | exact ((Kept.refl wr).drewN _).alloc _ : Kept wr _).turn (Blks (.slice va old.length vc))) t30 (fun b hb => .inl hb)
             obtain ⟨s30, s31⟩ := keepB w30 k30
             obtain ⟨s32, s33⟩ := keepC w30 k30))
      all_goals
        go_wp2
        go_roundw
        case rel =>
          have hsz : wr.heap.size ≤ wr.heap.size + 1 := Nat.le_succ _
          obtain ⟨z1, z2⟩ := WtS.add (v3 := .slice a30 (old.length + 1) c30) (i := st.rs.length) rfl hnl p1 p2 HP3.out HP4.out p5 p6 HP7.out hk.lt (by rw [HO.out]; exact o30) (by rw [HVA.out]; exact k30) (fun b hb => by rw [HVA.out]; exact (l30 b hb).imp id (fun c => by simp at c; omega))
          rw [HO.out] at z1
          refine ⟨k + 1, hlt, rfl, hT.trans z2 (fun b hb => HF.out b hb), fun b => F' b ∨ (wr.heap.size ≤ b ∧ b < w30.heap.size), by rw [HTK.out]; unfold addW; rw [Int.toNat_natCast, HO.out]; exact z1, fun b hb => hb.elim (HF.out b) (fun c => .inr (by have := hT.size; omega))⟩
        case measure => simp [intOf]; omega
    · obtain rfl : k = r.src.length := by omega
      rw [List.take_length] at hk
      have kl : Kept wr (wr.alloc (.cells #[.int .i64 (r.src.length : Int), .slice ta r.to.length tc] 123)) := (Kept.refl wr).alloc _
      have g2r := (Ownv.turn g2 hT (fun b hb c => q5 b c (g6 b hb)))
      have b1l := b1.kept kl
      obtain ⟨i0, hi, hz0, hz1, hz2⟩ := info_parts Tryd.infoRule
      have hrl := rule_lit wr (r.src.length : Int) (.slice ta r.to.length tc)
      go_wp2_with (at_builtin; refine go_app_at 0 123 2 32 i0 (.agg #[.int .i64 0, .slice none 0 0]) Tryd.underlying119 hi hz0 hz1 hz2 rfl (by decide) _ st.rs.length (flatR st.ms tvs) rfl (Ownv.kept g2r kl) _ 1 [.int .i64 (r.src.length : Int), .slice ta r.to.length tc] rfl hrl (by intro u hu; simp only [List.mem_cons, List.not_mem_nil, or_false] at hu; rcases hu with rfl | rfl <;> rfl) (by unfold maxLen; omega) (by omega) (Nat.zero_le _) ?_; intro v6 w6 o6 t6 l6; obtain ⟨a6, p6, hv6, _, _, _⟩ := Ownv.rdv o6; subst hv6; have b6 := b1l.turn t6 (fun hb => Ownv.notBlk (Ownv.kept g2r kl) b1l (by decide) hb); have c6 := b6.cell 0; have f6 := b6.frozen 0; simp only [List.getElem?_cons_zero] at c6)
      go_end0
      have tS := turn_setCell w6 ⟨x.rb, 0, none⟩ (.slice a6 (st.rs.length + 1) p6)
      have hs1 : w.heap.size ≤ wr.heap.size := hT.size
      have hs2 := kl.size
      have hs3 := t6.size
      have hs4 := tS.size
      have tA : Turn (fun b => FR b) wr (w6.setCell ⟨x.rb, 0, none⟩ (.slice a6 (st.rs.length + 1) p6)) := ((kl.turn _).trans t6 (fun b hb => .inl (g6 b hb))).trans tS (fun b hb => .inl (by rw [show b = x.rb from hb]; exact g5))
      have tB : Turn (fun b => FW b ∨ FR b) w (w6.setCell ⟨x.rb, 0, none⟩ (.slice a6 (st.rs.length + 1) p6)) := Turn.trans (hT.mono fun b hb => .inl hb) tA (fun b hb => .inl (.inr hb))
      have hfw : ∀ b, b < w.heap.size → F' b → FW b := fun b hb hf => (HF.out b hf).elim id (fun c => by omega)
      have e4 : Ownv 0 123 2 (w6.setCell ⟨x.rb, 0, none⟩ (.slice a6 (st.rs.length + 1) p6)) (.slice a6 (st.rs.length + 1) p6) (st.rs.length + 1) (flatR st.ms tvs ++ [.int .i64 (r.src.length : Int), .slice ta r.to.length tc]) := Ownv.setCell o6 (ad := ⟨x.rb, 0, none⟩) (Ownv.notBlk o6 b6 (by decide)) _
      refine ⟨rfl, ?_, tB.mono fun b hb => q6 b (.inr hb)⟩
      rw [HT.out]
      refine ⟨⟨FK, F', fun b => FR b ∨ (wr.heap.size ≤ b ∧ b < (w6.setCell ⟨x.rb, 0, none⟩ (.slice a6 (st.rs.length + 1) p6)).heap.size), q1.turn tB (fun b hb hc => hc.elim (q4 b hb).1 (q4 b hb).2), hk.turn tA (fun b hb hc => (HF.out b hb).elim (fun d => q5 b d hc) (fun d => by have := q3.lt b hc; omega)), ?_, fun b hb => ⟨fun c => ?_, fun c => c.elim (q4 b hb).2 (fun d => by have := q1.lt b hb; omega)⟩, fun b hb c => c.elim (fun d => (HF.out b hb).elim (fun e => q5 b e d) (fun e => by have := q3.lt b d; omega)) (fun d => by have := hk.lt b hb; omega), fun b hb hs => ?_⟩,
        h.box.turn tB (fun hc => q6 _ (.inr hc) h.inS), h.inS, fun b hb => Nat.lt_of_lt_of_le (h.old b hb) tB.size⟩
      · refine ⟨by rw [List.length_append, List.length_append, q3.len]; rfl, ⟨.slice a6 (st.rs.length + 1) p6, tvs ++ [.slice ta r.to.length tc], b6.set 0 _, ?_, by rw [List.length_append, List.length_append, g3]; rfl, fun i hi => ?_, .inl g5, fun b hb => ?_, fun i hi b hb => ?_⟩, fun b hb => ?_⟩
        · rw [List.length_append, flatR_snoc _ _ (by rw [g3, q3.len])]
          exact e4
        · rw [List.length_append, List.length_singleton] at hi
          rw [getD_snoc_v, getD_snoc_r, g3]
          split
          · rename_i c
            exact RdI.turn (g4 i c) tB (fun b hb hc => (g7 i c b hb).1 (.inr hc))
          · rw [if_pos (by omega), if_pos (by omega)]
            exact RdI.turn ht tB (fun b hb hc => q6 b (.inr hc) (htS b hb))
        · rcases l6 b hb with c | c
          · exact .inl (g6 b c)
          · exact .inr ⟨by omega, (Ownv.lt e4 hb).1⟩
        · rw [List.length_append, List.length_singleton] at hi
          rw [getD_snoc_v, g3] at hb
          split at hb
          · rename_i c
            obtain ⟨n1, n2⟩ := g7 i c b hb
            exact ⟨fun hc => n1 (hc.elim .inl (fun hc => .inr (hc.elim (fun d => .inl (hfw b n2 d)) (fun d => d.elim .inr (fun e => by omega))))), by omega⟩
          · rw [if_pos (by omega)] at hb
            have n1 := htS b hb
            have n2 := h.old b n1
            exact ⟨fun hc => q6 b (hc.elim .inl (fun hc => .inr (hc.elim (fun d => .inl (hfw b n2 d)) (fun d => d.elim .inr (fun e => by omega))))) n1, by omega⟩
        · rcases hb with c | c
          · exact Nat.lt_of_lt_of_le (q3.lt b c) tB.size
          · exact c.2
      · exact (q4 b hb).1 (hfw b (q1.lt b hb) c)
      · have n2 := h.old b hs
        exact q6 b (hb.elim .inl (fun hc => .inr (hc.elim (fun d => .inl (hfw b n2 d)) (fun d => d.elim .inr (fun e => by omega))))) hs
end Go.Proofs.YtangbnmgkcmhbaaDoor
end

section
/- A node of a list that came in. -/
set_option linter.unusedSimpArgs false
set_option linter.unusedVariables false
namespace Go.Proofs.YtangbnmgkcmhbaaDoor
open Go.RowKit Go.Maps

/-- The node at a place of a list that came in. -/
theorem RdNs.at {w : World} {v : Value} {ls : List Nd} (h : RdNs w v ls) {k : Nat} (hk : k < ls.length) : ∃ nb noff ncap la lc, v = .slice (some ⟨nb, noff, none⟩) ls.length ncap ∧
    (∀ wr, Kept w wr → wr.cell? ⟨nb, noff + k * 4, none⟩ = some (.int .i64 (ls.getD k nd0).op) ∧ wr.cell? ⟨nb, noff + k * 4 + 1, none⟩ = some (.int .i64 (ls.getD k nd0).n) ∧ wr.cell? ⟨nb, noff + k * 4 + 2, none⟩ = some (.string (strB (ls.getD k nd0).s)) ∧ wr.cell? ⟨nb, noff + k * 4 + 3, none⟩ = some (.slice la (ls.getD k nd0).l.length lc)) ∧
    RdI w (.slice la (ls.getD k nd0).l.length lc) (ls.getD k nd0).l := by
  obtain ⟨nb, noff, ncap, lvs, rfl, _, _, hnb, hnc, hnl⟩ := h.addr (by omega)
  obtain ⟨y0, y1, y2, y3⟩ := hnc k hk
  have hlr := hnl k hk
  obtain ⟨la, lc, hlv, _, _, _⟩ := hlr.len
  rw [hlv] at y3 hlr
  exact ⟨nb, noff, ncap, la, lc, rfl, fun wr hw => ⟨hw.cell (p := ⟨nb, noff + k * 4, none⟩) hnb |>.trans y0, hw.cell (p := ⟨nb, noff + k * 4 + 1, none⟩) hnb |>.trans y1, hw.cell (p := ⟨nb, noff + k * 4 + 2, none⟩) hnb |>.trans y2, hw.cell (p := ⟨nb, noff + k * 4 + 3, none⟩) hnb |>.trans y3⟩, hlr⟩

end Go.Proofs.YtangbnmgkcmhbaaDoor
end

section
/- Pairs of numbers as keys; the Sigs that there are, in a map. -/
set_option linter.unusedSimpArgs false
set_option linter.unusedVariables false
set_option maxRecDepth 100000
namespace Go.Proofs.YtangbnmgkcmhbaaDoor
open Go.RowKit Go.Maps

theorem Tryd.pairWide : (match Tryd.prog.underlying 142 with | some (.array _ _) | some (.struct _) => true | _ => false) = true := by kernel_rfl
theorem Tryd.pairLaw : WideMaps.KeyLaw Tryd.prog 142 := deep_law_laid Done.laidOut (m := 2) (by omega) (of_decide_eq_true (by kernel_rfl)) (by kernel_rfl) Tryd.pairWide
theorem pair_keyed : Keyed Tryd.prog 142 := Keyed.of_law Tryd.pairLaw
def k2 (a b : Int) : List UInt8 := keyBytes [.int .i64 a, .int .i64 b]
theorem keyPair {a b : Int} (ha : I64 a) (hb : I64 b) : keyOf Tryd.prog 142 (.agg #[.int .i64 a, .int .i64 b]) = some (.string (k2 a b)) := by
  have h1 : (Lit.int .i64 a).wf = true := i64_wf ha
  have h2 : (Lit.int .i64 b).wf = true := i64_wf hb
  have hu := Tryd.underlying142
  have hi := Tryd.underlying3
  have c1 : Tryd.prog.cellsOf 142 = 2 := by kernel_rfl
  have c2 : Tryd.prog.cellsOf 3 = 1 := by kernel_rfl
  have hk : Tryd.prog.keyType 142 = true := by kernel_rfl
  have hz : (Tryd.prog.types.size == 0) = false := by kernel_rfl
  obtain ⟨m, hm⟩ : ∃ m, Tryd.prog.types.size = m + 1 := ⟨Tryd.prog.types.size - 1, by have := beq_eq_false_iff_ne.1 hz; omega⟩
  have one : ∀ c : Int, (Lit.int .i64 c).wf = true → Tryd.prog.keyLits (m + 1) 3 [.int .i64 c] = some [.int .i64 c] := fun c hc => by
    unfold Program.keyLits
    rw [hi]
    simp [hc]
  have hcs : (Value.agg #[.int .i64 a, .int .i64 b]).cells = #[.int .i64 a, .int .i64 b] := rfl
  have two : Tryd.prog.keyLits (m + 1 + 1) 142 [.int .i64 a, .int .i64 b] = some [.int .i64 a, .int .i64 b] := by
    unfold Program.keyLits
    rw [hu]
    simp only [List.length_cons, List.length_nil, c1, if_true, c2]
    simp [List.range_succ, one a h1, one b h2]
  unfold keyOf
  rw [hm, hu]
  simp [hk, Value.formed, hu, c1, hcs, two, k2]
theorem k2_inj {a b c d : Int} (ha : I64 a) (hb : I64 b) (hc : I64 c) (hd : I64 d) (h : k2 a b = k2 c d) : a = c ∧ b = d := by
  have h1 := keyPair ha hb
  have h2 := keyPair hc hd
  rw [h] at h1
  have := pair_keyed.inj h1 h2
  simpa using this

/-- What the map of the Sigs says, behind j terms. -/
def SigD (ds : List Nd) (j : Nat) (D : DataW Unit) : Prop :=
  (∀ t : Nat, t < j → t < ds.length → (ds.getD t nd0).op = 10 → Maps.has D (.string (k2 ((ds.getD t nd0).l.getD 0 0) ((ds.getD t nd0).l.getD 1 0))) = true ∧ D.atKey (.string (k2 ((ds.getD t nd0).l.getD 0 0) ((ds.getD t nd0).l.getD 1 0))) (.lit (.int .i64 0)) = .lit (.int .i64 t)) ∧
  ∀ s, Maps.has D (.string s) = true → ∃ t : Nat, t < j ∧ t < ds.length ∧ (ds.getD t nd0).op = 10 ∧ k2 ((ds.getD t nd0).l.getD 0 0) ((ds.getD t nd0).l.getD 1 0) = s
theorem SigD.nil (ds : List Nd) : SigD ds 0 (.map []) := ⟨fun t h => absurd h (Nat.not_lt_zero _), fun s hs => by simp [Maps.has] at hs⟩
theorem SigD.skip {ds : List Nd} {j : Nat} {D : DataW Unit} (h : SigD ds j D) (ho : (ds.getD j nd0).op ≠ 10) : SigD ds (j + 1) D :=
  ⟨fun t ht hl hop => h.1 t (by
    rcases Nat.lt_or_ge t j with c | c
    · exact c
    · obtain rfl : t = j := by omega
      exact absurd hop ho) hl hop, fun s hs => by
    obtain ⟨t, a, b⟩ := h.2 s hs
    exact ⟨t, by omega, b⟩⟩
theorem sig_parts64 {ds : List Nd} (hg : Good ds) (hl : ds.length ≤ 100000) {t : Nat} (ht : t < ds.length) (ho : (ds.getD t nd0).op = 10) : (ds.getD t nd0).l.length = 2 ∧ I64 ((ds.getD t nd0).l.getD 0 0) ∧ I64 ((ds.getD t nd0).l.getD 1 0) := by
  have h2 := (hg.may' ht).p2 (.inl ho)
  have h3 := hg.lesser ht
  have a := h3 _ (getD_mem (l := (ds.getD t nd0).l) (i := 0) (by omega))
  have b := h3 _ (getD_mem (l := (ds.getD t nd0).l) (i := 1) (by omega))
  exact ⟨h2, ⟨by omega, by omega⟩, ⟨by omega, by omega⟩⟩
theorem SigD.add {ds : List Nd} (hg : Good ds) (hl : ds.length ≤ 100000) {j : Nat} {D : DataW Unit} (h : SigD ds j D) (hm : Maps.IsMap D) (hj : j < ds.length) (ho : (ds.getD j nd0).op = 10) :
    SigD ds (j + 1) (D.put (.string (k2 ((ds.getD j nd0).l.getD 0 0) ((ds.getD j nd0).l.getD 1 0))) (.lit (.int .i64 j))) := by
  have hk : ∀ s, WideAt.IsKeyLit (.string s) := fun s => by first | trivial | exact (by decide) | simp [WideAt.IsKeyLit]
  have hinj : ∀ t, t < ds.length → (ds.getD t nd0).op = 10 → k2 ((ds.getD t nd0).l.getD 0 0) ((ds.getD t nd0).l.getD 1 0) = k2 ((ds.getD j nd0).l.getD 0 0) ((ds.getD j nd0).l.getD 1 0) → t = j := by
    intro t ht hop e
    obtain ⟨a1, a2, a3⟩ := sig_parts64 hg hl ht hop
    obtain ⟨b1, b2, b3⟩ := sig_parts64 hg hl hj ho
    obtain ⟨e1, e2⟩ := k2_inj a2 a3 b2 b3 e
    have s1 := hg.sigEq (t := (t : Int)) ⟨by omega, by omega⟩ (by rw [nd_of]; exact hop)
    have s2 := hg.sigEq (t := (j : Int)) ⟨by omega, by omega⟩ (by rw [nd_of]; exact ho)
    rw [nd_of] at s1 s2
    exact hg.once t j ht hj (by rw [s1, s2, e1, e2])
  refine ⟨fun t ht htl hop => ?_, fun s hs => ?_⟩
  · by_cases c : t = j
    · subst c
      exact ⟨has_put_same hm (hk _) _, atKey_put_same hm (hk _) _ _⟩
    · obtain ⟨h1, h2⟩ := h.1 t (by omega) htl hop
      have hn : (Lit.string (k2 ((ds.getD t nd0).l.getD 0 0) ((ds.getD t nd0).l.getD 1 0))) ≠ Lit.string (k2 ((ds.getD j nd0).l.getD 0 0) ((ds.getD j nd0).l.getD 1 0)) := fun e => c (hinj t htl hop (by injection e))
      exact ⟨by rw [has_put_other hn]; exact h1, by rw [atKey_put_other hn]; exact h2⟩
  · by_cases c : s = k2 ((ds.getD j nd0).l.getD 0 0) ((ds.getD j nd0).l.getD 1 0)
    · exact ⟨j, by omega, hj, ho, c.symm⟩
    · rw [has_put_other (fun e => c (by injection e))] at hs
      obtain ⟨t, a, b⟩ := h.2 s hs
      exact ⟨t, by omega, b⟩
/-- What it says at a pair. -/
theorem SigD.at {ds : List Nd} (hg : Good ds) (hl : ds.length ≤ 100000) {D : DataW Unit} (h : SigD ds ds.length D) {k m : Int} (hk : I64 k) (hm : I64 m) :
    (sigAt ds k m = none ∧ Maps.has D (.string (k2 k m)) = false) ∨ ∃ s : Nat, sigAt ds k m = some (s : Int) ∧ s < ds.length ∧ Maps.has D (.string (k2 k m)) = true ∧ D.atKey (.string (k2 k m)) (.lit (.int .i64 0)) = .lit (.int .i64 s) := by
  cases hs : sigAt ds k m with
  | some s =>
    obtain ⟨h1, h2⟩ := sig_some hs
    obtain ⟨n, rfl, hn⟩ := isT_nat h1
    rw [nd_of] at h2
    have := h.1 n hn hn (by rw [h2])
    rw [h2] at this
    exact .inr ⟨n, rfl, hn, this⟩
  | none =>
    refine .inl ⟨rfl, ?_⟩
    cases hh : Maps.has D (.string (k2 k m)) with
    | false => rfl
    | true =>
      obtain ⟨t, _, ht, hop, e⟩ := h.2 _ hh
      obtain ⟨a1, a2, a3⟩ := sig_parts64 hg hl ht hop
      obtain ⟨e1, e2⟩ := k2_inj a2 a3 hk hm e
      have := hg.sigAt_eq (t := (t : Int)) ⟨by omega, by omega⟩ (by rw [nd_of]; exact hop)
      rw [nd_of, e1, e2, hs] at this
      cases this

def SigM (w : World) (mb : Nat) (ds : List Nd) (j : Nat) : Prop := ∃ (n : Nat) (D : DataW Unit), w.ownsMap Tryd.prog 142 (plainElem Tryd.prog 3) mb n D ∧ n ≤ j ∧ SigD ds j D
theorem SigM.lt {w : World} {mb : Nat} {ds : List Nd} {j : Nat} (h : SigM w mb ds j) : mb < w.heap.size := by
  obtain ⟨n, D, ⟨es, clock, hb, _⟩, _⟩ := h
  exact (Array.getElem?_eq_some_iff.1 hb).1
theorem SigM.turn {F : Nat → Prop} {w w' : World} {mb : Nat} {ds : List Nd} {j : Nat} (h : SigM w mb ds j) (k : Turn F w w') (hn : ¬ F mb) : SigM w' mb ds j := by
  obtain ⟨n, D, h1, h2⟩ := h
  exact ⟨n, D, ownsMap_turn h1 k hn, h2⟩
theorem SigM.kept {w w' : World} {mb : Nat} {ds : List Nd} {j : Nat} (h : SigM w mb ds j) (k : Kept w w') : SigM w' mb ds j := h.turn (k.turn (fun _ => False)) id

def SigsPost (w : World) (ds : List Nd) (e : Ending) (w' : World) : Prop := ∃ mb, e = .returned (.map (some mb)) ∧ w.heap.size ≤ mb ∧ SigM w' mb ds ds.length ∧ Kept w w'
set_option maxHeartbeats 4000000 in
theorem sigs_any {w : World} {v : Value} {ds : List Nd} (h : RdNs w v ds) (hg : Good ds) (hl : ds.length ≤ 100000) :
    Calls Tryd.prog 83 #[v] w (SigsPost w ds) := by
  obtain ⟨na, ncap, rfl, n1, n2, _⟩ := h.len
  have n63 : ((ds.length : Nat) : Int) ≤ 9223372036854775807 := by omega
  have hmm := @run_makeMap Tryd.prog
  have m0 : SigM (w.alloc (.map #[] 0)) w.heap.size ds 0 := ⟨0, .map [], World.ownsMap_made w _ _ _, Nat.le_refl _, SigD.nil ds⟩
  have hlaw := pair_keyed
  go_enter Tryd.func83, Tryd.ntmps83
  go_wp2
  go_loopw [9] (fun i wr => ∃ k : Nat, k ≤ ds.length ∧ i = .int .i64 k ∧ SigM wr w.heap.size ds k ∧ Kept w wr) (fun i _ => ds.length - (intOf i).toNat)
  case atStart => exact ⟨0, Nat.zero_le _, rfl, m0, (Kept.refl w).alloc _⟩
  case round =>
    obtain ⟨k, hk0, rfl, hm, hk⟩ := hrel
    by_cases hlt : k < ds.length
    · obtain ⟨nb, noff, ncap', la, lc, hv, hcl, hlr⟩ := h.at hlt
      simp only [Value.slice.injEq] at hv
      obtain ⟨rfl, _, rfl⟩ := hv
      obtain ⟨y0, y1, y2, y3⟩ := hcl wr hk
      clear hcl
      have hsig := sig_parts64 hg hl hlt
      have hadd := fun D => SigD.add hg hl (D := D) (j := k)
      have hskip := fun D => SigD.skip (ds := ds) (D := D) (j := k)
      generalize hd : ds.getD k nd0 = d at y0 y1 y2 y3 hlr hsig hadd hskip
      have HD := Shut.mk hd
      have HA := Shut.mk hadd
      have HS := Shut.mk hskip
      clear hd hadd hskip
      obtain ⟨op, n, s, l⟩ := d
      simp only at y0 y1 y2 y3 hlr hsig HA HS
      generalize strB s = X at y2
      have ka : Kept wr (wr.alloc (.cells #[.int .i64 op, .int .i64 n, .string X, .slice la l.length lc] 51)) := (Kept.refl wr).alloc _
      by_cases ho : op = 10
      · subst ho
        obtain ⟨l2, i0, i1⟩ := hsig rfl
        clear hsig
        obtain ⟨a, b, rfl⟩ : ∃ a b, l = [a, b] := by
          match l, l2 with
          | [a, b], _ => exact ⟨a, b, rfl⟩
        clear l2
        simp only [List.length_cons, List.length_nil, Nat.zero_add, Nat.reduceAdd] at y3 hlr ka
        have i0 : I64 a := i0
        have i1 : I64 b := i1
        obtain ⟨rb, ro, rc, hrv, _, _, hrb, hcl⟩ := hlr.addr (by simp)
        simp only [Value.slice.injEq] at hrv
        obtain ⟨rfl, _, rfl⟩ := hrv
        have x0 : wr.cell? ⟨rb, ro, none⟩ = some (.int .i64 a) := (hk.cell (p := ⟨rb, ro, none⟩) hrb).trans (hcl 0 (by simp))
        have x1 : wr.cell? ⟨rb, ro + 1, none⟩ = some (.int .i64 b) := (hk.cell (p := ⟨rb, ro + 1, none⟩) hrb).trans (hcl 1 (by simp))
        clear hcl
        have HKEY := Shut.mk (keyPair i0 i1)
        go_wp2_with fail
        have bx := Blk.new wr [.int .i64 10, .int .i64 n, .string X, .slice (some ⟨rb, ro, none⟩) 2 lc] 51
        have z0 := ka.cell (p := ⟨rb, ro, none⟩) (World.block_lt_of_cell? _ _ x0) |>.trans x0
        have z1 := ka.cell (p := ⟨rb, ro + 1, none⟩) (World.block_lt_of_cell? _ _ x1) |>.trans x1
        generalize (wr.alloc (.cells #[.int .i64 10, .int .i64 n, .string X, .slice (some ⟨rb, ro, none⟩) 2 lc] 51)) = w1 at ka bx z0 z1 ⊢
        have c3 := bx.cell 3
        simp only [List.getElem?_cons_succ, List.getElem?_cons_zero] at c3
        go_still_tail 11, (by kernel_rfl)
        change wpList _ _ _ _ _ w1.drew
        have kd : Kept wr w1.drew := ka.drew
        generalize w1.drew = w2 at kd ⊢
        obtain ⟨q, D, r1, r2, r3⟩ := hm
        have m7 := ownsMap_kept r1 kd
        have hpe : plainElem Tryd.prog 3 (.int .i64 (k : Int)) = some ((.lit (.int .i64 k) : DataW Unit), []) := plainElem_int Tryd.underlying3 (WalkArith.wf_i64 (by omega))
        have HPE := Shut.mk hpe
        clear hpe
        go_wp2_with (at_mapUpdate; refine wpList_mapUpdate_own _ rfl _ _ _ 139 rfl 142 3 hlaw Tryd.underlying139 (plainElem Tryd.prog 3) w.heap.size q D rfl m7 (by unfold maxLen; omega) _ _ (.string (k2 a b)) rfl rfl HKEY.out (.lit (.int .i64 k)) [] HPE.out ?_; intro w8 own8 hg8)
        go_roundw
        case rel => exact ⟨k + 1, hlt, rfl, ⟨q + 1, _, own8, by omega, HA.out D r3 r1.isMap hlt (by first | exact rfl | exact trivial)⟩, Turn.keptOf (hk.trans kd) (Grown.turn hg8) (fun b hb => Nat.le_of_eq (show w.heap.size = b by simpa using hb.symm))⟩
        case measure => simp [intOf]; omega
      · have hb : (op == 10) = false := by simpa using ho
        have HO := Shut.mk ho
        clear hsig ho
        go_wp2
        go_roundw
        case rel =>
          obtain ⟨q, D, r1, r2, r3⟩ := hm
          exact ⟨k + 1, hlt, rfl, ⟨q, D, ownsMap_kept r1 ka, by omega, HS.out D r3 HO.out⟩, hk.trans ka⟩
        case measure => simp [intOf]; omega
    · obtain rfl : k = ds.length := by omega
      go_wp2
      go_ret
      exact ⟨_, rfl, Nat.le_refl _, hm, hk⟩
end Go.Proofs.YtangbnmgkcmhbaaDoor
end

section
/- sealedTo. -/
set_option linter.unusedSimpArgs false
set_option linter.unusedVariables false
namespace Go.Proofs.YtangbnmgkcmhbaaDoor
open Go.RowKit Go.Maps

theorem RdNs.atT {w : World} {v : Value} {ls : List Nd} (h : RdNs w v ls) {t : Int} (ht : IsT ls t) : ∃ (k : Nat) (nb noff ncap : Nat) (la : Option Addr) (lc : Nat), t = (k : Int) ∧ k < ls.length ∧ v = .slice (some ⟨nb, noff, none⟩) ls.length ncap ∧
    (∀ wr, Kept w wr → wr.cell? ⟨nb, noff + k * 4, none⟩ = some (.int .i64 (nd ls t).op) ∧ wr.cell? ⟨nb, noff + k * 4 + 1, none⟩ = some (.int .i64 (nd ls t).n) ∧ wr.cell? ⟨nb, noff + k * 4 + 2, none⟩ = some (.string (strB (nd ls t).s)) ∧ wr.cell? ⟨nb, noff + k * 4 + 3, none⟩ = some (.slice la (nd ls t).l.length lc)) ∧
    RdI w (.slice la (nd ls t).l.length lc) (nd ls t).l := by
  obtain ⟨k, rfl, hk⟩ := isT_nat ht
  obtain ⟨nb, noff, ncap, la, lc, h1, h2, h3⟩ := h.at hk
  exact ⟨k, nb, noff, ncap, la, lc, rfl, hk, h1, by rw [nd_of]; exact h2, by rw [nd_of]; exact h3⟩
/-- A number of a slice of numbers. -/
theorem RdI.at {w : World} {la : Option Addr} {n lc : Nat} {l : List Int} (h : RdI w (.slice la n lc) l) {i : Nat} (hi : i < l.length) : ∃ rb ro, la = some ⟨rb, ro, none⟩ ∧ ∀ wr, Kept w wr → wr.cell? ⟨rb, ro + i, none⟩ = some (.int .i64 (l.getD i 0)) := by
  obtain ⟨rb, ro, rc, hrv, _, _, hrb, hcl⟩ := h.addr (by omega)
  simp only [Value.slice.injEq] at hrv
  exact ⟨rb, ro, hrv.1, fun wr k => (k.cell (p := ⟨rb, ro + i, none⟩) hrb).trans (hcl i hi)⟩

def SealPost (w : World) (o : Option Int) (e : Ending) (w' : World) : Prop := e = .returned (.tuple #[.int .i64 (o.getD 0), .bool o.isSome]) ∧ Kept w w'
set_option maxHeartbeats 4000000 in
set_option maxRecDepth 100000 in
theorem sealed_any {w : World} {v nv : Value} {ds : List Nd} (h : RdNs w v ds) (hg : Good ds) (hl : ds.length ≤ 100000) {t : Int} (ht : IsT ds t) (hn : RdN w nv (nd ds t)) :
    Calls Tryd.prog 84 #[v, nv] w (SealPost w (sealedTo ds (nd ds t))) := by
  have HM := Shut.mk (hg.mayT ht)
  have HP := Shut.mk (hg.partT ht)
  obtain ⟨lv, rfl, hr⟩ := hn
  have HS : Shut (∀ o, sealedTo ds (nd ds t) = o → o = sealedTo ds (nd ds t)) := ⟨fun o h => h.symm⟩
  have he : ∀ d, sealedTo ds d = if d.op = 8 then (if (nd ds (d.l.getD 0 0)).op = 7 then some ((nd ds (d.l.getD 0 0)).l.getD 0 0) else none) else none := fun d => rfl
  rw [he]
  clear HS he
  generalize nd ds t = d at hr HM HP ⊢
  obtain ⟨op, n, s, l⟩ := d
  simp only at hr HM HP ⊢
  generalize strB s = X
  obtain ⟨la, lc, hlv, l1, l2, l3⟩ := hr.len
  subst hlv
  by_cases ho : op = 8
  · subst ho
    have l4 := HM.out.p4 (.inl rfl)
    simp only at l4
    have hk := HP.out _ (getD_mem (l := l) (i := 0) (by omega))
    obtain ⟨rb, ro, rfl, hx⟩ := hr.at (i := 0) (by omega)
    obtain ⟨k, nb, noff, ncap, pa, pc, hkk, hkl, rfl, hcl, hpr⟩ := h.atT hk
    have HMK := Shut.mk (hg.mayT hk)
    have x0 := fun ob => hx (w.alloc ob) ((Kept.refl w).alloc ob)
    have q : ∀ ob, _ := fun ob => hcl (w.alloc ob) ((Kept.refl w).alloc ob)
    have x1 := fun ob ob' => hx ((w.alloc ob).alloc ob') (((Kept.refl w).alloc ob).alloc ob')
    rw [hkk] at x0
    clear hx hcl
    have HKK := Shut.mk hkk
    clear hkk x1
    generalize hd : nd ds (l.getD 0 0) = p at q hpr HMK
    obtain ⟨pop, pn, ps, pl⟩ := p
    simp only at q hpr HMK
    have q0 := fun ob => (q ob).1
    have q1 := fun ob => (q ob).2.1
    have q2 := fun ob => (q ob).2.2.1
    have q3 := fun ob => (q ob).2.2.2
    clear q
    generalize strB ps = Y at q2
    have HD := Shut.mk hd
    rw [if_pos rfl]
    clear hd
    have l40 : 0 < l.length := by omega
    rw [Nat.add_zero] at x0
    have k63 : (k : Int) < (ds.length : Int) := by omega
    by_cases hp : pop = 7
    · subst hp
      have p1 := HMK.out.p1 (.inl rfl)
      simp only at p1
      obtain ⟨sb, so, rfl, hy⟩ := hpr.at (i := 0) (by omega)
      have y0 := fun ob ob' => hy ((w.alloc ob).alloc ob') (((Kept.refl w).alloc ob).alloc ob')
      rw [Nat.add_zero] at y0
      clear hy
      have p10 : 0 < pl.length := by omega
      go_enter Tryd.func84, Tryd.ntmps84
      go_wp2
      go_ret2
      exact ⟨rfl, ((Kept.refl w).alloc _).alloc _⟩
    · have hb : (pop == 7) = false := by simpa using hp
      have hb2 : (pop != 7) = true := by simpa using hp
      rw [if_neg hp]
      clear hp
      go_enter Tryd.func84, Tryd.ntmps84
      go_wp2
      go_ret2
      exact ⟨rfl, ((Kept.refl w).alloc _).alloc _⟩
  · have hb : (op == 8) = false := by simpa using ho
    have hb2 : (op != 8) = true := by simpa using ho
    rw [if_neg ho]
    clear ho
    go_enter Tryd.func84, Tryd.ntmps84
    go_wp2
    go_ret2
    exact ⟨rfl, (Kept.refl w).alloc _⟩
end Go.Proofs.YtangbnmgkcmhbaaDoor
end

section
/- A rule is told: what derived's second literal does, whole; how large all may be. -/
set_option linter.unusedSimpArgs false
set_option linter.unusedVariables false
namespace Go.Proofs.YtangbnmgkcmhbaaDoor
open Go.RowKit Go.Maps

/-- Behind j rules all is so large at most. -/
structure Fit (n j : Nat) (st : St) : Prop where
  ws : st.ws.length = n
  kn : st.s.1.length = n
  rs : st.rs.length ≤ j
  wf : ∀ y, (st.ws.getD y []).length ≤ 64 * j
  td : st.s.2.length ≤ 64 * j
theorem Fit.tell {n j : Nat} {st : St} (h : Fit n j st) {r : Rl} (h1 : r.src.length ≤ 64) (h2 : r.to.length ≤ 64) : Fit n (j + 1) (tell st r) := by
  unfold YtangbnmgkcmhbaaDoor.tell
  split
  · exact ⟨h.ws, (know_len _ _).trans h.kn, Nat.le_succ_of_le h.rs, fun y => Nat.le_trans (h.wf y) (by omega), Nat.le_trans (know_td st.s r.to) (by have := h.td; omega)⟩
  · refine ⟨by rw [addW_len]; exact h.ws, h.kn, ?_, fun y => ?_, Nat.le_trans h.td (by omega)⟩
    · rw [List.length_append, List.length_singleton]; have := h.rs; omega
    · have := addW_few st.rs.length r.src st.ws y
      have := h.wf y
      simp only
      omega
theorem tell_any {S : Nat → Prop} {w : World} {x : Bx} {st : St} {n j : Nat} (h : DvS S w x st) (hF : Fit n j st) (hj : j ≤ 1000000) {tv fv : Value} {r : Rl} (ht : RdI w tv r.to) (htS : ∀ b, VB tv b → S b) (hf : RdI w fv r.src) (hfS : ∀ b, VB fv b → S b)
    (hfr : ∀ y ∈ r.src, 0 ≤ y ∧ y < (n : Int)) (htr : ∀ y ∈ r.to, 0 ≤ y ∧ y < (n : Int)) (h1 : r.src.length ≤ 64) (h2 : r.to.length ≤ 64) :
    Calls Tryd.prog 71 #[tv, fv, .pointer (some ⟨x.xb, 0, none⟩), .pointer (some ⟨x.wb, 0, none⟩), .pointer (some ⟨x.rb, 0, none⟩)] w (TellPost S w x (tell st r)) := by
  by_cases hr : r.src = []
  · exact tell_none h hr ht htS hf (fun y hy => by rw [hF.kn]; exact htr y hy) (by have := hF.td; omega)
  · exact tell_some h hr ht htS hf hfS (fun y hy => by rw [hF.ws]; exact hfr y hy) (by have := hF.rs; omega) (fun y => by have := hF.wf y; omega) (by omega)

theorem DvS.more {S T : Nat → Prop} {w w' : World} {x : Bx} {st : St} (h : DvS S w x st) (k : Kept w w') (hT : ∀ b, T b → (S b ∨ w.heap.size ≤ b) ∧ b < w'.heap.size) (hx : T x.xb) : DvS T w' x st := by
  obtain ⟨FK, FW, FR, q1, q2, q3, q4, q5, q6⟩ := h.rep
  have t0 : Turn (fun _ => False) w w' := k.turn _
  refine ⟨⟨FK, FW, FR, q1.turn t0 (fun _ _ c => c), q2.turn t0 (fun _ _ c => c), q3.turn t0 (fun _ _ c => c) (fun b c => c.elim) (fun b hb => .inl hb), q4, q5, fun b hb hs => ?_⟩, h.box.kept k, hx, fun b hb => (hT b hb).2⟩
  rcases (hT b hs).1 with c | c
  · exact q6 b hb c
  · rcases hb with d | d | d
    · have := q1.lt b d; omega
    · have := q2.lt b d; omega
    · have := q3.lt b d; omega
theorem DvS.less {S T : Nat → Prop} {w : World} {x : Bx} {st : St} (h : DvS S w x st) (hT : ∀ b, T b → S b) (hx : T x.xb) : DvS T w x st := by
  obtain ⟨FK, FW, FR, q1, q2, q3, q4, q5, q6⟩ := h.rep
  exact ⟨⟨FK, FW, FR, q1, q2, q3, q4, q5, fun b hb hs => q6 b hb (hT b hs)⟩, h.box, hx, fun b hb => h.old b (hT b hb)⟩
/-- S, and what has come since w. -/
def SN (S : Nat → Prop) (w w' : World) : Nat → Prop := fun b => S b ∨ (w.heap.size ≤ b ∧ b < w'.heap.size)
theorem DvS.since {S : Nat → Prop} {w w' : World} {x : Bx} {st : St} (h : DvS S w x st) (k : Kept w w') : DvS (SN S w w') w' x st :=
  h.more k (fun b hb => hb.elim (fun c => ⟨.inl c, Nat.lt_of_lt_of_le (h.old b c) k.size⟩) (fun c => ⟨.inr c.1, c.2⟩)) (.inl h.inS)
/-- Since w0 nothing of it has turned, though all else may have. -/
theorem kept_of {S : Nat → Prop} {w0 w w' : World} (h0 : Kept w0 w) (h : Turn (fun b => ¬ S b) w w') (hb : ∀ b, b < w0.heap.size → S b) : Kept w0 w' :=
  Turn.keptOf h0 h (fun b hn => by
    by_cases c : b < w0.heap.size
    · exact absurd (hb b c) hn
    · omega)
theorem RdI.vb {w : World} {v : Value} {zs : List Int} (h : RdI w v zs) (hp : 0 < zs.length) {b : Nat} (hb : VB v b) : b < w.heap.size := Rdv.lt h (by omega) hb
end Go.Proofs.YtangbnmgkcmhbaaDoor
end

section
/- All rules are told: eachRule; plain facts, and what each round begins with. -/
set_option linter.unusedSimpArgs false
set_option linter.unusedVariables false
namespace Go.Proofs.YtangbnmgkcmhbaaDoor
open Go.RowKit Go.Maps

/-- What is there behind k terms. -/
def stK (ds : List Nd) (st : St) (k : Nat) : St := ((List.range k).flatMap (rulesAt ds)).foldl tell st
theorem stK_succ (ds : List Nd) (st : St) (k : Nat) : stK ds st (k + 1) = (rulesAt ds k).foldl tell (stK ds st k) := by
  unfold stK
  rw [List.range_succ, List.flatMap_append, List.foldl_append]
  simp
theorem stK_zero (ds : List Nd) (st : St) : stK ds st 0 = st := rfl
theorem stK_all (ds : List Nd) (st : St) : stK ds st ds.length = (rules ds).foldl tell st := rfl
theorem openRules_len (ds : List Nd) (t : Int) (d : Nd) : (openRules ds t d).length ≤ 2 := by
  unfold openRules
  split
  · simp
  split
  · split <;> simp
  split
  · simp
  split
  · simp
  split
  · split
    · split <;> simp
    · simp
  · simp
theorem rulesAt_len (ds : List Nd) (t : Nat) : (rulesAt ds t).length ≤ 3 := by
  have := openRules_len ds (t : Int) (ds.getD t nd0)
  unfold rulesAt
  split
  · rw [List.nil_append]; omega
  · rw [List.length_append, List.length_singleton]; omega
theorem rules_len64 {ds : List Nd} (hg : Good ds) {t : Nat} (ht : t < ds.length) : ∀ r ∈ rulesAt ds t, r.src.length ≤ 64 ∧ r.to.length ≤ 64 := by
  have h64 := (hg.may' ht).len64
  intro r hr
  unfold rulesAt at hr
  rcases List.mem_append.1 hr with hr | hr
  · split at hr
    · cases hr
    · obtain rfl := List.mem_singleton.1 hr
      exact ⟨h64, by simp⟩
  · generalize ds.getD t nd0 = d at hr h64
    unfold openRules at hr
    split at hr
    · obtain rfl := List.mem_singleton.1 hr; exact ⟨by simp, h64⟩
    split at hr
    · split at hr
      · obtain rfl := List.mem_singleton.1 hr; exact ⟨by simp, by simp; omega⟩
      · cases hr
    split at hr
    · obtain rfl := List.mem_singleton.1 hr; exact ⟨by simp, by simp; omega⟩
    split at hr
    · obtain rfl := List.mem_singleton.1 hr; exact ⟨by simp, by simp; omega⟩
    split at hr
    · rcases List.mem_cons.1 hr with rfl | hr
      · exact ⟨by simp, by simp; omega⟩
      · split at hr
        · split at hr
          · obtain rfl := List.mem_singleton.1 hr; exact ⟨by simp, by simp⟩
          · cases hr
        · cases hr
    · cases hr
theorem Fit.tells {n : Nat} : ∀ (l : List Rl) {j : Nat} {st : St}, Fit n j st → (∀ r ∈ l, r.src.length ≤ 64 ∧ r.to.length ≤ 64) → Fit n (j + l.length) (l.foldl YtangbnmgkcmhbaaDoor.tell st)
  | [], j, st, h, _ => h
  | r :: l, j, st, h, hl => by
    have h1 := hl r List.mem_cons_self
    have := Fit.tells l (h.tell h1.1 h1.2) (fun x hx => hl x (List.mem_cons_of_mem _ hx))
    rw [List.length_cons, show j + (l.length + 1) = j + 1 + l.length by omega]
    exact this
theorem Fit.mono {n j k : Nat} {st : St} (h : Fit n j st) (hk : j ≤ k) : Fit n k st := ⟨h.ws, h.kn, by have := h.rs; omega, fun y => by have := h.wf y; omega, by have := h.td; omega⟩
theorem fit_stK {ds : List Nd} (hg : Good ds) {st : St} (h : Fit ds.length 0 st) : ∀ k, k ≤ ds.length → Fit ds.length (3 * k) (stK ds st k)
  | 0, _ => h
  | k + 1, hk => by
    rw [stK_succ]
    refine ((fit_stK hg h k (by omega)).tells (rulesAt ds k) (rules_len64 hg (by omega))).mono ?_
    have := rulesAt_len ds k
    omega
theorem lit2 (w : World) (s t : Int) : OwnI 0 (w.alloc (.cells #[.int .i64 s, .int .i64 t] 3)) (.slice (some ⟨w.heap.size, 0, none⟩) 2 2) [s, t] :=
  Ownv.lit (B := 0) 3 (w := w) [.int .i64 s, .int .i64 t] (Nat.zero_le _) (by unfold maxLen; simp)
theorem SN.turn {S : Nat → Prop} {a a' w w' : World} (h : Turn (fun b => ¬ SN S a a' b) w w') : Turn (fun b => ¬ S b) w w' := h.mono fun b hb hs => hb (.inl hs)

/-- What eachRule leaves. -/
def EachPost (S : Nat → Prop) (w : World) (x : Bx) (st : St) (e : Ending) (w' : World) : Prop := e = .returned (.tuple #[]) ∧ DvS S w' x st ∧ Turn (fun b => ¬ S b) w w'
/-- The rest of a round: the term's own rule, and what opens it. -/
structure Rnd (ds : List Nd) (k : Nat) (d : Nd) : Prop where
  eq : ds.getD k nd0 = d
  may : May ds d
  part : ∀ y ∈ d.l, 0 ≤ y ∧ y < (ds.length : Int)
  isT : IsT ds (k : Int)
  nd : nd ds (k : Int) = d
theorem rnd_of {ds : List Nd} (hg : Good ds) {k : Nat} (hk : k < ds.length) : Rnd ds k (ds.getD k nd0) :=
  ⟨rfl, hg.may' hk, fun y hy => by have := hg.lesser hk y hy; omega, ⟨by omega, by omega⟩, nd_of⟩
theorem Rnd.rules {ds : List Nd} {k : Nat} {d : Nd} (h : Rnd ds k d) : rulesAt ds k = (if d.op = 1 then [] else [⟨d.l, [(k : Int)]⟩]) ++ openRules ds k d := by
  unfold rulesAt
  rw [h.eq]
end Go.Proofs.YtangbnmgkcmhbaaDoor
end

section
/- derived's own, read and written step by step. -/
set_option linter.unusedSimpArgs false
set_option linter.unusedVariables false
namespace Go.Proofs.YtangbnmgkcmhbaaDoor
open Go.RowKit Go.Maps

/-- derived's own, with the memory of who waits told. -/
structure DvW (FW S : Nat → Prop) (w : World) (x : Bx) (st : St) : Prop where
  rep : ∃ FK FR : Nat → Prop, KnS FK x.kb x.tb w st.s ∧ WtS FW x.wb w st.ws ∧ RlS (fun b => FK b ∨ FW b ∨ FR b) FR x.rb w st.rs st.ms ∧ (∀ b, FK b → ¬ FW b ∧ ¬ FR b) ∧ (∀ b, FW b → ¬ FR b) ∧ (∀ b, (FK b ∨ FW b ∨ FR b) → ¬ S b)
  box : Blk w x.xb 120 [.func (.func 69) #[] #[.pointer (some ⟨x.kb, 0, none⟩), .pointer (some ⟨x.tb, 0, none⟩)]]
  inS : S x.xb
  old : ∀ b, S b → b < w.heap.size
theorem DvS.fix {S : Nat → Prop} {w : World} {x : Bx} {st : St} (h : DvS S w x st) : ∃ FW, DvW FW S w x st := by
  obtain ⟨FK, FW, FR, q⟩ := h.rep
  exact ⟨FW, ⟨FK, FR, q⟩, h.box, h.inS, h.old⟩
def TellPostW (FW S : Nat → Prop) (w : World) (x : Bx) (st : St) (e : Ending) (w' : World) : Prop := e = .returned (.tuple #[]) ∧ DvW FW S w' x st ∧ Turn (fun b => ¬ S b ∧ ¬ FW b) w w'
theorem DvW.kept {FW S : Nat → Prop} {w w' : World} {x : Bx} {st : St} (h : DvW FW S w x st) (k : Kept w w') : DvW FW S w' x st := by
  obtain ⟨FK, FR, q1, q2, q3, q4, q5, q6⟩ := h.rep
  have t0 : Turn (fun _ => False) w w' := k.turn _
  exact ⟨⟨FK, FR, q1.turn t0 (fun _ _ c => c), q2.turn t0 (fun _ _ c => c), q3.turn t0 (fun _ _ c => c) (fun b c => c.elim) (fun b hb => .inl hb), q4, q5, q6⟩, h.box.kept k, h.inS, fun b hb => Nat.lt_of_lt_of_le (h.old b hb) k.size⟩

/-- What is to be gone through, in memory. -/
theorem DvW.todo {FW S : Nat → Prop} {w : World} {x : Bx} {st : St} (h : DvW FW S w x st) : ∃ tv, w.cell? ⟨x.tb, 0, none⟩ = some tv ∧ w.frozen? ⟨x.tb, 0, none⟩ = false ∧ OwnI 0 w tv st.s.2 := by
  obtain ⟨FK, FR, q1, q2, q3, q4, q5, q6⟩ := h.rep
  obtain ⟨kv, tv, h1, h2, h3, h4, h5, h6, h7, h8⟩ := q1.rep
  exact ⟨tv, h3.cell 0, h3.frozen 0, h4⟩
/-- The last of these is taken off. -/
theorem DvW.pop {FW S : Nat → Prop} {w : World} {x : Bx} {st : St} (h : DvW FW S w x st) {g n cap : Nat} (hn : 0 < n) (hc : w.cell? ⟨x.tb, 0, none⟩ = some (.slice (some ⟨g, 0, none⟩) n cap)) (hl : st.s.2.length = n) :
    DvW FW S (w.setCell ⟨x.tb, 0, none⟩ (.slice (some ⟨g, 0, none⟩) (n - 1) cap)) x ⟨st.rs, st.ms, st.ws, (st.s.1, st.s.2.take (n - 1))⟩ ∧ Turn (fun b => ¬ S b ∧ ¬ FW b) w (w.setCell ⟨x.tb, 0, none⟩ (.slice (some ⟨g, 0, none⟩) (n - 1) cap)) := by
  obtain ⟨FK, FR, q1, q2, q3, q4, q5, q6⟩ := h.rep
  obtain ⟨kv, tv, h1, h2, h3, h4, h5, h6, h7, h8⟩ := q1.rep
  have e0 := h3.cell 0
  rw [hc] at e0
  simp only [List.getElem?_cons_zero, Option.some.injEq] at e0
  subst e0
  subst hl
  have tS := turn_setCell w ⟨x.tb, 0, none⟩ (.slice (some ⟨g, 0, none⟩) (st.s.2.length - 1) cap)
  have hkt : ¬ Blks kv x.tb := fun hb => Ownv.notBlk h2 h3 (by decide) hb
  have htt : ¬ Blks (.slice (some ⟨g, 0, none⟩) st.s.2.length cap) x.tb := fun hb => Ownv.notBlk h4 h3 (by decide) hb
  have i2 := OwnI.take h4 (st.s.2.length - 1) (by omega)
  refine ⟨⟨⟨FK, FR, ⟨⟨kv, _, h1.turn tS (Blk.ne h1 h3 (by decide)), Ownv.setCell h2 hkt _, h3.set 0 _, Ownv.setCell i2 (ad := ⟨x.tb, 0, none⟩) htt _, h5, h6, h7, fun b hb => h8 b hb⟩, fun b hb => by rw [size_setCell]; exact q1.lt b hb⟩, q2.turn tS (fun b hb hc => (q4 x.tb h6).1 (by rw [← show b = x.tb from hc]; exact hb)), q3.turn tS (fun b hb hc => (q4 x.tb h6).2 (by rw [← show b = x.tb from hc]; exact hb)) (fun b hc => .inl (.inl (by rw [show b = x.tb from hc]; exact h6))) (fun b hb => .inl hb), q4, q5, q6⟩, h.box.turn tS (fun hc => q6 x.tb (.inl h6) (by rw [← show x.xb = x.tb from hc]; exact h.inS)), h.inS, fun b hb => by rw [size_setCell]; exact h.old b hb⟩, tS.mono fun b hb => by rw [show b = x.tb from hb]; exact ⟨q6 _ (.inl h6), (q4 _ h6).1⟩⟩
/-- That reads on, whatever the rest does. -/
theorem DvW.waits {FW S : Nat → Prop} {w : World} {x : Bx} {st : St} (h : DvW FW S w x st) {n : Nat} (hn : n < st.ws.length) : (∃ g cap v, w.cell? ⟨x.wb, 0, none⟩ = some (.slice (some ⟨g, 0, none⟩) st.ws.length cap) ∧ w.cell? ⟨g, n, none⟩ = some v ∧ RdI w v (st.ws.getD n []) ∧ ∀ b, VB v b → FW b ∧ b < w.heap.size) := by
  obtain ⟨FK, FR, q1, q2, q3, q4, q5, q6⟩ := h.rep
  obtain ⟨wv, wvs, p1, p2, p3, p4, p5, p6, p7⟩ := q2.rep
  obtain ⟨wg, wc, rfl, k1, k2, k3, k4, k5, k6⟩ := Ownv.row p2 (by omega)
  refine ⟨wg, wc, _, p1.cell 0, k5 n (by omega), (p3 n hn).rd, fun b hb => ?_⟩
  have hb' : Blks (wvs.getD n undef) b := by
    obtain ⟨off, sp, m, c, _, e⟩ := hb
    rw [e]; rfl
  exact ⟨p7 n hn b hb', q2.lt b (p7 n hn b hb')⟩
/-- A rule's two cells. -/
theorem DvW.rule {FW S : Nat → Prop} {w : World} {x : Bx} {st : St} (h : DvW FW S w x st) {i : Nat} (hi : i < st.rs.length) : ∃ g cap tv, w.cell? ⟨x.rb, 0, none⟩ = some (.slice (some ⟨g, 0, none⟩) st.rs.length cap) ∧ w.cell? ⟨g, i * 2, none⟩ = some (.int .i64 (st.ms.getD i 0)) ∧ w.frozen? ⟨g, i * 2, none⟩ = false ∧ w.cell? ⟨g, i * 2 + 1, none⟩ = some tv ∧ RdI w tv (st.rs.getD i rl0).to := by
  obtain ⟨FK, FR, q1, q2, q3, q4, q5, q6⟩ := h.rep
  obtain ⟨rv, tvs, h1, h2, h3, h4, h5, h6, h7⟩ := q3.rep
  obtain ⟨wg, wc, rfl, k1, k2, k3, k4, k5, k6⟩ := Ownv.row h2 (by omega)
  obtain ⟨f1, f2⟩ := flatR_at st.ms tvs i (by rw [q3.len]; exact hi)
  exact ⟨wg, wc, tvs.getD i undef, h1.cell 0, by rw [k5 (i * 2) (by omega), f1], k6 _, by rw [k5 (i * 2 + 1) (by omega), f2], h4 i hi⟩
/-- One thing less is missing. -/
theorem DvW.dec {FW S : Nat → Prop} {w : World} {x : Bx} {st : St} (h : DvW FW S w x st) {i g cap : Nat} (hi : i < st.rs.length) (hc : w.cell? ⟨x.rb, 0, none⟩ = some (.slice (some ⟨g, 0, none⟩) st.rs.length cap)) (m : Int) :
    DvW FW S (w.setCell ⟨g, i * 2, none⟩ (.int .i64 m)) x ⟨st.rs, st.ms.set i m, st.ws, st.s⟩ ∧ Turn (fun b => ¬ S b ∧ ¬ FW b) w (w.setCell ⟨g, i * 2, none⟩ (.int .i64 m)) := by
  obtain ⟨FK, FR, q1, q2, q3, q4, q5, q6⟩ := h.rep
  obtain ⟨rv, tvs, h1, h2, h3, h4, h5, h6, h7⟩ := q3.rep
  have e0 := h1.cell 0
  rw [hc] at e0
  simp only [List.getElem?_cons_zero, Option.some.injEq] at e0
  subst e0
  have hg : FR g := h6 g rfl
  have tS := turn_setCell w ⟨g, i * 2, none⟩ (.int .i64 m)
  have e2 := Ownv.put h2 (i * 2) (by omega) (.int .i64 m)
  rw [flatR_set] at e2
  have hrg : x.rb ≠ g := fun e => Ownv.notBlk h2 h1 (by decide) (e ▸ rfl)
  refine ⟨⟨⟨FK, FR, q1.turn tS (fun b hb hc => (q4 b hb).2 (by rw [show b = g from hc]; exact hg)), q2.turn tS (fun b hb hc => q5 b hb (by rw [show b = g from hc]; exact hg)), ⟨by rw [List.length_set]; exact q3.len, ⟨_, tvs, h1.turn tS hrg, e2, h3, fun j hj => RdI.turn (h4 j hj) tS (fun b hb hc => (h7 j hj b hb).1 (.inr (.inr (by rw [show b = g from hc]; exact hg)))), h5, h6, fun j hj b hb => ⟨(h7 j hj b hb).1, by rw [size_setCell]; exact (h7 j hj b hb).2⟩⟩, fun b hb => by rw [size_setCell]; exact q3.lt b hb⟩, q4, q5, q6⟩, h.box.turn tS (fun hc => q6 g (.inr (.inr hg)) (by rw [← show x.xb = g from hc]; exact h.inS)), h.inS, fun b hb => by rw [size_setCell]; exact h.old b hb⟩, tS.mono fun b hb => by rw [show b = g from hb]; exact ⟨q6 _ (.inr (.inr hg)), fun hw => q5 _ hw hg⟩⟩
/-- What a rule leads to is known. -/
theorem DvW.know {FW S : Nat → Prop} {w : World} {x : Bx} {st : St} (h : DvW FW S w x st) {i g cap : Nat} {tv : Value} (hi : i < st.rs.length) (hc : w.cell? ⟨x.rb, 0, none⟩ = some (.slice (some ⟨g, 0, none⟩) st.rs.length cap)) (ht : w.cell? ⟨g, i * 2 + 1, none⟩ = some tv)
    (hr : ∀ y ∈ (st.rs.getD i rl0).to, 0 ≤ y ∧ y < (st.s.1.length : Int)) (hs : st.s.2.length + (st.rs.getD i rl0).to.length ≤ 1000000000) :
    Calls Tryd.prog 69 #[tv, .pointer (some ⟨x.kb, 0, none⟩), .pointer (some ⟨x.tb, 0, none⟩)] w (TellPostW FW S w x ⟨st.rs, st.ms, st.ws, YtangbnmgkcmhbaaDoor.know st.s (st.rs.getD i rl0).to⟩) := by
  obtain ⟨FK, FR, q1, q2, q3, q4, q5, q6⟩ := h.rep
  obtain ⟨rv, tvs, h1, h2, h3, h4, h5, h6, h7⟩ := q3.rep
  have e0 := h1.cell 0
  rw [hc] at e0
  simp only [List.getElem?_cons_zero, Option.some.injEq] at e0
  subst e0
  obtain ⟨f1, f2⟩ := flatR_at st.ms tvs i (by rw [q3.len]; exact hi)
  obtain ⟨wg, wc, e1, k1, k2, k3, k4, k5, k6⟩ := Ownv.row h2 (by omega)
  simp only [Value.slice.injEq, Option.some.injEq, Addr.mk.injEq] at e1
  obtain ⟨⟨rfl, _⟩, _, rfl⟩ := e1
  have e2 := k5 (i * 2 + 1) (by omega)
  rw [ht, f2] at e2
  obtain rfl := Option.some.inj e2
  refine (know_any q1 (h4 i hi) (fun b hb hF => (h7 i hi b hb).1 (.inl hF)) hr hs).mono ?_
  rintro e w' ⟨rfl, F', k1, k2, k3⟩
  have hw : ∀ b, FW b → ¬ F' b := fun b hb hF => (k3 b hF).elim (fun c => (q4 b c).1 hb) (fun c => by have := q2.lt b hb; omega)
  have hrr : ∀ b, FR b → ¬ F' b := fun b hb hF => (k3 b hF).elim (fun c => (q4 b c).2 hb) (fun c => by have := q3.lt b hb; omega)
  have e3 := q3.turn (A' := fun b => F' b ∨ FW b ∨ FR b) k2 (fun b hb hF => (q4 b hF).2 hb) (fun b hb => .inl (.inl hb)) (fun b hb => hb.elim (fun c => (k3 b c).imp .inl id) (fun c => .inl (.inr c)))
  refine ⟨rfl, ⟨⟨F', FR, k1, q2.turn k2 (fun b hb hF => (q4 b hF).1 hb), e3, fun b hb => ⟨fun c => hw b c hb, fun c => hrr b c hb⟩, q5, fun b hb hs => ?_⟩, h.box.turn k2 (fun hF => q6 _ (.inl hF) h.inS), h.inS, fun b hb => Nat.lt_of_lt_of_le (h.old b hb) k2.size⟩, k2.mono fun b hb => ⟨q6 b (.inl hb), (q4 b hb).1⟩⟩
  rcases hb with c | c
  · rcases k3 b c with d | d
    · exact q6 b (.inl d) hs
    · have := h.old b hs; omega
  · exact q6 b (.inr c) hs
/-- And what was handed in. -/
theorem DvW.know0 {FW S : Nat → Prop} {w : World} {x : Bx} {st : St} (h : DvW FW S w x st) {v : Value} {l : List Int} (hd : RdI w v l) (hv : ∀ b, VB v b → S b) (hl : ∀ y ∈ l, 0 ≤ y ∧ y < (st.s.1.length : Int)) (hs : st.s.2.length + l.length ≤ 1000000000) :
    Calls Tryd.prog 69 #[v, .pointer (some ⟨x.kb, 0, none⟩), .pointer (some ⟨x.tb, 0, none⟩)] w (TellPostW FW S w x ⟨st.rs, st.ms, st.ws, YtangbnmgkcmhbaaDoor.know st.s l⟩) := by
  obtain ⟨FK, FR, q1, q2, q3, q4, q5, q6⟩ := h.rep
  refine (know_any q1 hd (fun b hb hF => q6 b (.inl hF) (hv b hb)) hl hs).mono ?_
  rintro e w' ⟨rfl, F', k1, k2, k3⟩
  have hw : ∀ b, FW b → ¬ F' b := fun b hb hF => (k3 b hF).elim (fun c => (q4 b c).1 hb) (fun c => by have := q2.lt b hb; omega)
  have hrr : ∀ b, FR b → ¬ F' b := fun b hb hF => (k3 b hF).elim (fun c => (q4 b c).2 hb) (fun c => by have := q3.lt b hb; omega)
  have e3 := q3.turn (A' := fun b => F' b ∨ FW b ∨ FR b) k2 (fun b hb hF => (q4 b hF).2 hb) (fun b hb => .inl (.inl hb)) (fun b hb => hb.elim (fun c => (k3 b c).imp .inl id) (fun c => .inl (.inr c)))
  refine ⟨rfl, ⟨⟨F', FR, k1, q2.turn k2 (fun b hb hF => (q4 b hF).1 hb), e3, fun b hb => ⟨fun c => hw b c hb, fun c => hrr b c hb⟩, q5, fun b hb hs => ?_⟩, h.box.turn k2 (fun hF => q6 _ (.inl hF) h.inS), h.inS, fun b hb => Nat.lt_of_lt_of_le (h.old b hb) k2.size⟩, k2.mono fun b hb => ⟨q6 b (.inl hb), (q4 b hb).1⟩⟩
  rcases hb with c | c
  · rcases k3 b c with d | d
    · exact q6 b (.inl d) hs
    · have := h.old b hs; omega
  · exact q6 b (.inr c) hs
/-- At the end: the truth values. -/
theorem DvW.out {FW S : Nat → Prop} {w : World} {x : Bx} {st : St} (h : DvW FW S w x st) : ∃ kv, w.cell? ⟨x.kb, 0, none⟩ = some kv ∧ OwnB 0 w kv st.s.1 ∧ ∀ b, Blks kv b → ¬ S b := by
  obtain ⟨FK, FR, q1, q2, q3, q4, q5, q6⟩ := h.rep
  obtain ⟨kv, tv, h1, h2, h3, h4, h5, h6, h7, h8⟩ := q1.rep
  exact ⟨kv, h1.cell 0, h2, fun b hb => q6 b (.inl (h7 b hb))⟩
end Go.Proofs.YtangbnmgkcmhbaaDoor
end
