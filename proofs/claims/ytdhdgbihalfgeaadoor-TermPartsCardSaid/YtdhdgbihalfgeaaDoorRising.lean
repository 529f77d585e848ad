/- The document's Rising. -/
import Derived.Test.YtdhdgbihalfgeaaDoorTermL
import Derived.Deep.RegionHeldLaw
set_option linter.unusedSimpArgs false
set_option linter.unusedVariables false
namespace Go.Proofs.YtdhdgbihalfgeaaDoor
open Go.RowKit Go.Maps

/-- append to numbers of the call's own, at an operation: what is appended may be none. -/
theorem wp_appi {w : World} {o : Oper} {a : Act} {K : Act → World → Prop} {Q : Exit → Act → World → Prop} (s x : Operand)
    (ho : o.op = .call { callee := .builtin .append, args := #[s, x], argTypes := #[29, 29] })
    (B : Nat) (v : Value) (zs : List Int) (hs : a.eval s = v) (hw : OwnI B w v zs) (u : Value) (news : List Int) (hx : a.eval x = u) (hr : RdI w u news)
    (hl : zs.length + news.length ≤ 10000000000) (hB : B ≤ w.heap.size)
    (hK : ∀ v' w', OwnI B w' v' (zs ++ news) → Turn (Blks v) w w' → (∀ b, Blks v' b → Blks v b ∨ w.heap.size ≤ b) → K (a.put o.dst v') w') : o.wp Tryd.prog a w K Q := by
  obtain ⟨i0, hi, hz0, hz1, hz2⟩ := info_parts Tryd.infoInt
  obtain ⟨ao, cap, hu, hl', hc, hm, hno, hcell⟩ := hr
  cases ao with
  | none =>
    have e0 := hno rfl
    have em : news.length = 0 := by omega
    obtain rfl : news = [] := List.eq_nil_of_length_eq_zero em
    subst e0
    have hrun := run_append_owned_none (P := Tryd.prog) (w := w) B 29 o.type 3 i0 1 Tryd.underlying29 hi v zs.length (zs.map (Value.int .i64)) hw
    have hx' : a.eval x = .slice none 0 0 := hx.trans hu
    unfold Oper.wp
    simp [execOp, ho, resolve, invoke, builtin, hs, hx', hrun, Result.andThen]
    exact hK v w (by simpa using hw) (Turn.refl _ _) (fun b hb => .inl hb)
  | some ad =>
    obtain ⟨v', w', hrun, h2, h3, h4, h5⟩ := run_append_own_at (P := Tryd.prog) w B 29 o.type 3 i0 (.int .i64 0) 1 8 Tryd.underlying29 hi hz0 hz1 hz2 rfl (by decide) v zs.length (zs.map (Value.int .i64)) hw ad news.length cap (news.map (Value.int .i64)) hl' (hcell ad rfl) (ones_int .i64 news) (by unfold maxLen; omega) (by omega) hB
    have hx' : a.eval x = .slice (some ad) news.length cap := hx.trans hu
    unfold Oper.wp execOp
    simp only [ho, resolve, invoke, builtin, Sem.run_bind, Sem.run_pure, Result.andThen_ok, List.map_toArray, List.map_cons, List.map_nil, hs, hx', hrun]
    refine hK v' w' (by unfold OwnI; rw [List.length_append, List.map_append]; exact h2) ((Grown.turn h3).mono fun b hb => hb.symm) (fun b hb => ?_)
    rcases h5 with h | h
    · exact .inl (h.symm.trans hb)
    · rw [Blks, h] at hb
      simp only [Option.some.injEq] at hb
      exact .inr (by omega)

theorem mem_take_at {us : List Int} {k : Nat} {x : Int} (h : x ∈ us.take k) : ∃ j, j < k ∧ j < us.length ∧ us.getD j 0 = x := by
  obtain ⟨j, hj, e⟩ := List.mem_iff_getElem.1 h
  rw [List.length_take] at hj
  refine ⟨j, by omega, by omega, ?_⟩
  rw [← e, List.getElem_take, List.getD_eq_getElem?_getD, List.getElem?_eq_getElem (by omega)]
  rfl
theorem mem_drop_at {us : List Int} {k : Nat} {x : Int} (h : x ∈ us.drop k) : ∃ j, k ≤ j ∧ j < us.length ∧ us.getD j 0 = x := by
  obtain ⟨j, hj, e⟩ := List.mem_iff_getElem.1 h
  rw [List.length_drop] at hj
  refine ⟨k + j, by omega, by omega, ?_⟩
  rw [← e, List.getElem_drop, List.getD_eq_getElem?_getD, List.getElem?_eq_getElem (by omega)]
  rfl
theorem ins_sorted {us : List Int} {n : Int} {k : Nat} (hs : us.Pairwise (· < ·)) (ha : ∀ j, k ≤ j → j < us.length → n < us.getD j 0) (hb : ∀ j, j < k → j < us.length → us.getD j 0 < n) :
    (us.take k ++ [n] ++ us.drop k).Pairwise (· < ·) := by
  have ht : (us.take k).Pairwise (· < ·) := hs.sublist (List.take_sublist _ _)
  have hd : (us.drop k).Pairwise (· < ·) := hs.sublist (List.drop_sublist _ _)
  have l1 : ∀ x ∈ us.take k, x < n := fun x hx => by
    obtain ⟨j, a, b, c⟩ := mem_take_at hx
    rw [← c]; exact hb j a b
  have l2 : ∀ x ∈ us.drop k, n < x := fun x hx => by
    obtain ⟨j, a, b, c⟩ := mem_drop_at hx
    rw [← c]; exact ha j a b
  rw [List.pairwise_append]
  refine ⟨?_, hd, fun x hx y hy => ?_⟩
  · rw [List.pairwise_append]
    exact ⟨ht, List.pairwise_singleton _ _, fun x hx y hy => by rw [List.mem_singleton.1 hy]; exact l1 x hx⟩
  · rcases List.mem_append.1 hx with h | h
    · exact Int.lt_trans (l1 x h) (l2 y hy)
    · rw [List.mem_singleton.1 h]; exact l2 y hy
theorem ins_mem {us zs : List Int} {n : Int} {k m : Nat} (hm : ∀ x, x ∈ us ↔ x ∈ zs.take m) (hml : m < zs.length) (hn : zs.getD m 0 = n) (x : Int) : x ∈ us.take k ++ [n] ++ us.drop k ↔ x ∈ zs.take (m + 1) := by
  have e : zs[m] = n := by rw [← hn, List.getD_eq_getElem?_getD, List.getElem?_eq_getElem hml]; rfl
  have e2 : x ∈ zs.take (m + 1) ↔ x ∈ us ∨ x = n := by rw [List.take_succ_eq_append_getElem hml, List.mem_append, ← hm x, e, List.mem_singleton]
  rw [e2]
  have : x ∈ us ↔ x ∈ us.take k ∨ x ∈ us.drop k := by
    rw [← List.mem_append, List.take_append_drop]
  rw [this]
  simp only [List.mem_append, List.mem_singleton]
  constructor
  · rintro ((h | h) | h)
    · exact .inl (.inl h)
    · exact .inr h
    · exact .inl (.inr h)
  · rintro ((h | h) | h)
    · exact .inl (.inl h)
    · exact .inr h
    · exact .inl (.inr h)
theorem ins_len {us : List Int} {n : Int} {k : Nat} : (us.take k ++ [n] ++ us.drop k).length = us.length + 1 := by
  simp only [List.length_append, List.length_take, List.length_drop, List.length_singleton]; omega
theorem below_at {us : List Int} {n : Int} {q : Nat} (hs : us.Pairwise (· < ·)) (hq : q < us.length) (h : us.getD q 0 < n) : ∀ j, j < q + 1 → j < us.length → us.getD j 0 < n := fun j h1 h2 => by
  by_cases c : j = q
  · rw [c]; exact h
  · have := List.pairwise_iff_getElem.1 hs j q h2 hq (by omega)
    rw [List.getD_eq_getElem?_getD, List.getElem?_eq_getElem hq] at h
    rw [List.getD_eq_getElem?_getD, List.getElem?_eq_getElem h2]
    simp only [Option.getD_some] at h ⊢
    omega
theorem RdI.take {w : World} {g o c n : Nat} {us : List Int} (h : RdI w (.slice (some ⟨g, o, none⟩) n c) us) (k : Nat) (hk : k ≤ us.length) : RdI w (.slice (some ⟨g, o, none⟩) k c) (us.take k) := by
  obtain ⟨a, cap, hv, h1, h2, h3, h4, h5⟩ := h
  simp only [Value.slice.injEq] at hv
  obtain ⟨rfl, rfl, rfl⟩ := hv
  have hl : (us.take k).length = k := by rw [List.length_take]; omega
  unfold RdI
  rw [hl]
  refine ⟨_, _, rfl, by rw [List.length_map, hl, Nat.mul_one], by omega, h3, h4, fun ad had j u hj => h5 ad had j u ?_⟩
  have hjk : j < k := by
    have := (List.getElem?_eq_some_iff.1 hj).1
    simp at this; omega
  rw [← hj, List.getElem?_map, List.getElem?_map, List.getElem?_take, if_pos hjk]
theorem RdI.drop {w : World} {g o c n : Nat} {us : List Int} (h : RdI w (.slice (some ⟨g, o, none⟩) n c) us) (k : Nat) (hk : k ≤ us.length) : RdI w (.slice (some ⟨g, o + k, none⟩) (us.length - k) (c - k)) (us.drop k) := by
  obtain ⟨a, cap, hv, h1, h2, h3, h4, h5⟩ := h
  simp only [Value.slice.injEq] at hv
  obtain ⟨rfl, rfl, rfl⟩ := hv
  have hl : (us.drop k).length = us.length - k := List.length_drop
  unfold RdI
  rw [hl]
  refine ⟨_, _, rfl, by rw [List.length_map, hl, Nat.mul_one], by omega, by omega, (fun e => by cases e), fun ad had j u hj => ?_⟩
  cases had
  have := h5 ⟨g, o, none⟩ rfl (k + j) u (by rw [← hj, List.getElem?_map, List.getElem?_map, List.getElem?_drop])
  rw [Addr.add_lit] at this ⊢
  rw [← this, Nat.add_assoc]

theorem RdI.dropIf {w : World} {g c n : Nat} {us : List Int} (h : RdI w (.slice (some ⟨g, 0, none⟩) n c) us) (k : Nat) (hk : k ≤ us.length) (hc : us.length ≤ c) :
    RdI w (.slice (if c = k then some ⟨g, 0, none⟩ else some ⟨g, k, none⟩) (us.length - k) (c - k)) (us.drop k) := by
  by_cases e : c = k
  · rw [if_pos e]
    have hd : us.drop k = [] := List.drop_eq_nil_of_le (by omega)
    have hm := h.len
    obtain ⟨_, _, hv, _, h2, _⟩ := hm
    simp only [Value.slice.injEq] at hv
    rw [hd]
    refine ⟨_, _, by rw [show us.length - k = 0 by omega]; rfl, rfl, Nat.zero_le _, by omega, (fun e => by cases e), fun ad had j u hj => by cases hj⟩
  · rw [if_neg e]
    have := h.drop k hk
    rwa [Nat.zero_add] at this

theorem OwnI.form {B : Nat} {w : World} {v : Value} {us : List Int} (h : OwnI B w v us) : (us = [] ∧ v = .slice none 0 0) ∨ ∃ g c, v = .slice (some ⟨g, 0, none⟩) us.length c ∧ us.length ≤ c ∧ c ≤ maxLen := by
  obtain ⟨h1, h2⟩ := h
  rcases h2 with ⟨e, h3⟩ | ⟨g, c, cur, hv, _, _, hn, hm, _⟩
  · exact .inl ⟨List.eq_nil_of_length_eq_zero h3, e⟩
  · exact .inr ⟨g, c, hv, hn, hm⟩

theorem step_appi {w : World} {ops : Array Oper} {o : Oper} {a : Act} {K : Act → World → Prop} {Q : Exit → Act → World → Prop} {E : Prop} (s x : Operand) (hgd : o.guard = none)
    (ho : o.op = .call { callee := .builtin .append, args := #[s, x], argTypes := #[29, 29] })
    (B : Nat) (v : Value) (zs : List Int) (hs : a.eval s = v) (hw : OwnI B w v zs) (u : Value) (news : List Int) (hx : a.eval x = u) (hr : RdI w u news)
    (hl : zs.length + news.length ≤ 10000000000) (hB : B ≤ w.heap.size)
    (hK : ∀ v' w', OwnI B w' v' (zs ++ news) → Turn (Blks v) w w' → (∀ b, Blks v' b → Blks v b ∨ w.heap.size ≤ b) → K (a.put o.dst v') w') :
    if Region.wanted o (yielded ops a.tmps) = true then Oper.wp Tryd.prog o a w K Q else E := by
  have hw' : Region.wanted o (yielded ops a.tmps) = true := by simp [Region.wanted, hgd]
  rw [if_pos hw']
  exact wp_appi s x ho B v zs hs hw u news hx hr hl hB hK

set_option maxHeartbeats 4000000 in
set_option maxRecDepth 100000 in
theorem rising_any {w : World} {v : Value} {zs : List Int} (h : RdI w v zs) (hz : zs.length ≤ 1000000000) :
    Calls Tryd.prog 29 #[v] w fun e w' => ∃ u us, e = .returned u ∧ RdI w' u us ∧ us.Pairwise (· < ·) ∧ (∀ x, x ∈ us ↔ x ∈ zs) ∧ Kept w w' := by
  obtain ⟨a, cap, rfl, h1, h2, h3⟩ := h.len
  go_enter Tryd.func29, Tryd.ntmps29
  go_wp2
  go_loopw [3, 9] (fun o i wr => ∃ (m : Nat) (us : List Int), m ≤ zs.length ∧ i = .int .i64 m ∧ OwnI w.heap.size wr o us ∧ us.Pairwise (· < ·) ∧ (∀ x, x ∈ us ↔ x ∈ zs.take m) ∧ us.length ≤ m ∧ Kept w wr) (fun _ i _ => zs.length - (intOf i).toNat)
  case atStart => exact ⟨0, [], Nat.zero_le _, rfl, OwnI.nil _ _, List.Pairwise.nil, fun x => by simp, Nat.le_refl _, Kept.refl _⟩
  case round =>
    obtain ⟨m, us, hm0, rfl, ho, hsort, hmem, hlen, hk⟩ := hrel
    have HSO := Shut.mk hsort
    have HME := Shut.mk hmem
    clear hsort hmem
    by_cases hml : m < zs.length
    · obtain ⟨zb, zo, zc, hlv, _, _, hlb, hlc⟩ := h.addr (by omega)
      simp only [Value.slice.injEq] at hlv
      obtain ⟨rfl, hdrop, rfl⟩ := hlv
      clear hdrop
      have hcw := hk.cell (p := ⟨zb, zo + m, none⟩) hlb |>.trans (hlc m hml)
      clear hlc
      have HN := Shut.mk (rfl : zs.getD m 0 = zs.getD m 0)
      generalize hn : zs.getD m 0 = n at hcw HN
      have HNN := Shut.mk hn
      clear HN hn
      rcases ho.form with ⟨rfl, rfl⟩ | ⟨g, oc, rfl, o1, o2⟩
      · go_wp2
        go_loop [6] (fun i => i = .int .i64 0) (fun _ => 0)
        case atStart => rfl
        case round =>
          subst hrel
          go_wp2
          have rdA : ∀ W, Kept wr W → RdI W (.slice none 0 0) (([] : List Int).take 0) := fun W k => RdI.nil W
          have rdB : ∀ W, Kept wr W → RdI W (.slice none 0 0) (([] : List Int).drop 0) := fun W k => RdI.nil W
          have lA : (([] : List Int).take 0).length ≤ 0 := Nat.le_refl _
          have lB : (([] : List Int).drop 0).length ≤ 0 := Nat.le_refl _
          have wsz := hk.size
          go_region_held_law (fun w' => Kept wr w') (first | go_keep | assumption | exact Kept.drew (Kept.refl _) | exact Kept.trans (by assumption) ((Kept.refl _).alloc _))
            (first
              | (refine step_appi (.const (.slice none 0 0)) (.tmp 41) rfl rfl w.heap.size _ [] rfl (OwnI.nil _ _) _ (([] : List Int).take 0) rfl (rdA _ (by assumption)) (by simp only [List.length_nil]; omega) (Nat.le_trans wsz (Below.size (by assumption : Kept wr _))) ?_
                 intro v42 w42 own42 t42 loc42
                 have p42 := Turn.keptOf (Kept.refl _) t42 (fun x hx => by simp only [Blks] at hx; cases hx)
                 have k42 := Kept.trans (by assumption : Kept wr _) p42
                 have b42 : ∀ b, Blks v42 b → wr.heap.size ≤ b := fun b hb => (loc42 b hb).elim (fun x => by simp only [Blks] at x; cases x) (fun x => Nat.le_trans (Below.size (by assumption : Kept wr _)) x)
                 rw [List.nil_append] at own42)
              | (refine step_appi (.tmp 42) (.tmp 44) rfl rfl w.heap.size v42 (([] : List Int).take 0) rfl (by first | exact own42 | exact (show OwnI _ _ _ _ from Ownv.kept own42 ((Kept.refl _).alloc _))) _ [n] rfl (by first | exact (OwnI.lit1 _ n).rd | exact (OwnI.lit1 _ n).rd.kept p42 | exact RdI.kept (OwnI.lit1 (World.drew _) n).rd p42 | exact RdI.kept (OwnI.lit1 (World.drewN _ _) n).rd p42) (by simp only [List.length_singleton]; omega) (Nat.le_trans wsz (Below.size (by assumption : Kept wr _))) ?_
                 intro v45 w45 own45 t45 loc45
                 have k45 := Turn.keptOf (by assumption : Kept wr _) t45 b42
                 have b45 : ∀ b, Blks v45 b → wr.heap.size ≤ b := fun b hb => (loc45 b hb).elim (b42 b) (fun x => Nat.le_trans (Below.size (by assumption : Kept wr _)) x))
              | (refine step_appi (.tmp 45) (.tmp 48) rfl rfl w.heap.size v45 (([] : List Int).take 0 ++ [n]) rfl own45 _ (([] : List Int).drop 0) rfl (rdB _ (by assumption)) (by simp only [List.length_append, List.length_singleton]; omega) (Nat.le_trans wsz (Below.size (by assumption : Kept wr _))) ?_
                 intro v49 w49 own49 t49 loc49
                 have k49 := Turn.keptOf (by assumption : Kept wr _) t49 b45))
          all_goals
            go_wp2
            go_roundw
            case rel => exact ⟨m + 1, ([] : List Int).take 0 ++ [n] ++ ([] : List Int).drop 0, hml, rfl, own49, ins_sorted HSO.out (fun j _ h => absurd h (Nat.not_lt_zero _)) (fun j h _ => absurd h (Nat.not_lt_zero _)), ins_mem HME.out hml HNN.out, by rw [ins_len]; omega, hk.trans k49⟩
            case measure => simp [intOf]; omega
      go_wp2
      go_loop [6] (fun i => ∃ k : Nat, k ≤ us.length ∧ i = .int .i64 k ∧ Shut (∀ j, k ≤ j → j < us.length → n < us.getD j 0)) (fun i => (intOf i).toNat)
      case atStart => exact ⟨us.length, Nat.le_refl _, rfl, ⟨fun j h1 h2 => absurd h2 (by omega)⟩⟩
      case round =>
        obtain ⟨k, hk0, rfl, hab⟩ := hrel
        by_cases hkp : 0 < k
        · obtain ⟨ub, uo, uc, huv, _, _, hub, huc⟩ := ho.rd.addr (by omega)
          simp only [Value.slice.injEq, Option.some.injEq, Addr.mk.injEq, and_true] at huv
          obtain ⟨⟨rfl, rfl⟩, _, rfl⟩ := huv
          obtain ⟨q, rfl⟩ : ∃ q, k = q + 1 := ⟨k - 1, by omega⟩
          have hcu := huc q (by omega)
          rw [Nat.zero_add] at hcu
          generalize hu : us.getD q 0 = y at hcu
          have HUU := Shut.mk hu
          have HAB := Shut.mk hab.out
          clear huc hu hab
          have us63 : us.length ≤ 9223372036854775807 := by unfold maxLen at o2; omega
          by_cases hny : n < y
          · have hd : decide (n < y) = true := decide_eq_true hny
            go_wp2
            go_round
            case rel => exact ⟨q, by omega, rfl, ⟨fun j a b => by
              by_cases c : j = q
              · rw [c, HUU.out]; exact hny
              · exact HAB.out j (by omega) b⟩⟩
            case measure => simp [intOf]
          · have hd : decide (n < y) = false := decide_eq_false hny
            by_cases hyn : y = n
            · have hb : (y == n) = true := by simpa using hyn
              have HY := Shut.mk hyn
              clear hyn
              go_wp2
              go_roundw
              case rel => exact ⟨m + 1, us, hml, rfl, ho, HSO.out, fun x => by
                rw [List.take_succ_eq_append_getElem hml, List.mem_append, ← HME.out x]
                refine ⟨.inl, fun e => e.elim id fun e => ?_⟩
                have : x = n := by rw [← HNN.out]; simpa [List.getD_eq_getElem?_getD, List.getElem?_eq_getElem hml] using e
                rw [this, ← HY.out, ← HUU.out]
                exact mem_getD (by omega), by omega, hk⟩
              case measure => simp [intOf]; omega
            · have hb : (y == n) = false := by simpa using hyn
              have HY := Shut.mk hyn
              clear hyn
              go_wp2
              have rdA : ∀ W, Kept wr W → RdI W (.slice (some ⟨g, 0, none⟩) (q + 1) oc) (us.take (q + 1)) := fun W k => (ho.rd.kept k).take _ (by omega)
              have rdB : ∀ W, Kept wr W → RdI W (.slice (if oc = q + 1 then some ⟨g, 0, none⟩ else some ⟨g, q + 1, none⟩) (us.length - (q + 1)) (oc - (q + 1))) (us.drop (q + 1)) := fun W k => (ho.rd.kept k).dropIf (q + 1) (by omega) o1
              have lA : (us.take (q + 1)).length ≤ us.length := by rw [List.length_take]; omega
              have lB : (us.drop (q + 1)).length ≤ us.length := by rw [List.length_drop]; omega
              have wsz := hk.size
              have hq1 : (q : Int) + 1 ≤ (us.length : Int) := by omega
              have hq2 : (us.length : Int) ≤ (oc : Int) := by omega
              have hq3 : q + 1 ≤ oc := by omega
              have hq4 : (q : Int) + 1 ≤ (oc : Int) := by omega
              by_cases hcap : oc = q + 1
              · subst hcap
                have hle : us.length = q + 1 := by omega
                have rdB2 : ∀ W, Kept wr W → RdI W (.slice (some ⟨g, 0, none⟩) 0 0) (us.drop (q + 1)) := fun W k => by
                  have := rdB W k
                  rwa [if_pos rfl, hle, Nat.sub_self] at this
                clear hle
                go_region_held_law (fun w' => Kept wr w') (first | go_keep | assumption | exact Kept.drew (Kept.refl _) | exact Kept.trans (by assumption) ((Kept.refl _).alloc _))
                  (first
                    | (refine step_appi (.const (.slice none 0 0)) (.tmp 41) rfl rfl w.heap.size _ [] rfl (OwnI.nil _ _) _ (us.take (q + 1)) rfl (rdA _ (by assumption)) (by simp only [List.length_nil]; omega) (Nat.le_trans wsz (Below.size (by assumption : Kept wr _))) ?_
                       intro v42 w42 own42 t42 loc42
                       have p42 := Turn.keptOf (Kept.refl _) t42 (fun x hx => by simp only [Blks] at hx; cases hx)
                       have k42 := Kept.trans (by assumption : Kept wr _) p42
                       have b42 : ∀ b, Blks v42 b → wr.heap.size ≤ b := fun b hb => (loc42 b hb).elim (fun x => by simp only [Blks] at x; cases x) (fun x => Nat.le_trans (Below.size (by assumption : Kept wr _)) x)
                       rw [List.nil_append] at own42)
                    | (refine step_appi (.tmp 42) (.tmp 44) rfl rfl w.heap.size v42 (us.take (q + 1)) rfl (by first | exact own42 | exact (show OwnI _ _ _ _ from Ownv.kept own42 ((Kept.refl _).alloc _))) _ [n] rfl (by first | exact (OwnI.lit1 _ n).rd | exact (OwnI.lit1 _ n).rd.kept p42 | exact RdI.kept (OwnI.lit1 (World.drew _) n).rd p42 | exact RdI.kept (OwnI.lit1 (World.drewN _ _) n).rd p42) (by simp only [List.length_singleton]; omega) (Nat.le_trans wsz (Below.size (by assumption : Kept wr _))) ?_
                       intro v45 w45 own45 t45 loc45
                       have k45 := Turn.keptOf (by assumption : Kept wr _) t45 b42
                       have b45 : ∀ b, Blks v45 b → wr.heap.size ≤ b := fun b hb => (loc45 b hb).elim (b42 b) (fun x => Nat.le_trans (Below.size (by assumption : Kept wr _)) x))
                    | (refine step_appi (.tmp 45) (.tmp 48) rfl rfl w.heap.size v45 (us.take (q + 1) ++ [n]) rfl own45 _ (us.drop (q + 1)) rfl (by first | exact rdB _ (by assumption) | exact rdB2 _ (by assumption)) (by simp only [List.length_append, List.length_singleton]; omega) (Nat.le_trans wsz (Below.size (by assumption : Kept wr _))) ?_
                       intro v49 w49 own49 t49 loc49
                       have k49 := Turn.keptOf (by assumption : Kept wr _) t49 b45))
                all_goals
                  go_wp2
                  go_roundw
                  case rel => exact ⟨m + 1, us.take (q + 1) ++ [n] ++ us.drop (q + 1), hml, rfl, own49, ins_sorted HSO.out HAB.out (below_at HSO.out (by omega) (by rw [HUU.out]; have := HY.out; omega)), ins_mem HME.out hml HNN.out, by rw [ins_len]; omega, hk.trans k49⟩
                  case measure => simp [intOf]; omega
              · have hcap0 : ¬ oc - (q + 1) = 0 := by omega
                have rdB2 : ∀ W, Kept wr W → RdI W (.slice (some ⟨g, q + 1, none⟩) (us.length - (q + 1)) (oc - (q + 1))) (us.drop (q + 1)) := fun W k => by
                  have := rdB W k
                  rwa [if_neg hcap] at this
                go_region_held_law (fun w' => Kept wr w') (first | go_keep | assumption | exact Kept.drew (Kept.refl _) | exact Kept.trans (by assumption) ((Kept.refl _).alloc _))
                  (first
                    | (refine step_appi (.const (.slice none 0 0)) (.tmp 41) rfl rfl w.heap.size _ [] rfl (OwnI.nil _ _) _ (us.take (q + 1)) rfl (rdA _ (by assumption)) (by simp only [List.length_nil]; omega) (Nat.le_trans wsz (Below.size (by assumption : Kept wr _))) ?_
                       intro v42 w42 own42 t42 loc42
                       have p42 := Turn.keptOf (Kept.refl _) t42 (fun x hx => by simp only [Blks] at hx; cases hx)
                       have k42 := Kept.trans (by assumption : Kept wr _) p42
                       have b42 : ∀ b, Blks v42 b → wr.heap.size ≤ b := fun b hb => (loc42 b hb).elim (fun x => by simp only [Blks] at x; cases x) (fun x => Nat.le_trans (Below.size (by assumption : Kept wr _)) x)
                       rw [List.nil_append] at own42)
                    | (refine step_appi (.tmp 42) (.tmp 44) rfl rfl w.heap.size v42 (us.take (q + 1)) rfl (by first | exact own42 | exact (show OwnI _ _ _ _ from Ownv.kept own42 ((Kept.refl _).alloc _))) _ [n] rfl (by first | exact (OwnI.lit1 _ n).rd | exact (OwnI.lit1 _ n).rd.kept p42 | exact RdI.kept (OwnI.lit1 (World.drew _) n).rd p42 | exact RdI.kept (OwnI.lit1 (World.drewN _ _) n).rd p42) (by simp only [List.length_singleton]; omega) (Nat.le_trans wsz (Below.size (by assumption : Kept wr _))) ?_
                       intro v45 w45 own45 t45 loc45
                       have k45 := Turn.keptOf (by assumption : Kept wr _) t45 b42
                       have b45 : ∀ b, Blks v45 b → wr.heap.size ≤ b := fun b hb => (loc45 b hb).elim (b42 b) (fun x => Nat.le_trans (Below.size (by assumption : Kept wr _)) x))
                    | (refine step_appi (.tmp 45) (.tmp 48) rfl rfl w.heap.size v45 (us.take (q + 1) ++ [n]) rfl own45 _ (us.drop (q + 1)) rfl (by first | exact rdB _ (by assumption) | exact rdB2 _ (by assumption)) (by simp only [List.length_append, List.length_singleton]; omega) (Nat.le_trans wsz (Below.size (by assumption : Kept wr _))) ?_
                       intro v49 w49 own49 t49 loc49
                       have k49 := Turn.keptOf (by assumption : Kept wr _) t49 b45))
                all_goals
                  go_wp2
                  go_roundw
                  case rel => exact ⟨m + 1, us.take (q + 1) ++ [n] ++ us.drop (q + 1), hml, rfl, own49, ins_sorted HSO.out HAB.out (below_at HSO.out (by omega) (by rw [HUU.out]; have := HY.out; omega)), ins_mem HME.out hml HNN.out, by rw [ins_len]; omega, hk.trans k49⟩
                  case measure => simp [intOf]; omega
        · obtain rfl : k = 0 := by omega
          have HAB := Shut.mk hab.out
          clear hab hkp
          go_wp2
          have rdA : ∀ W, Kept wr W → RdI W (.slice (some ⟨g, 0, none⟩) 0 oc) (us.take 0) := fun W k => (ho.rd.kept k).take 0 (Nat.zero_le _)
          have rdB : ∀ W, Kept wr W → RdI W (.slice (some ⟨g, 0, none⟩) us.length oc) (us.drop 0) := fun W k => ho.rd.kept k
          have lA : (us.take 0).length ≤ us.length := by rw [List.length_take]; omega
          have lB : (us.drop 0).length ≤ us.length := Nat.le_refl _
          have wsz := hk.size
          go_region_held_law (fun w' => Kept wr w') (first | go_keep | assumption | exact Kept.drew (Kept.refl _) | exact Kept.trans (by assumption) ((Kept.refl _).alloc _))
            (first
              | (refine step_appi (.const (.slice none 0 0)) (.tmp 41) rfl rfl w.heap.size _ [] rfl (OwnI.nil _ _) _ (us.take 0) rfl (rdA _ (by assumption)) (by simp only [List.length_nil]; omega) (Nat.le_trans wsz (Below.size (by assumption : Kept wr _))) ?_
                 intro v42 w42 own42 t42 loc42
                 have p42 := Turn.keptOf (Kept.refl _) t42 (fun x hx => by simp only [Blks] at hx; cases hx)
                 have k42 := Kept.trans (by assumption : Kept wr _) p42
                 have b42 : ∀ b, Blks v42 b → wr.heap.size ≤ b := fun b hb => (loc42 b hb).elim (fun x => by simp only [Blks] at x; cases x) (fun x => Nat.le_trans (Below.size (by assumption : Kept wr _)) x)
                 rw [List.nil_append] at own42)
              | (refine step_appi (.tmp 42) (.tmp 44) rfl rfl w.heap.size v42 (us.take 0) rfl (by first | exact own42 | exact (show OwnI _ _ _ _ from Ownv.kept own42 ((Kept.refl _).alloc _))) _ [n] rfl (by first | exact (OwnI.lit1 _ n).rd | exact (OwnI.lit1 _ n).rd.kept p42 | exact RdI.kept (OwnI.lit1 (World.drew _) n).rd p42 | exact RdI.kept (OwnI.lit1 (World.drewN _ _) n).rd p42) (by simp only [List.length_singleton]; omega) (Nat.le_trans wsz (Below.size (by assumption : Kept wr _))) ?_
                 intro v45 w45 own45 t45 loc45
                 have k45 := Turn.keptOf (by assumption : Kept wr _) t45 b42
                 have b45 : ∀ b, Blks v45 b → wr.heap.size ≤ b := fun b hb => (loc45 b hb).elim (b42 b) (fun x => Nat.le_trans (Below.size (by assumption : Kept wr _)) x))
              | (refine step_appi (.tmp 45) (.tmp 48) rfl rfl w.heap.size v45 (us.take 0 ++ [n]) rfl own45 _ (us.drop 0) rfl (rdB _ (by assumption)) (by simp only [List.length_append, List.length_singleton]; omega) (Nat.le_trans wsz (Below.size (by assumption : Kept wr _))) ?_
                 intro v49 w49 own49 t49 loc49
                 have k49 := Turn.keptOf (by assumption : Kept wr _) t49 b45))
          all_goals
            go_wp2
            go_roundw
            case rel => exact ⟨m + 1, us.take 0 ++ [n] ++ us.drop 0, hml, rfl, own49, ins_sorted HSO.out HAB.out (fun j h _ => absurd h (Nat.not_lt_zero _)), ins_mem HME.out hml HNN.out, by rw [ins_len]; omega, hk.trans k49⟩
            case measure => simp [intOf]; omega
    · obtain rfl : m = zs.length := by omega
      go_wp2
      go_ret
      exact ⟨_, us, rfl, ho.rd, HSO.out, fun x => by have := HME.out x; rwa [List.take_length] at this, hk⟩
end Go.Proofs.YtdhdgbihalfgeaaDoor
