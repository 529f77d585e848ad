/- Texts of one proof, put together: RpC, RpD, RpE, RpF, RpG, RpH, RpI, RpJ, RpK. -/
import Derived.Test.YtlmpejfkpidbeaaDoorMg05
import Derived.Test.YtlmpejfkpidbeaaDoorMg02
import Derived.Test.YtlmpejfkpidbeaaDoorMg03
import Derived.Shelf.Abstract
import Derived.Deep.Cut
section
/- Walks of the program's ratchet: ownNode, ownNodes. -/
set_option linter.unusedSimpArgs false
set_option linter.unusedVariables false
namespace Go.Proofs.YtlmpejfkpidbeaaDoor
open Go.RowKit
open Rt

def NodePost (w : World) (d : TN) (e : Ending) (w' : World) : Prop := ∃ lv, e = .returned (.agg #[.int .i64 d.kd, .int .i64 d.id, .int .i64 d.enc, .int .i64 d.sig, .int .i64 d.hash, lv]) ∧ OwnI w.heap.size w' lv d.un ∧ Kept w w'
theorem ownN_step {w w6 : World} {d : TN} {X : List Value} {lv : Value} {ua : Option Addr} {ul uc : Nat} (k6 : Kept w w6)
    (b1 : Blk w6 w.heap.size 32 [.int .i64 d.kd, .int .i64 d.id, .int .i64 d.enc, .int .i64 d.sig, .int .i64 d.hash, lv]) (b2 : Blk w6 (w.heap.size + 1) 32 X) (hX : X.length = 6)
    (o6 : OwnI w.heap.size w6 (.slice ua ul uc) d.un) : 
    let w7 := w6.setCell ⟨w.heap.size, 5, none⟩ (.slice ua ul uc)
    let w8 := put6 w7 (w.heap.size + 1) 0 d (.slice ua ul uc)
    Kept w w8 ∧ OwnI w.heap.size w8 (.slice ua ul uc) d.un ∧ Blk w8 (w.heap.size + 1) 32 [.int .i64 d.kd, .int .i64 d.id, .int .i64 d.enc, .int .i64 d.sig, .int .i64 d.hash, .slice ua ul uc] := by
  intro w7 w8
  have k7 : Kept w w7 := k6.setCell (Nat.le_refl _) _
  have t8 : Turn (fun b => b = w.heap.size + 1) w7 w8 := put6_turn w7 (w.heap.size + 1) 0 d (.slice ua ul uc)
  refine ⟨Turn.keptOf k7 t8 (fun b e => by rw [e]; omega), ?_, ?_⟩
  · refine Ownv.turn (Ownv.setCell o6 (fun hb => Ownv.notBlk o6 b1 (by decide) hb) _) t8 fun b hb e => ?_
    subst e
    exact Ownv.notBlk o6 b2 (by decide) hb
  · have b7 : Blk w7 (w.heap.size + 1) 32 X := Blk.turn b2 (turn_setCell _ _ _) (by show ¬ w.heap.size + 1 = w.heap.size; omega)
    obtain ⟨x0, x1, x2, x3, x4, x5, rfl⟩ : ∃ x0 x1 x2 x3 x4 x5, X = [x0, x1, x2, x3, x4, x5] := by
      match X, hX with
      | [x0, x1, x2, x3, x4, x5], _ => exact ⟨x0, x1, x2, x3, x4, x5, rfl⟩
    have := (((((b7.set 0 (.int .i64 d.kd)).set 1 (.int .i64 d.id)).set 2 (.int .i64 d.enc)).set 3 (.int .i64 d.sig)).set 4 (.int .i64 d.hash)).set 5 (.slice ua ul uc)
    exact this
set_option maxHeartbeats 4000000 in
set_option maxRecDepth 100000 in
theorem pown_any {w : World} {v : Value} {d : TN} (h : RdTn w v d) (hl : d.un.length ≤ 1000) : Calls Tryd.prog 48 #[v] w (NodePost w d) := by
  obtain ⟨lv, rfl, hr⟩ := h
  obtain ⟨za, zc, rfl, l1, l2, l3⟩ := hr.len
  have k1 : Kept w ((w.alloc (.cells #[.int .i64 d.kd, .int .i64 d.id, .int .i64 d.enc, .int .i64 d.sig, .int .i64 d.hash, .slice za d.un.length zc] 32)).alloc (.cells #[.int .i64 0, .int .i64 0, .int .i64 0, .int .i64 0, .int .i64 0, .slice none 0 0] 32)) := ((Kept.refl w).alloc _).alloc _
  have bX : Blk ((w.alloc (.cells #[.int .i64 d.kd, .int .i64 d.id, .int .i64 d.enc, .int .i64 d.sig, .int .i64 d.hash, .slice za d.un.length zc] 32)).alloc (.cells #[.int .i64 0, .int .i64 0, .int .i64 0, .int .i64 0, .int .i64 0, .slice none 0 0] 32)) w.heap.size 32 [.int .i64 d.kd, .int .i64 d.id, .int .i64 d.enc, .int .i64 d.sig, .int .i64 d.hash, .slice za d.un.length zc] := (Blk.new w [.int .i64 d.kd, .int .i64 d.id, .int .i64 d.enc, .int .i64 d.sig, .int .i64 d.hash, .slice za d.un.length zc] 32).kept ((Kept.refl _).alloc _)
  have bY : Blk ((w.alloc (.cells #[.int .i64 d.kd, .int .i64 d.id, .int .i64 d.enc, .int .i64 d.sig, .int .i64 d.hash, .slice za d.un.length zc] 32)).alloc (.cells #[.int .i64 0, .int .i64 0, .int .i64 0, .int .i64 0, .int .i64 0, .slice none 0 0] 32)) (w.heap.size + 1) 32 [.int .i64 0, .int .i64 0, .int .i64 0, .int .i64 0, .int .i64 0, .slice none 0 0] := by
    have := Blk.new (w.alloc (.cells #[.int .i64 d.kd, .int .i64 d.id, .int .i64 d.enc, .int .i64 d.sig, .int .i64 d.hash, .slice za d.un.length zc] 32)) [.int .i64 0, .int .i64 0, .int .i64 0, .int .i64 0, .int .i64 0, .slice none 0 0] 32
    rwa [alloc_size] at this
  have hru := hr.kept k1
  go_enter Tryd.func48, Tryd.ntmps48
  go_wp2_with (at_builtin; refine go_appi w.heap.size (.slice none 0 0) [] rfl (OwnI.nil _ _) _ d.un rfl hru (by simp; omega) k1.size ?_; intro v6 w6 o6 t6 l6; have k6 : Kept w w6 := Turn.keptOf k1 t6 (fun b hb => by cases hb); replace o6 : OwnI w.heap.size w6 v6 d.un := o6; obtain ⟨ua, uc, rfl, _, _, _⟩ := (OwnI.rd o6).len; have b6 : Blk w6 w.heap.size 32 [.int .i64 d.kd, .int .i64 d.id, .int .i64 d.enc, .int .i64 d.sig, .int .i64 d.hash, .slice za d.un.length zc] := Blk.turn bX t6 (fun hb => by cases hb); have y6 : Blk w6 (w.heap.size + 1) 32 [.int .i64 0, .int .i64 0, .int .i64 0, .int .i64 0, .int .i64 0, .slice none 0 0] := Blk.turn bY t6 (fun hb => by cases hb); have f5 := b6.frozen 5; have c5 := b6.cell 5; have c0 := b6.cell 0; have c1 := b6.cell 1; have c2 := b6.cell 2; have c3 := b6.cell 3; have c4 := b6.cell 4; simp only [List.getElem?_cons_zero, List.getElem?_cons_succ] at c0 c1 c2 c3 c4 c5; have g0 := y6.frozen 0; have g1 := y6.frozen 1; have g2 := y6.frozen 2; have g3 := y6.frozen 3; have g4 := y6.frozen 4; have g5 := y6.frozen 5; have d0 := y6.cell 0; have d1 := y6.cell 1; have d2 := y6.cell 2; have d3 := y6.cell 3; have d4 := y6.cell 4; have d5 := y6.cell 5; simp only [List.getElem?_cons_zero, List.getElem?_cons_succ] at d0 d1 d2 d3 d4 d5; obtain ⟨kZ, oZ, bZ⟩ := ownN_step (lv := .slice za d.un.length zc) k6 b6 y6 rfl o6)
  have bZ2 := bZ
  simp only [put6, Nat.zero_add] at bZ2
  have e0 := bZ2.cell 0
  have e1 := bZ2.cell 1
  have e2 := bZ2.cell 2
  have e3 := bZ2.cell 3
  have e4 := bZ2.cell 4
  have e5 := bZ2.cell 5
  simp only [List.getElem?_cons_zero, List.getElem?_cons_succ] at e0 e1 e2 e3 e4 e5
  exact bodyPost_ret (v := .agg #[.int .i64 d.kd, .int .i64 d.id, .int .i64 d.enc, .int .i64 d.sig, .int .i64 d.hash, .slice ua d.un.length uc]) (by simp [results, Tryd.results48, go_sem, e0, e1, e2, e3, e4, e5]) rfl ⟨_, rfl, oZ, kZ⟩
theorem go_mkt {w : World} {ops : Array Oper} {rest : List Oper} {a : Act} {Q : Exit → Act → World → Prop} {d : Option Tmp} {ty : TypeId} {ps : String} {af : Array Edge} {l c : Operand}
    (n : Nat) (hl : a.eval l = .int .i64 n) (hc : a.eval c = .int .i64 n) (h1 : n ≤ 1000000)
    (hK : ∀ w', OwnT w.heap.size w' (.slice (some ⟨w.heap.size, 0, none⟩) n n) (List.replicate n tn0) (List.replicate n (.slice none 0 0)) → Kept w w' → wpList Tryd.prog ops Q rest (a.put d (.slice (some ⟨w.heap.size, 0, none⟩) n n)) w') :
    wpList Tryd.prog ops Q (⟨d, .makeSlice 22 l c, ty, ps, af, none⟩ :: rest) a w := by
  obtain ⟨i0, hi, hz0, hz1, hz2⟩ := info_parts Tryd.infoTN
  refine wpList_make_full w rfl l c 22 rfl w.heap.size 32 i0 (.agg zero6) 6 Tryd.underlying22 hi hz0 hz1 .i64 .i64 n n n hl hc rfl rfl (by rw [hz2]; omega) (by unfold maxLen; omega) (Nat.le_refl _) ?_
  intro w' ho hg
  refine hK w' ⟨?_, by simp, fun i hi => ?_, fun i j hi hj _ b hb => ?_⟩ ((Below.refl w.heap.size w).grown hg (Nat.le_refl _) fun k hk => by cases hk)
  · rw [List.length_replicate, ← zero6_flat]
    exact ho
  · rw [List.length_replicate] at hi
    rw [nd_rep, lv_rep hi]
    exact OwnI.nil _ _
  · rw [List.length_replicate] at hi
    rw [lv_rep hi] at hb
    cases hb
set_option maxHeartbeats 8000000 in
set_option maxRecDepth 100000 in
theorem powns_any {w : World} {tv : Value} {t : List TN} (ht : RdTs w tv t) (hl : t.length ≤ 600) (hun : ∀ d ∈ t, d.un.length ≤ 1000) :
    Calls Tryd.prog 45 #[tv] w (CopyPost w t) := by
  obtain ⟨ta, tc, rfl, t1, t2, t3⟩ := ht.len
  have t63 : ((t.length : Nat) : Int) ≤ 600 := by omega
  have HUn := Shut.mk hun
  clear hun
  have hlen6 : t.length ≤ 1000000 := by omega
  go_enter Tryd.func45, Tryd.ntmps45
  go_wp2_with (refine go_mkt t.length rfl rfl hlen6 ?_; intro w1 o1 k1)
  go_loopw [11] (fun c wr => ∃ k : Nat, k ≤ t.length ∧ c = .int .i64 k ∧ (∃ us lvs, OwnT w.heap.size wr (.slice (some ⟨w.heap.size, 0, none⟩) t.length t.length) us lvs ∧ us.length = t.length ∧ ∀ x, x < t.length → nd us x = if x < k then nd t x else tn0) ∧ Kept w wr) (fun c _ => t.length - (intOf c).toNat)
  case atStart => exact ⟨0, Nat.zero_le _, rfl, ⟨_, _, o1, List.length_replicate, fun x hx => by rw [if_neg (Nat.not_lt_zero _), nd_rep]⟩, k1⟩
  case round =>
    obtain ⟨k, hk, rfl, ⟨us, lvs, ho, hul, hus⟩, hkw⟩ := hrel
    have HUs := Shut.mk hus
    have HUl := Shut.mk hul
    clear hus hul
    by_cases hlt : k < t.length
    · obtain ⟨zb, zo, zc, za, zcc, hzv, hzat, hzun⟩ := ht.at (k := k) hlt
      simp only [Value.slice.injEq] at hzv
      obtain ⟨rfl, -, rfl⟩ := hzv
      obtain ⟨g0, g1, g2, g3, g4, g5⟩ := hzat wr hkw
      have hmem : nd t k ∈ t := by rw [nd_get hlt]; exact List.getElem_mem hlt
      have hu9 := HUn.out _ hmem
      have k0 : (0 : Int) ≤ (k : Int) := by omega
      have k1 : (k : Int) < (t.length : Int) := by omega
      have hzu := hzun.kept hkw
      have HD := Shut.mk (rfl : nd t k = nd t k)
      generalize hd : nd t k = d at g0 g1 g2 g3 g4 g5 hzu hu9
      have HDd := Shut.mk hd
      clear hzat hmem hd hzun HD
      have ka : Kept wr (wr.alloc (.cells #[.int .i64 d.kd, .int .i64 d.id, .int .i64 d.enc, .int .i64 d.sig, .int .i64 d.hash, .slice za d.un.length zcc] 32)) := (Kept.refl wr).alloc _
      have HO := Lib.hid (pown_any (w := wr.alloc (.cells #[.int .i64 d.kd, .int .i64 d.id, .int .i64 d.enc, .int .i64 d.sig, .int .i64 d.hash, .slice za d.un.length zcc] 32)) (d := d) ⟨_, rfl, hzu.kept ka⟩ hu9)
      have hsz : wr.heap.size ≤ (wr.alloc (.cells #[.int .i64 d.kd, .int .i64 d.id, .int .i64 d.enc, .int .i64 d.sig, .int .i64 d.hash, .slice za d.un.length zcc] 32)).heap.size := ka.size
      go_wp2_with fail
      (with_reducible refine HO.out.mono ?_); rintro e w5 ⟨lv, rfl, o5, k5⟩
      have hkx : Kept wr w5 := ka.trans k5
      have o5' : OwnI w.heap.size w5 lv d.un := Ownv.mono o5 (Nat.le_trans hkw.size hsz)
      have hx : k < us.length := by rw [HUl.out]; exact hlt
      have ho5 := ho.kept hkx
      have hap : ∀ i, i < us.length → i ≠ k → ∀ b, Blks lv b → ¬ Blks (lvs.getD i undef) b := fun i hi _ b hb hb2 => by
        have h1 := (Ownv.lt o5 hb).2
        have h2 := (Ownv.lt (ho.un i hi) hb2).1
        omega
      rw [← HUl.out] at ho5
      have hput := ho5.put hx d lv o5' hap
      obtain ⟨lv0, ⟨s0, s1, s2, s3, s4, s5⟩, f⟩ := ho5.rowT.cells hx
      have f0 := f (k * 6)
      have f1 := f (k * 6 + 1)
      have f2 := f (k * 6 + 2)
      have f3 := f (k * 6 + 3)
      have f4 := f (k * 6 + 4)
      have f5 := f (k * 6 + 5)
      obtain ⟨la, lc, rfl, _, _, _⟩ := (OwnI.rd o5).len
      rw [HUl.out] at hput
      have HPut := Lib.hid hput
      clear ho5 hput f hap o5'
      have hgB : w.heap.size ≤ w.heap.size := Nat.le_refl _
      go_wp2
      go_roundw
      case rel => exact ⟨k + 1, hlt, by go_num, ⟨us.set k d, lvs.set k (.slice la d.un.length lc), HPut.out, by rw [List.length_set]; exact HUl.out, fun x hx' => by
        rw [nd_set hx]
        by_cases c : x = k
        · rw [if_pos c, if_pos (by omega), c, HDd.out]
        · rw [if_neg c, HUs.out x hx']
          by_cases c2 : x < k
          · rw [if_pos c2, if_pos (by omega)]
          · rw [if_neg c2, if_neg (by omega)]⟩, Turn.keptOf (hkw.trans hkx) (put6_turn w5 w.heap.size (k * 6) d (.slice la d.un.length lc)) (fun b e => by rw [e]; exact hgB)⟩
      case measure => simp [intOf]; omega
    · have e : k = t.length := by omega
      have HE := Shut.mk (show us = t from tn_ext HUl.out fun x hx => by rw [HUs.out x (by rw [← HUl.out]; exact hx), if_pos (by rw [e, ← HUl.out]; exact hx)])
      have k9 : ¬ (k : Int) < (t.length : Int) := by omega
      clear e
      go_wp2
      go_ret
      exact ⟨_, lvs, rfl, by rw [HE.out] at ho; exact ho, hkw⟩
end Go.Proofs.YtlmpejfkpidbeaaDoor
end

section
/- Walks of the program's ratchet: unmergedFit, nodesFit. -/
set_option linter.unusedSimpArgs false
set_option linter.unusedVariables false
namespace Go.Proofs.YtlmpejfkpidbeaaDoor
open Go.RowKit
open Rt

set_option maxHeartbeats 8000000 in
set_option maxRecDepth 100000 in
theorem punf_any {w : World} {tv : Value} {t : List TN} {n x : Nat} (ht : RdTs w tv t) (hok : ∀ d ∈ t, TnOk d) (hn : n ∈ Mth.fulls) (hlen : t.length = 2 * n - 1) (hx : x < t.length) (hT : Tabs w) :
    Calls Tryd.prog 62 #[tv, .int .i64 x] w fun e w' => e = .returned (.bool (unfB t (Mth.hi x) (Mth.lo x : Nat) (nd t x).un)) ∧ Kept w w' := by
  have hnb := fulls_bd hn
  have hx5 : x < 511 := by omega
  have hhi := hi_le hn (by omega : x < 2 * n - 1)
  have HLv : Hid (Calls Tryd.prog 82 #[.int .i64 x] w fun e w' => e = .returned (.tuple #[.int .i64 (Mth.lo x : Nat), .int .i64 (Mth.hi x : Nat), .int .i64 0]) ∧ Kept w w') := Lib.hid (by
    have := Leaves_any x w ⟨by omega, by omega⟩ hT
    rw [in_any hx5] at this
    exact this)
  have HUn := Shut.mk (show ∀ last i r, unfB t (Mth.hi x) last (i :: r) = (!(decide (i < last) || decide ((Mth.hi x : Int) ≤ i) || !lk t i.toNat) && unfB t (Mth.hi x) (i + 1) r) from fun _ _ _ => rfl)
  have HNil := Shut.mk (show ∀ last, unfB t (Mth.hi x) last [] = true from fun _ => rfl)
  have hmem : nd t x ∈ t := by rw [nd_get hx]; exact List.getElem_mem hx
  have HUok := Shut.mk (hok _ hmem).un
  obtain ⟨tb0, to0, tc0, la, lc, htv, hat0, hru⟩ := ht.at (k := x) hx
  subst htv
  have HX5 := Lib.hid (fun W k => (hat0 W k).2.2.2.2.2)
  obtain ⟨_, _, _, l1, l2, l3⟩ := hru.len
  have u63 : (((nd t x).un.length : Nat) : Int) ≤ 9223372036854775807 := by
    obtain ⟨a', c', h1, h2, h3, _⟩ := hru.len
    unfold maxLen at h3; omega
  clear hat0
  generalize hus : (nd t x).un = us at hru HUok u63 HX5 ⊢
  have hres : unfB t (Mth.hi x) (Mth.lo x : Nat) us = unfB t (Mth.hi x) (Mth.lo x : Nat) us := rfl
  generalize hr0 : unfB t (Mth.hi x) (Mth.lo x : Nat) us = res at hres ⊢
  have HRes := Shut.mk hr0
  generalize hlo : Mth.lo x = lo at HLv HRes
  generalize hhe : Mth.hi x = hi' at HLv hhi HUn HNil HRes
  have HLen := Shut.mk hlen
  have t63 : (t.length : Int) ≤ 511 := by omega
  have lob : lo ≤ 600 := by rw [← hlo]; unfold Mth.lo; omega
  have x0 : (0 : Int) ≤ (x : Int) := by omega
  have x1 : (x : Int) < (t.length : Int) := by omega
  clear hres hok hlen hmem hus hlo hhe hr0
  go_enter Tryd.func62, Tryd.ntmps62
  go_wp2_with fail
  refine HLv.out.mono ?_; rintro e w1 ⟨rfl, k1⟩
  have s5 := HX5.out _ k1
  have hruA := hru.kept k1
  go_wp2
  go_loopw [5, 22] (fun l c wr => ∃ (i : Nat) (last : Int), i ≤ us.length ∧ c = .int .i64 i ∧ l = .int .i64 last ∧ 0 ≤ last ∧ last ≤ 600 ∧ unfB t hi' last (us.drop i) = res ∧ Kept w1 wr) (fun _ c _ => us.length - (intOf c).toNat)
  case atStart => exact ⟨0, _, Nat.zero_le _, rfl, rfl, by omega, by omega, HRes.out, Kept.refl _⟩
  case round =>
    obtain ⟨i, last, hi, rfl, rfl, hl0, hl1, hun, hk⟩ := hrel
    have HUnR := Shut.mk hun
    clear hun
    by_cases hlt : i < us.length
    · obtain ⟨ub, uo, uc, huv, _, _, hub, hcl⟩ := hruA.addr (by omega)
      simp only [Value.slice.injEq] at huv
      obtain ⟨rfl, -, rfl⟩ := huv
      have q0 := hk.cell (p := ⟨ub, uo + i, none⟩) hub |>.trans (hcl i hlt)
      have hu := HUok.out _ (getD_memI hlt)
      have hdr : us.drop i = us.getD i 0 :: us.drop (i + 1) := by
        rw [List.drop_eq_getElem_cons hlt, List.getD_eq_getElem?_getD, List.getElem?_eq_getElem hlt]; rfl
      have hr := HUnR.out
      rw [hdr, HUn.out] at hr
      clear hcl hdr
      generalize us.getD i 0 = u at q0 hu hr
      obtain ⟨hu0, hu1⟩ := hu
      have HR := Shut.mk hr
      clear hr
      have i0 : (0 : Int) ≤ (i : Int) := by omega
      have i1 : (i : Int) < (us.length : Int) := by omega
      by_cases c1 : u < last
      · have d1 : decide (u < last) = true := decide_eq_true c1
        have HF := Shut.mk (show res = false by rw [← HR.out, d1]; rfl)
        clear HR
        go_wp2
        go_ret
        exact ⟨by rw [HF.out]; rfl, k1.trans hk⟩
      · have d1 : decide (u < last) = false := decide_eq_false c1
        by_cases c2 : (hi' : Int) ≤ u
        · have d2 : decide ((hi' : Int) ≤ u) = true := decide_eq_true c2
          have HF := Shut.mk (show res = false by rw [← HR.out, d1, d2]; rfl)
          clear HR
          go_wp2
          go_ret
          exact ⟨by rw [HF.out]; rfl, k1.trans hk⟩
        · have d2 : decide ((hi' : Int) ≤ u) = false := decide_eq_false c2
          obtain ⟨j, rfl⟩ : ∃ j : Nat, u = j := ⟨u.toNat, by omega⟩
          obtain ⟨tb, to, tcc, ja, jc, hv, hat, _⟩ := ht.at (k := 2 * j) (by have := HLen.out; omega)
          simp only [Value.slice.injEq, Option.some.injEq, Addr.mk.injEq, and_true, true_and] at hv
          obtain ⟨⟨rfl, rfl⟩, rfl⟩ := hv
          have s0 := (hat wr (k1.trans hk)).1
          have HLk := Shut.mk (lk_nd t j)
          have j0 : (0 : Int) ≤ (j : Int) := by omega
          have j1 : 2 * (j : Int) < (t.length : Int) := by have := HLen.out; omega
          have j2 : (j : Int) ≤ 255 := by omega
          generalize (nd t (2 * j)).kd = kj at s0 HLk
          clear hat
          cases hkj : (kj != 1) with
          | true =>
            have HF := Shut.mk (show res = false by
              rw [← HR.out, d1, d2, Int.toNat_natCast, HLk.out]
              have : (kj == 1) = false := by simpa using hkj
              rw [this]; rfl)
            clear HR
            go_wp2
            go_ret
            exact ⟨by rw [HF.out]; rfl, k1.trans hk⟩
          | false =>
            have HG := Shut.mk (show unfB t hi' ((j : Int) + 1) (us.drop (i + 1)) = res by
              rw [← HR.out, d1, d2, Int.toNat_natCast, HLk.out]
              have : (kj == 1) = true := by simpa using hkj
              rw [this]
              simp)
            clear HR
            go_wp2
            go_roundw
            case rel => exact ⟨i + 1, (j : Int) + 1, hlt, by go_num, by go_num, by omega, by omega, HG.out, hk⟩
            case measure => simp [intOf]; omega
    · have e : us.drop i = [] := List.drop_eq_nil_of_le (by omega)
      have HF := Shut.mk (show res = true by rw [← HUnR.out, e]; exact HNil.out _)
      have i9 : ¬ (i : Int) < (us.length : Int) := by omega
      clear e
      go_wp2
      go_ret
      exact ⟨by rw [HF.out]; rfl, k1.trans hk⟩
set_option maxHeartbeats 8000000 in
set_option maxRecDepth 100000 in
theorem pfits_any {w : World} {tv : Value} {t : List TN} {n : Nat} (ht : RdTs w tv t) (hok : ∀ d ∈ t, TnOk d) (hn : n ∈ Mth.fulls) (hlen : t.length = 2 * n - 1) (hT : Tabs w) :
    Calls Tryd.prog 34 #[tv] w fun e w' => e = .returned (.bool (fitsB t)) ∧ Kept w w' := by
  have hnb := fulls_bd hn
  have HFB := Shut.mk (show fitsB t = (List.range t.length).all fun x => fitB t x from rfl)
  have HFalse := Shut.mk (show ∀ k, k < t.length → fitB t k = false → fitsB t = false from fun k hk h => by
    rw [HFB.out]
    cases e : ((List.range t.length).all fun x => fitB t x) with
    | false => rfl
    | true =>
      have := List.all_eq_true.1 e k (List.mem_range.2 hk)
      rw [h] at this; cases this)
  have t63 : (t.length : Int) ≤ 511 := by omega
  obtain ⟨ta, tc, rfl, t1, t2, t3⟩ := ht.len
  have HN := Shut.mk hn
  have HLen := Shut.mk hlen
  have HOk := Shut.mk hok
  clear hok hn hlen
  go_enter Tryd.func34, Tryd.ntmps34
  go_wp2
  go_loopw [7] (fun c wr => ∃ k : Nat, k ≤ t.length ∧ c = .int .i64 k ∧ (∀ y, y < k → fitB t y = true) ∧ Kept w wr) (fun c _ => t.length - (intOf c).toNat)
  case atStart => exact ⟨0, Nat.zero_le _, rfl, fun y hy => absurd hy (Nat.not_lt_zero _), Kept.refl _⟩
  case round =>
    obtain ⟨k, hk, rfl, hall, hkw⟩ := hrel
    have HAll := Shut.mk hall
    clear hall
    by_cases hlt : k < t.length
    · obtain ⟨zb, zo, zc, za, zcc, hzv, hzat, hzun⟩ := ht.at (k := k) hlt
      simp only [Value.slice.injEq] at hzv
      obtain ⟨rfl, -, rfl⟩ := hzv
      obtain ⟨g0, g1, g2, g3, g4, g5⟩ := hzat wr hkw
      have k0 : (0 : Int) ≤ (k : Int) := by omega
      have k1 : (k : Int) < (t.length : Int) := by omega
      have hkb : Kept w (wr.alloc (.cells #[.int .i64 (nd t k).kd, .int .i64 (nd t k).id, .int .i64 (nd t k).enc, .int .i64 (nd t k).sig, .int .i64 (nd t k).hash, .slice za (nd t k).un.length zcc] 32)) := hkw.alloc _
      have HRd : Hid (∀ W, Kept w W → RdTn W (.agg #[.int .i64 (nd t k).kd, .int .i64 (nd t k).id, .int .i64 (nd t k).enc, .int .i64 (nd t k).sig, .int .i64 (nd t k).hash, .slice za (nd t k).un.length zcc]) (nd t k)) := Lib.hid (fun W q => ⟨_, rfl, hzun.kept q⟩)
      have HUf := Lib.hid (fun W (q : Kept w W) => punf_any (ht.kept q) HOk.out HN.out HLen.out hlt (hT.kept q))
      have bX : Blk (wr.alloc (.cells #[.int .i64 (nd t k).kd, .int .i64 (nd t k).id, .int .i64 (nd t k).enc, .int .i64 (nd t k).sig, .int .i64 (nd t k).hash, .slice za (nd t k).un.length zcc] 32)) wr.heap.size 32 [.int .i64 (nd t k).kd, .int .i64 (nd t k).id, .int .i64 (nd t k).enc, .int .i64 (nd t k).sig, .int .i64 (nd t k).hash, .slice za (nd t k).un.length zcc] := Blk.new _ _ _
      have HFt := Shut.mk (show fitB t k = bif (nd t k).kd == 0 then sameNB (nd t k) tn0 else bif Nat.beq (k % 2) 0 then leafB (nd t k) else parB (nd t k) && unfB t (Mth.hi k) (Mth.lo k : Nat) (nd t k).un from rfl)
      have HSm := Lib.hid (fun W (q : Kept w W) => psameN_any (w := W) (v := .agg #[.int .i64 0, .int .i64 0, .int .i64 0, .int .i64 0, .int .i64 0, .slice none 0 0]) (HRd.out W q) (b := tn0) ⟨.slice none 0 0, rfl, RdI.nil _⟩)
      have HLf := Lib.hid (fun W (q : Kept w W) => pleaf_any (w := W) (HRd.out W q))
      have HPr := Lib.hid (fun W (q : Kept w W) => ppar_any (w := W) (HRd.out W q))
      generalize unfB t (Mth.hi k) (Mth.lo k : Nat) (nd t k).un = uf at HUf HFt
      generalize sameNB (nd t k) tn0 = sm at HSm HFt
      generalize leafB (nd t k) = lf at HLf HFt
      generalize parB (nd t k) = pr at HPr HFt
      have HFa := Shut.mk (HFalse.out k hlt)
      have HNx : ∀ b, b = fitB t k → b = true → Shut (∀ y, y < k + 1 → fitB t y = true) := fun b e h => ⟨fun y hy => by
        by_cases c : y < k
        · exact HAll.out y c
        · obtain rfl : y = k := by omega
          rw [← e]; exact h⟩
      clear hzat hzun HRd
      cases hk0 : ((nd t k).kd == 0) with
      | true =>
        rw [hk0] at HFt
        have hft : fitB t k = sm := HFt.out
        cases sm with
        | true =>
          have HNx2 := HNx true hft.symm rfl
          clear HNx hft HFt
          go_wp2_with fail
          (with_reducible refine (HSm.out _ hkb).mono ?_); rintro e w2 ⟨rfl, q⟩
          go_wp2
          go_roundw
          case rel => exact ⟨k + 1, hlt, by go_num, HNx2.out, hkb.trans q⟩
          case measure => simp [intOf]; omega
        | false =>
          have HF := Shut.mk (HFa.out hft)
          clear HNx hft HFt
          go_wp2_with fail
          (with_reducible refine (HSm.out _ hkb).mono ?_); rintro e w2 ⟨rfl, q⟩
          go_wp2
          go_ret
          exact ⟨by rw [HF.out]; rfl, hkb.trans q⟩
      | false =>
        rw [hk0] at HFt
        by_cases hpar : k % 2 = 0
        · have xm : ((k : Int) % 2 == 0) = true := by rw [beq_iff_eq]; omega
          have hft : fitB t k = lf := by have := HFt.out; rw [hpar] at this; exact this
          clear hpar
          cases lf with
          | true =>
            have HNx2 := HNx true hft.symm rfl
            clear HNx hft HFt
            go_wp2_with fail
            (with_reducible refine (HLf.out _ hkb).mono ?_); rintro e w2 ⟨rfl, q⟩
            go_wp2
            go_roundw
            case rel => exact ⟨k + 1, hlt, by go_num, HNx2.out, hkb.trans q⟩
            case measure => simp [intOf]; omega
          | false =>
            have HF := Shut.mk (HFa.out hft)
            clear HNx hft HFt
            go_wp2_with fail
            (with_reducible refine (HLf.out _ hkb).mono ?_); rintro e w2 ⟨rfl, q⟩
            go_wp2
            go_ret
            exact ⟨by rw [HF.out]; rfl, hkb.trans q⟩
        · have xm : ((k : Int) % 2 == 0) = false := by rw [beq_eq_false_iff_ne]; omega
          have hft : fitB t k = (pr && uf) := by have := HFt.out; rw [show k % 2 = 1 by omega] at this; exact this
          clear hpar
          cases pr with
          | false =>
            have HF := Shut.mk (HFa.out hft)
            clear HNx hft HFt
            go_wp2_with fail
            (with_reducible refine (HPr.out _ hkb).mono ?_); rintro e w2 ⟨rfl, q⟩
            go_wp2
            go_ret
            exact ⟨by rw [HF.out]; rfl, hkb.trans q⟩
          | true =>
            cases uf with
            | true =>
              have HNx2 := HNx true hft.symm rfl
              clear HNx hft HFt
              go_wp2_with fail
              (with_reducible refine (HPr.out _ hkb).mono ?_); rintro e w2 ⟨rfl, q⟩
              go_wp2_with fail
              (with_reducible refine (HUf.out _ (hkb.trans q)).mono ?_); rintro e w3 ⟨rfl, q3⟩
              go_wp2
              go_roundw
              case rel => exact ⟨k + 1, hlt, by go_num, HNx2.out, (hkb.trans q).trans q3⟩
              case measure => simp [intOf]; omega
            | false =>
              have HF := Shut.mk (HFa.out hft)
              clear HNx hft HFt
              go_wp2_with fail
              (with_reducible refine (HPr.out _ hkb).mono ?_); rintro e w2 ⟨rfl, q⟩
              go_wp2_with fail
              (with_reducible refine (HUf.out _ (hkb.trans q)).mono ?_); rintro e w3 ⟨rfl, q3⟩
              go_wp2
              go_ret
              exact ⟨by rw [HF.out]; rfl, (hkb.trans q).trans q3⟩
    · have e : k = t.length := by omega
      have HF := Shut.mk (show fitsB t = true by
        rw [HFB.out, List.all_eq_true]
        exact fun i hi => HAll.out i (by rw [e]; exact List.mem_range.1 hi))
      have k9 : ¬ (k : Int) < (t.length : Int) := by omega
      clear e
      go_wp2
      go_ret
      exact ⟨by rw [HF.out]; rfl, hkw⟩
end Go.Proofs.YtlmpejfkpidbeaaDoor
end

section
/- Walks: math's Path answers numbers of its own; the library's BinarySearch; the program's above, unmergedAgree, Check, Members, Same. -/
set_option linter.unusedSimpArgs false
set_option linter.unusedVariables false
namespace Go.Proofs.YtlmpejfkpidbeaaDoor
open Go.RowKit
open Rt

def ClimbOwn (w : World) (l : List Int) (e : Ending) (w' : World) : Prop := ∃ v, e = .returned v ∧ OwnI w.heap.size w' v l ∧ Kept w w'
set_option maxHeartbeats 1000000 in
theorem climb_own (t : Nat → Nat) (g : Nat) (eg : ∀ args w, (callFunc g args).run Tryd.prog w = .ok (.enter g args) w)
    (hG : ∀ (y : Nat) (W : World), y < 511 → Tabs W → Calls Tryd.prog g #[.int .i64 (y : Int)] W fun e w' => e = .returned (.int .i64 (t y : Nat)) ∧ Kept W w')
    (x n : Nat) (hn : n ∈ Mth.fulls) (hx : x < 2 * n - 1) (w : World) (ht : Tabs w) :
    Calls Tryd.prog 88 #[.int .i64 x, .int .i64 n, .func (.func g) #[] #[]] w (ClimbOwn w (cl t x (Mth.lvl (n - 1) - Mth.lvl x))) := by
  have hp := Mth.path_of hn hx
  have hbd := fulls_bd hn
  have hl8 := lvl_top hn
  have HR := Lib.hid (fun W => root_any (n : Int) W (by omega) (by omega))
  have HG := Lib.hid hG
  clear hG
  have hlast := hp.last
  have hL8 : Mth.lvl (n - 1) - Mth.lvl x ≤ 8 := by omega
  have hat := hp.at'
  generalize Mth.lvl (n - 1) - Mth.lvl x = L at hlast hat hL8 ⊢
  have HLast := Shut.mk hlast
  have HAt := Shut.mk hat
  have HL := Shut.mk hL8
  clear hlast hat hp hL8
  have hn1 : (1 : Int) ≤ (n : Int) := by omega
  have hn2 : (n : Int) ≤ 256 := by omega
  go_enter Tryd.func88, Tryd.ntmps88
  go_wp2
  go_loopw [0, 7] (fun y l wr => ∃ i : Nat, i ≤ L ∧ y = .int .i64 (Mth.itr i x : Nat) ∧ (∃ v, v = l ∧ OwnI w.heap.size wr v (cl t x i) ∧ slen v = i) ∧ Kept w wr) (fun _ l _ => L - slen l)
  case atStart => exact ⟨0, Nat.zero_le _, rfl, ⟨_, rfl, OwnI.nil _ _, rfl⟩, Kept.refl _⟩
  case round =>
    obtain ⟨i, hi, rfl, ⟨v, rfl, ho, hs⟩, hk⟩ := hrel
    have HS := Shut.mk hs
    clear hs
    by_cases hlt : i < L
    · obtain ⟨_, _, a3, a4, _⟩ := HAt.out i hlt
      have hm : Mth.itr i x < 511 := by omega
      have HSucc := Shut.mk (Mth.itr_succ i x)
      have HCl := Shut.mk (cl_succ t x i)
      have HTy := Lib.hid (fun W k => HG.out (Mth.itr i x) W hm (ht.kept (Kept.trans hk k)))
      have HPy := Lib.hid (fun W (k : Kept w W) => parent_any (Mth.itr i x) hm W (ht.kept k))
      have hne : ((Mth.itr i x : Int) != (n : Int) - 1) = true := by simp; omega
      generalize Mth.itr i x = y at HSucc HCl HTy HPy hne
      generalize t y = ty at HCl HTy
      clear a3 a4 hm
      go_wp2_with (go_at_call 101; refine (HR.out _).mono ?_; rintro e w' ⟨rfl, rfl⟩)
      refine (HTy.out _ (Kept.refl _)).mono ?_
      rintro e w2 ⟨rfl, hk2⟩
      have hsz := (hk.trans hk2).size
      have hk2a := (hk.trans hk2).alloc (.cells #[.int .i64 (ty : Int)] 3)
      have o2 := Ownv.kept (Ownv.kept ho hk2) ((Kept.refl w2).alloc (.cells #[.int .i64 (ty : Int)] 3))
      have hlen : (cl t x i).length + 1 ≤ 10000000000 := by rw [cl_len]; have := HL.out; omega
      go_wp2_with (at_builtin; refine go_appi w.heap.size v (cl t x i) rfl o2 _ [(ty : Int)] rfl (OwnI.rd (OwnI.lit1 w2 _)) hlen (by simp; omega) ?_; intro v6 w6 o6 t6 l6; have k6 : Kept w w6 := Turn.keptOf hk2a t6 (fun b hb => (Ownv.lt o2 hb).2))
      refine (HPy.out _ k6).mono ?_
      rintro e w7 ⟨rfl, hk7⟩
      go_wp2
      go_roundw
      case rel => exact ⟨i + 1, hlt, by rw [HSucc.out], ⟨v6, rfl, by rw [HCl.out]; exact Ownv.kept o6 hk7, by
        obtain ⟨a6, c6, rfl, _⟩ := (OwnI.rd o6).len
        show (cl t x i ++ [(ty : Int)]).length = i + 1
        rw [List.length_append, cl_len]; rfl⟩, k6.trans hk7⟩
      case measure =>
        obtain ⟨a6, c6, rfl, _⟩ := (OwnI.rd o6).len
        have := HS.out
        show L - (cl t x i ++ [(ty : Int)]).length < L - slen v
        rw [List.length_append, cl_len, this]
        simp
        omega
    · have e : i = L := by omega
      have hlst := HLast.out
      rw [← e] at hlst
      have hne : ((Mth.itr i x : Int) != (n : Int) - 1) = false := by simp; omega
      have HE := Shut.mk e
      clear e hlst hlt
      generalize Mth.itr i x = y at hne
      go_wp2_with (go_at_call 101; refine (HR.out _).mono ?_; rintro e w' ⟨rfl, rfl⟩)
      go_ret
      exact ⟨_, rfl, by rw [← HE.out]; exact ho, hk⟩
theorem Path1_own (b c : Nat) (x n : Nat) (hn : n ∈ Mth.fulls) (hx : x < 2 * n - 1) (w : World) (hb : w.cell? ⟨b, 0, none⟩ = some (.int .i64 x)) (hc : w.cell? ⟨c, 0, none⟩ = some (.int .i64 n)) (ht : Tabs w) :
    Calls Tryd.prog 87 #[.pointer (some ⟨b, 0, none⟩), .pointer (some ⟨c, 0, none⟩)] w (ClimbOwn w (ints (Mth.path x n))) := by
  have HC := Lib.hid (climb_own Mth.par 89 (enters_of Tryd.func89 (by kernel_rfl) rfl) (fun y W h t => parent_any y h W t) x n hn hx w ht)
  rw [cl_path hn hx] at HC
  go_enter Tryd.func87, Tryd.ntmps87
  go_wp2_with fail
  refine HC.out.mono ?_
  rintro e w' ⟨v, rfl, hr, hk⟩
  go_wp2
  go_ret
  exact ⟨_, rfl, hr, hk⟩
theorem Path_own (x n : Int) (w : World) (hx : I64 x) (hn : I64 n) (ht : Tabs w) : Calls Tryd.prog 72 #[.int .i64 x, .int .i64 n] w (OwnPost w (inB x n) (ints (Mth.path x.toNat n.toNat))) := by
  have HA := Lib.hid (fun w => within_any x n w hx hn)
  have hk0 : Kept w ((w.alloc (.cells #[.int .i64 x] 3)).alloc (.cells #[.int .i64 n] 3)) := ((Kept.refl w).alloc _).alloc _
  have ht1 := ht.kept hk0
  cases hi : inB x n with
  | false =>
    rw [hi] at HA
    clear hi
    go_enter Tryd.func72, Tryd.ntmps72
    go_wp2_with (first | (go_at_call 86; refine (HA.out _).mono ?_; rintro e w' ⟨rfl, rfl⟩) | (go_at_call 85; refine (told_noL _ _).mono ?_; rintro e w' ⟨rfl, rfl⟩))
    go_ret2
    exact ⟨_, rfl, OwnI.nil _ _, hk0⟩
  | true =>
    obtain ⟨m, k, hm, hkk, hkf, h4, h5⟩ := in_nat hi
    subst hm hkk
    have hb : ((w.alloc (.cells #[.int .i64 (m : Int)] 3)).alloc (.cells #[.int .i64 (k : Int)] 3)).cell? ⟨w.heap.size, 0, none⟩ = some (.int .i64 m) := by
      rw [Below.cell (p := ⟨w.heap.size, 0, none⟩) ((Kept.refl _).alloc _) (by simp)]; exact cell_box _ _ _
    have hc : ((w.alloc (.cells #[.int .i64 (m : Int)] 3)).alloc (.cells #[.int .i64 (k : Int)] 3)).cell? ⟨w.heap.size + 1, 0, none⟩ = some (.int .i64 k) := by
      have := cell_box (w.alloc (.cells #[.int .i64 (m : Int)] 3)) (.int .i64 (k : Int)) 3
      rwa [alloc_size] at this
    have HT := Lib.hid (told_yesL (P := fun v w' => OwnI w.heap.size w' v (ints (Mth.path m k)) ∧ Kept _ w') (enters_of Tryd.func87 (by kernel_rfl) rfl) ((Path1_own w.heap.size (w.heap.size + 1) m k hkf h4 _ hb hc ht1).mono fun e w' ⟨v, he, ho, hk⟩ => ⟨v, he, Ownv.mono ho hk0.size, hk⟩))
    rw [hi] at HA
    clear hi hb hc
    go_enter Tryd.func72, Tryd.ntmps72
    go_wp2_with (first | (go_at_call 86; refine (HA.out _).mono ?_; rintro e w' ⟨rfl, rfl⟩) | (go_at_call 85; refine HT.out.mono ?_; rintro e w' ⟨v, rfl, hr, hk⟩))
    go_ret2
    exact ⟨_, rfl, hr, hk0.trans hk⟩

theorem pbs_any {W : World} {v : Value} {zs : List Int} (h : RdI W v zs) (hs : zs.Pairwise (· < ·)) (hl : zs.length ≤ 100000) (x : Int) :
    Calls Tryd.prog 51 #[v, .int .i64 x] W fun e w' => e = .returned (.tuple #[.int .i64 (zs.countP (· < x) : Nat), .bool (decide (x ∈ zs))]) ∧ ∃ q, w' = W.drewN q := by
  by_cases h0 : zs = []
  · subst h0
    obtain ⟨a, c, rfl, _, _, _⟩ := h.len
    refine (Tryd.slices_BinarySearch_int_empty a c x W).mono fun e w' ⟨he, hw⟩ => ⟨?_, 0, ?_⟩
    · rw [he]; simp
    · rw [hw]; exact (World.drewN_zero W).symm
  · obtain ⟨b, off, c, rfl, h1, h2, h3, hc⟩ := h.addr (List.length_pos_iff.2 h0)
    refine (Tryd.slices_BinarySearch_int b off zs.length c zs x W (Nat.le_refl _) (by omega) hc (by rw [List.take_length]; exact hs.imp fun h => Int.le_of_lt h)).mono fun e w' ⟨he, hw⟩ => ⟨?_, hw⟩
    rw [he, List.take_length]
    simp [List.contains_eq_mem]
set_option maxHeartbeats 4000000 in
theorem pabove_any {w : World} {tv : Value} {t : List TN} {n i g : Nat} {caps : Array Value} {F : Nat → Prop} {I : Nat → World → Prop} (ht : RdTs w tv t) (hn : n ∈ Mth.fulls) (hlen : t.length = 2 * n - 1) (hi : i < n) (hT : Tabs w)
    (eg : ∀ args w, (callFunc g args).run Tryd.prog w = .ok (.enter g args) w) (hF : ∀ b, F b → b < w.heap.size) (h0 : ∀ W, Kept w W → I 0 W)
    (hst : ∀ j, j < (Mth.path (2 * i) n).length → ∀ W, I j W → Calls Tryd.prog g (#[.int .i64 ((Mth.path (2 * i) n).getD j 0 : Nat)] ++ caps) W fun e W' => e = .returned (.tuple #[]) ∧ I (j + 1) W' ∧ Turn F W W') :
    Calls Tryd.prog 49 #[tv, .int .i64 i, .func (.func g) #[] caps] w fun e w' => e = .returned (.tuple #[]) ∧ I (Mth.path (2 * i) n).length w' ∧ Turn F w w' := by
  have hnb := fulls_bd hn
  have hi2 : 2 * i < 2 * n - 1 := by omega
  have HLv := Lib.hid (pleaves_of ht hn hlen)
  have HP : Hid (Calls Tryd.prog 72 #[.int .i64 (2 * (i : Int)), .int .i64 n] w (OwnPost w true (ints (Mth.path (2 * i) n)))) := Lib.hid (by
    have := Path_own ((2 * i : Nat) : Int) n w ⟨by omega, by omega⟩ ⟨by omega, by omega⟩ hT
    rw [nat_in hn hi2] at this
    exact this)
  have hpl8 : (Mth.path (2 * i) n).length ≤ 8 := by
    have hp := Mth.path_of hn hi2
    have hpl : (Mth.path (2 * i) n).length = _ := hp.len
    have := lvl_top hn
    omega
  generalize Mth.path (2 * i) n = p at HP hst hpl8 ⊢
  have HSt := Lib.hid hst
  have H0 := Lib.hid h0
  have HF := Lib.hid hF
  have i0 : (0 : Int) ≤ (i : Int) := by omega
  have i1 : (i : Int) ≤ 256 := by omega
  clear hst h0 hF hlen hn ht
  go_enter Tryd.func49, Tryd.ntmps49
  go_wp2_with fail
  refine HLv.out.mono ?_; rintro e w1 ⟨rfl, rfl⟩
  go_wp2_with fail
  refine HP.out.mono ?_; rintro e w2 ⟨pv, rfl, op, k2⟩
  simp only [er_true]
  replace op : OwnI w.heap.size w2 pv (ints p) := op
  obtain ⟨pa, pc, rfl, _, _, _⟩ := (OwnI.rd op).len
  rw [ints_len] at op ⊢
  have p63 : (p.length : Int) ≤ 8 := by omega
  go_wp2
  go_loopw [20] (fun c wr => ∃ j : Nat, j ≤ p.length ∧ c = .int .i64 j ∧ I j wr ∧ Turn F w2 wr) (fun c _ => p.length - (intOf c).toNat)
  case atStart => exact ⟨0, Nat.zero_le _, rfl, H0.out _ k2, Turn.refl _ _⟩
  case round =>
    obtain ⟨j, hj, rfl, hI, htr⟩ := hrel
    by_cases hlt : j < p.length
    · have opr : OwnI w.heap.size wr (.slice pa p.length pc) (ints p) := Ownv.turn op htr fun b hb hf => by
        have h1 := (Ownv.lt op hb).2
        have h2 := HF.out b hf
        omega
      obtain ⟨rb, ro, rcp, hrv, _, _, hrb, hcl⟩ := (OwnI.rd opr).addr (by rw [ints_len]; omega)
      simp only [Value.slice.injEq] at hrv
      obtain ⟨rfl, -, rfl⟩ := hrv
      have q0 := hcl j (by rw [ints_len]; exact hlt)
      rw [ints_get hlt] at q0
      have HC := Lib.hid (HSt.out j hlt _ hI)
      clear hcl
      generalize p.getD j 0 = x at q0 HC
      have j0 : (0 : Int) ≤ (j : Int) := by omega
      have j1 : (j : Int) < (p.length : Int) := by omega
      go_wp2_with fail
      (with_reducible refine HC.out.mono ?_); rintro e w3 ⟨rfl, hI3, ht3⟩
      go_wp2
      go_roundw
      case rel => exact ⟨j + 1, hlt, by go_num, hI3, Turn.trans htr ht3 (fun b h => .inl h)⟩
      case measure => simp [intOf]; omega
    · have e : j = p.length := by omega
      have HE := Shut.mk (show I p.length wr by rw [← e]; exact hI)
      have k9 : ¬ (j : Int) < (p.length : Int) := by omega
      clear e
      go_wp2
      go_end0
      exact ⟨rfl, HE.out, Turn.trans (k2.turn F) htr (fun b h => .inl h)⟩
end Go.Proofs.YtlmpejfkpidbeaaDoor
end

section
/- Walks of the program's ratchet: unmergedAgree, Check, Members, Same. -/
set_option linter.unusedSimpArgs false
set_option linter.unusedVariables false
namespace Go.Proofs.YtlmpejfkpidbeaaDoor
open Go.RowKit
open Rt

def agA (t : List TN) (x i : Nat) (a b : Bool) : Bool := bif (nd t x).kd == 2 then a && (b || !hasU t x i) else a
def agB (t : List TN) (x i : Nat) (b : Bool) : Bool := bif (nd t x).kd == 2 then hasU t x i else b
theorem ag_step {W : World} {b3 b5 q : Nat} {a b a' b' : Bool} (c3 : Blk W b3 4 [.bool a]) (c5 : Blk W b5 4 [.bool b]) (hne : b3 ≠ b5) :
    Blk (((W.drewN q).setCell ⟨b3, 0, none⟩ (.bool a')).setCell ⟨b5, 0, none⟩ (.bool b')) b3 4 [.bool a'] ∧ Blk (((W.drewN q).setCell ⟨b3, 0, none⟩ (.bool a')).setCell ⟨b5, 0, none⟩ (.bool b')) b5 4 [.bool b'] ∧
    Turn (fun k => k = b3 ∨ k = b5) W (((W.drewN q).setCell ⟨b3, 0, none⟩ (.bool a')).setCell ⟨b5, 0, none⟩ (.bool b')) := by
  have k := (Kept.refl W).drewN q
  have c3' := (c3.kept k).set 0 (.bool a')
  have c5' := Blk.turn (c5.kept k) (turn_setCell (W.drewN q) ⟨b3, 0, none⟩ (.bool a')) (fun e => hne e.symm)
  refine ⟨Blk.turn c3' (turn_setCell _ ⟨b5, 0, none⟩ _) hne, c5'.set 0 _, ?_⟩
  exact Turn.trans (Turn.trans (k.turn _) (turn_setCell _ _ _) (fun x e => .inl (.inl e))) (turn_setCell _ _ _) (fun x e => .inl (.inr e))
set_option maxHeartbeats 4000000 in
set_option maxRecDepth 100000 in
theorem pag1_any {W : World} {tv : Value} {t : List TN} {x i b1 b4 b3 b5 : Nat} {a b : Bool} (ht : RdTs W tv t) (hx : x < t.length) (hl : t.length ≤ 511) (hun : (nd t x).kd = 2 → (nd t x).un.Pairwise (· < ·) ∧ (nd t x).un.length ≤ 1000)
    (c1 : Blk W b1 22 [tv]) (c4 : Blk W b4 3 [.int .i64 i]) (c3 : Blk W b3 4 [.bool a]) (c5 : Blk W b5 4 [.bool b]) (hne : b3 ≠ b5) :
    Calls Tryd.prog 63 #[.int .i64 x, .pointer (some ⟨b1, 0, none⟩), .pointer (some ⟨b4, 0, none⟩), .pointer (some ⟨b3, 0, none⟩), .pointer (some ⟨b5, 0, none⟩)] W fun e w' =>
      e = .returned (.tuple #[]) ∧ Blk w' b3 4 [.bool (agA t x i a b)] ∧ Blk w' b5 4 [.bool (agB t x i b)] ∧ Turn (fun k => k = b3 ∨ k = b5) W w' := by
  obtain ⟨tb, to, tc, la, lc, rfl, hat, hru⟩ := ht.at hx
  obtain ⟨g0, _, _, _, _, g5⟩ := hat W (Kept.refl W)
  have d1 := c1.cell 0
  have d4 := c4.cell 0
  have d3 := c3.cell 0
  have d5 := c5.cell 0
  have f3 := c3.frozen 0
  have f5 := c5.frozen 0
  simp only [List.getElem?_cons_zero] at d1 d4 d3 d5
  have x0 : (0 : Int) ≤ (x : Int) := by omega
  have x1 : (x : Int) < (t.length : Int) := by omega
  have x2 : (x : Int) ≤ 511 := by omega
  have HA := Shut.mk (show agA t x i a b = bif (nd t x).kd == 2 then a && (b || !hasU t x i) else a from rfl)
  have HB := Shut.mk (show agB t x i b = bif (nd t x).kd == 2 then hasU t x i else b from rfl)
  have HSt := Lib.hid (fun (q : Nat) (a' b' : Bool) => ag_step (q := q) (a' := a') (b' := b') c3 c5 hne)
  have HC3 := Lib.hid c3
  have HC5 := Lib.hid c5
  clear hat ht c1 c4 c3 c5
  cases hk : ((nd t x).kd == 2) with
  | false =>
    have hk2 : ((nd t x).kd != 2) = true := by simpa using hk
    rw [hk] at HA HB
    have HA2 := Shut.mk (show agA t x i a b = a from HA.out)
    have HB2 := Shut.mk (show agB t x i b = b from HB.out)
    clear hk HA HB
    go_enter Tryd.func63, Tryd.ntmps63
    go_wp2
    refine bodyPost_ret (results_none rfl _ _ _) rfl ?_
    exact ⟨rfl, by rw [HA2.out]; exact HC3.out, by rw [HB2.out]; exact HC5.out, Turn.refl _ _⟩
  | true =>
    have hk2 : ((nd t x).kd != 2) = false := by simpa using hk
    obtain ⟨hp, hul⟩ := hun (by simpa using hk)
    rw [hk] at HA HB
    have HA2 := Shut.mk (show agA t x i a b = (a && (b || !hasU t x i)) from HA.out)
    have HB2 := Shut.mk (show agB t x i b = hasU t x i from HB.out)
    have HBS := Lib.hid (fun n => Calls.quiet_of (pbs_any (hru.kept ((Kept.refl W).drewN n)) hp (by omega) (i : Int)))
    have hU : hasU t x i = decide ((i : Int) ∈ (nd t x).un) := rfl
    rw [hU] at HA2 HB2
    generalize decide ((i : Int) ∈ (nd t x).un) = u at HBS HA2 HB2
    generalize (List.countP (fun z => decide (z < (i : Int))) (nd t x).un) = cp at HBS
    clear hk HA HB hp hU
    cases a with
    | false =>
      have HA3 := Shut.mk (show agA t x i false b = false from HA2.out)
      go_enter Tryd.func63, Tryd.ntmps63
      go_wp2
      go_quiet ((go_at_call 51; exact HBS.out _))
      go_wp2
      go_end0
      exact ⟨rfl, by rw [HA3.out, HB2.out]; exact HSt.out _ _ _⟩
    | true =>
      cases b with
      | true =>
        have HA3 := Shut.mk (show agA t x i true true = true from HA2.out)
        go_enter Tryd.func63, Tryd.ntmps63
        go_wp2
        go_quiet ((go_at_call 51; exact HBS.out _))
        go_wp2
        go_end0
        exact ⟨rfl, by rw [HA3.out, HB2.out]; exact HSt.out _ _ _⟩
      | false =>
        have HA3 := Shut.mk (show agA t x i true false = !u from HA2.out)
        go_enter Tryd.func63, Tryd.ntmps63
        go_wp2
        go_quiet ((go_at_call 51; exact HBS.out _))
        go_wp2
        go_end0
        exact ⟨rfl, by rw [HA3.out, HB2.out]; exact HSt.out _ _ _⟩
/-- Behind the first j of a leaf's path. -/
def AgI (tv : Value) (t : List TN) (i b1 b4 b3 b5 : Nat) (p : List Nat) (r : Bool) (w : World) (j : Nat) (W : World) : Prop :=
  Blk W b1 22 [tv] ∧ Blk W b4 3 [.int .i64 i] ∧ Kept w W ∧ ∃ a b : Bool, Blk W b3 4 [.bool a] ∧ Blk W b5 4 [.bool b] ∧ r = (a && agF t i b (p.drop j))
theorem agF_cons (t : List TN) (i : Nat) (a b : Bool) (x : Nat) (r : List Nat) : (a && agF t i b (x :: r)) = (agA t x i a b && agF t i (agB t x i b) r) := by
  unfold agA agB
  show (a && (bif (nd t x).kd == 2 then (b || !hasU t x i) && agF t i (hasU t x i) r else agF t i b r)) = _
  cases (nd t x).kd == 2 with
  | false => rfl
  | true =>
    show (a && ((b || !hasU t x i) && agF t i (hasU t x i) r)) = ((a && (b || !hasU t x i)) && agF t i (hasU t x i) r)
    rw [Bool.and_assoc]
set_option maxHeartbeats 8000000 in
set_option maxRecDepth 100000 in
theorem pagree_any {w : World} {tv : Value} {t : List TN} {n : Nat} (ht : RdTs w tv t) (hn : n ∈ Mth.fulls) (hlen : t.length = 2 * n - 1) (hfit : ∀ x, x < t.length → (nd t x).kd = 2 → (nd t x).un.Pairwise (· < ·) ∧ (nd t x).un.length ≤ 1000) (hT : Tabs w) :
    Calls Tryd.prog 35 #[tv] w fun e w' => e = .returned (.bool (agreeB t n)) ∧ Kept w w' := by
  have hnb := fulls_bd hn
  obtain ⟨ta, tc, htv, _, _, _⟩ := ht.len
  subst htv
  have HAl := Shut.mk (show agreeB t n = (List.range n).all fun i => agF t i true (Mth.path (2 * i) n) from rfl)
  have kB : Kept w ((w.alloc (.cells #[.slice ta t.length tc] 22)).alloc (.cells #[.bool true] 4)) := ((Kept.refl w).alloc _).alloc _
  have bT : Blk ((w.alloc (.cells #[.slice ta t.length tc] 22)).alloc (.cells #[.bool true] 4)) w.heap.size 22 [.slice ta t.length tc] := (Blk.new w [.slice ta t.length tc] 22).kept ((Kept.refl _).alloc _)
  have bA : Blk ((w.alloc (.cells #[.slice ta t.length tc] 22)).alloc (.cells #[.bool true] 4)) (w.heap.size + 1) 4 [.bool true] := by
    have := Blk.new (w.alloc (.cells #[.slice ta t.length tc] 22)) [.bool true] 4
    rwa [alloc_size] at this
  have HLv := Lib.hid (fun W (k : Kept w W) => pleaves_of (ht.kept k) hn hlen)
  have HAb := Lib.hid (fun (i : Nat) (hi : i < n) (W : World) (k : Kept w W) (caps : Array Value) (F : Nat → Prop) (I : Nat → World → Prop) => pabove_any (caps := caps) (F := F) (I := I) (ht.kept k) hn hlen hi (hT.kept k) (enters_of Tryd.func63 (by kernel_rfl) rfl))
  have HAg := Lib.hid (fun (W : World) (k : Kept w W) (x : Nat) (hx : x < t.length) => fun i b1 b4 b3 b5 a b => pag1_any (i := i) (b1 := b1) (b4 := b4) (b3 := b3) (b5 := b5) (a := a) (b := b) (ht.kept k) hx (by omega) (hfit x hx))
  have HPf := Shut.mk (show ∀ i, i < n → ∀ j, j < (Mth.path (2 * i) n).length → (Mth.path (2 * i) n).getD j 0 < t.length from fun i hi j hj => by have := (path_fresh hn hi hj).2.2; omega)
  have n0 : (1 : Int) ≤ (n : Int) := by omega
  have n1 : (n : Int) ≤ 256 := by omega
  have HFit := Shut.mk hfit
  clear hfit hlen hn ht
  go_enter Tryd.func35, Tryd.ntmps35
  go_wp2_with fail
  (with_reducible refine (HLv.out _ kB).mono ?_); rintro e w1 ⟨rfl, rfl⟩
  go_wp2
  generalize ((w.alloc (.cells #[.slice ta t.length tc] 22)).alloc (.cells #[.bool true] 4)) = wB at kB bT bA ⊢
  go_loopw [8] (fun c wr => ∃ k : Nat, k ≤ n ∧ c = .int .i64 k ∧ Blk wr w.heap.size 22 [.slice ta t.length tc] ∧ Blk wr (w.heap.size + 1) 4 [.bool ((List.range k).all fun i => agF t i true (Mth.path (2 * i) n))] ∧ Kept w wr) (fun c _ => n - (intOf c).toNat)
  case atStart => exact ⟨0, Nat.zero_le _, rfl, bT, bA, kB⟩
  case round =>
    obtain ⟨k, hk, rfl, hbT, hbA, hkw⟩ := hrel
    have hszT := hbA.lt
    by_cases hlt : k < n
    · have k0 : (0 : Int) ≤ (k : Int) := by omega
      have k1 : (k : Int) < (n : Int) := by omega
      have kC : Kept wr ((wr.alloc (.cells #[.int .i64 k] 3)).alloc (.cells #[.bool true] 4)) := ((Kept.refl wr).alloc _).alloc _
      have b4 : Blk ((wr.alloc (.cells #[.int .i64 k] 3)).alloc (.cells #[.bool true] 4)) wr.heap.size 3 [.int .i64 k] := (Blk.new wr [.int .i64 k] 3).kept ((Kept.refl _).alloc _)
      have b5 : Blk ((wr.alloc (.cells #[.int .i64 k] 3)).alloc (.cells #[.bool true] 4)) (wr.heap.size + 1) 4 [.bool true] := by
        have := Blk.new (wr.alloc (.cells #[.int .i64 k] 3)) [.bool true] 4
        rwa [alloc_size] at this
      have c1 := hbT.kept kC
      have c3 := hbA.kept kC
      generalize hacc : ((List.range k).all fun i => agF t i true (Mth.path (2 * i) n)) = acc at hbA c3
      have d1 := hbT.cell 0
      have d4 : ((wr.alloc (.cells #[.int .i64 k] 3)).alloc (.cells #[.bool true] 4)).cell? ⟨w.heap.size, 0, none⟩ = some (.slice ta t.length tc) := by rw [c1.cell 0]; rfl
      simp only [List.getElem?_cons_zero] at d1
      have hab := HAb.out k hlt _ (hkw.trans kC) #[.pointer (some ⟨w.heap.size, 0, none⟩), .pointer (some ⟨wr.heap.size, 0, none⟩), .pointer (some ⟨w.heap.size + 1, 0, none⟩), .pointer (some ⟨wr.heap.size + 1, 0, none⟩)]
        (fun b => b = w.heap.size + 1 ∨ b = wr.heap.size + 1) (AgI (.slice ta t.length tc) t k w.heap.size wr.heap.size (w.heap.size + 1) (wr.heap.size + 1) (Mth.path (2 * k) n) (acc && agF t k true (Mth.path (2 * k) n)) w)
        (fun b h => by have := b5.lt; omega)
        (fun W q => ⟨c1.kept q, b4.kept q, (hkw.trans kC).trans q, acc, true, c3.kept q, b5.kept q, by rw [List.drop_zero]⟩)
        (fun j hj W ⟨q1, q4, qk, a, b, q3, q5, qr⟩ => by
          refine (HAg.out W qk _ (HPf.out k hlt j hj) k _ _ _ _ a b q1 q4 q3 q5 (by omega)).mono ?_
          rintro e W' ⟨rfl, r3, r5, tr⟩
          refine ⟨rfl, ⟨Blk.turn q1 tr (by have := hkw.size; omega), Blk.turn q4 tr (by omega), Turn.keptOf qk tr (fun b hb => by have := hkw.size; omega), _, _, r3, r5, ?_⟩, tr⟩
          rw [qr, List.drop_eq_getElem_cons hj, agF_cons]
          rw [List.getD_eq_getElem?_getD, List.getElem?_eq_getElem hj]; rfl)
      have HAB := Lib.hid hab
      have HAcc := Shut.mk hacc
      clear hab hacc c1 c3 b4 b5 kC
      go_wp2_with fail
      (with_reducible refine HAB.out.mono ?_); rintro e w3 ⟨rfl, ⟨q1, q4, qk, a, b, q3, q5, qr⟩, tr⟩
      have hres : ((List.range (k + 1)).all fun i => agF t i true (Mth.path (2 * i) n)) = a := by
        rw [List.range_succ, List.all_append, HAcc.out]
        show (acc && (agF t k true (Mth.path (2 * k) n) && true)) = a
        rw [Bool.and_true, qr, List.drop_length]
        exact Bool.and_true _
      have HRes := Shut.mk hres
      clear hres qr
      go_wp2
      go_roundw
      case rel => exact ⟨k + 1, hlt, by go_num, q1, by rw [HRes.out]; exact q3, qk⟩
      case measure => simp [intOf]; omega
    · have e : k = n := by omega
      have k9 : ¬ (k : Int) < (n : Int) := by omega
      have d3 := hbA.cell 0
      simp only [List.getElem?_cons_zero] at d3
      have HE := Shut.mk (show ((List.range k).all fun i => agF t i true (Mth.path (2 * i) n)) = agreeB t n by rw [HAl.out, e])
      generalize ((List.range k).all fun i => agF t i true (Mth.path (2 * i) n)) = acc at d3 HE
      clear e
      go_wp2
      go_ret
      exact ⟨by rw [← HE.out]; rfl, hkw⟩
end Go.Proofs.YtlmpejfkpidbeaaDoor
end

section
/- Walks of the program's ratchet: Check, Members, Same. -/
set_option linter.unusedSimpArgs false
set_option linter.unusedVariables false
namespace Go.Proofs.YtlmpejfkpidbeaaDoor
open Go.RowKit
open Rt

theorem fits_un {t : List TN} {n : Nat} (hn : n ∈ Mth.fulls) (hlen : t.length = 2 * n - 1) (h : fitsB t = true) (hun : ∀ d ∈ t, d.un.length ≤ 1000) : ∀ x, x < t.length → (nd t x).kd = 2 → (nd t x).un.Pairwise (· < ·) ∧ (nd t x).un.length ≤ 1000 := by
  intro x hx h2
  have hx2 : x < 2 * n - 1 := by omega
  obtain ⟨a, b, c⟩ := (fit_iff hn hlen hx2).1 (List.all_eq_true.1 h x (List.mem_range.2 hx))
  refine ⟨?_, hun _ (by rw [nd_get hx]; exact List.getElem_mem hx)⟩
  by_cases ho : x % 2 = 0
  · rw [(b (by omega) ho).2]; exact List.Pairwise.nil
  · exact (c (by omega) (by omega)).2.2.2.1
set_option maxHeartbeats 4000000 in
theorem pcheck_any {w : World} {tv : Value} {t : List TN} (ht : RdTs w tv t) (hok : ∀ d ∈ t, TnOk d) (hl : t.length ≤ 1000000) (hun : ∀ d ∈ t, d.un.length ≤ 1000) (hT : Tabs w) :
    Calls Tryd.prog 10 #[tv] w fun e w' => e = .returned (.int .i64 (errI (chkB t))) ∧ Kept w w' := by
  obtain ⟨ta, tc, htv, _, _, _⟩ := ht.len
  subst htv
  have HC := Shut.mk (show chkB t = (shpB t && fitsB t && agreeB t (lvs t.length) && needB t (lvs t.length)) from (pchk_eq t).symm)
  have HS := Lib.hid (pshape_any ht hl)
  cases hs : shpB t with
  | false =>
    rw [hs] at HS HC
    have HF := Shut.mk (show errI (chkB t) = 1 by rw [HC.out]; rfl)
    clear hs HC
    go_enter Tryd.func10, Tryd.ntmps10
    go_wp2_with fail
    (with_reducible refine HS.out.mono ?_); rintro e w1 ⟨rfl, k1⟩
    go_wp2
    go_ret
    exact ⟨by rw [HF.out]; rfl, k1⟩
  | true =>
    rw [hs] at HS HC
    obtain ⟨n, hn, hlen, hll⟩ : ∃ n, n ∈ Mth.fulls ∧ t.length = 2 * n - 1 ∧ lvs t.length = n := by
      rcases lvs_spec t.length with ⟨a, b⟩ | ⟨a, _⟩
      · exact ⟨_, a, b.symm, rfl⟩
      · unfold shpB at hs; rw [a] at hs; cases hs
    rw [hll] at HC
    have HFt := Lib.hid (fun W (k : Kept w W) => pfits_any (ht.kept k) hok hn hlen (hT.kept k))
    have HAg := Lib.hid (fun (hf : fitsB t = true) W (k : Kept w W) => pagree_any (ht.kept k) hn hlen (fits_un hn hlen hf hun) (hT.kept k))
    have HNd := Lib.hid (fun W (k : Kept w W) => pneedsAll_any (ht.kept k) hn hlen)
    clear hs hn hlen hll hok hun ht
    cases hf : fitsB t with
    | false =>
      rw [hf] at HFt HC
      have HF := Shut.mk (show errI (chkB t) = 1 by rw [HC.out]; rfl)
      clear hf HC HAg
      go_enter Tryd.func10, Tryd.ntmps10
      go_wp2_with fail
      (with_reducible refine HS.out.mono ?_); rintro e w1 ⟨rfl, k1⟩
      go_wp2_with fail
      (with_reducible refine (HFt.out _ k1).mono ?_); rintro e w2 ⟨rfl, k2⟩
      go_wp2
      go_ret
      exact ⟨by rw [HF.out]; rfl, k1.trans k2⟩
    | true =>
      have HAg2 := Lib.hid (HAg.out hf)
      rw [hf] at HFt HC
      clear hf HAg
      cases ha : agreeB t n with
      | false =>
        rw [ha] at HAg2 HC
        have HF := Shut.mk (show errI (chkB t) = 1 by rw [HC.out]; rfl)
        clear ha HC
        go_enter Tryd.func10, Tryd.ntmps10
        go_wp2_with fail
        (with_reducible refine HS.out.mono ?_); rintro e w1 ⟨rfl, k1⟩
        go_wp2_with fail
        (with_reducible refine (HFt.out _ k1).mono ?_); rintro e w2 ⟨rfl, q2⟩
        have k2 := k1.trans q2
        go_wp2_with fail
        (with_reducible refine (HAg2.out _ k2).mono ?_); rintro e w3 ⟨rfl, q3⟩
        go_wp2
        go_ret
        exact ⟨by rw [HF.out]; rfl, k2.trans q3⟩
      | true =>
        rw [ha] at HAg2 HC
        have HF := Shut.mk (show errI (chkB t) = errI (needB t n) by rw [HC.out]; rfl)
        clear ha HC
        cases hnb : needB t n with
        | true =>
          rw [hnb] at HNd HF
          go_enter Tryd.func10, Tryd.ntmps10
          go_wp2_with fail
          (with_reducible refine HS.out.mono ?_); rintro e w1 ⟨rfl, k1⟩
          go_wp2_with fail
          (with_reducible refine (HFt.out _ k1).mono ?_); rintro e w2 ⟨rfl, q2⟩
          have k2 := k1.trans q2
          go_wp2_with fail
          (with_reducible refine (HAg2.out _ k2).mono ?_); rintro e w3 ⟨rfl, q3⟩
          have k3 := k2.trans q3
          go_wp2_with fail
          (with_reducible refine (HNd.out _ k3).mono ?_); rintro e w4 ⟨rfl, q4⟩
          go_wp2
          go_ret
          exact ⟨by rw [HF.out]; rfl, k3.trans q4⟩
        | false =>
          rw [hnb] at HNd HF
          go_enter Tryd.func10, Tryd.ntmps10
          go_wp2_with fail
          (with_reducible refine HS.out.mono ?_); rintro e w1 ⟨rfl, k1⟩
          go_wp2_with fail
          (with_reducible refine (HFt.out _ k1).mono ?_); rintro e w2 ⟨rfl, q2⟩
          have k2 := k1.trans q2
          go_wp2_with fail
          (with_reducible refine (HAg2.out _ k2).mono ?_); rintro e w3 ⟨rfl, q3⟩
          have k3 := k2.trans q3
          go_wp2_with fail
          (with_reducible refine (HNd.out _ k3).mono ?_); rintro e w4 ⟨rfl, q4⟩
          go_wp2
          go_ret
          exact ⟨by rw [HF.out]; rfl, k3.trans q4⟩
set_option maxHeartbeats 4000000 in
theorem pMembers_any {w : World} {tv : Value} {t : List TN} (ht : RdTs w tv t) (hok : ∀ d ∈ t, TnOk d) (hl : t.length ≤ 1000000) (hun : ∀ d ∈ t, d.un.length ≤ 1000) (hT : Tabs w) :
    Calls Tryd.prog 15 #[tv] w (MemPost w (memL t)) := by
  have HC := Lib.hid (pcheck_any ht hok hl hun hT)
  have HM := Shut.mk (show memL t = bif chkB t then memK t (lvs t.length) else [] from rfl)
  obtain ⟨ta, tc, htv, _, _, _⟩ := ht.len
  subst htv
  cases hc : chkB t with
  | false =>
    rw [hc] at HC HM
    have HC2 : Hid (Calls Tryd.prog 10 #[.slice ta t.length tc] w fun e w' => e = .returned (.int .i64 1) ∧ Kept w w') := HC
    have HF := Shut.mk (show memL t = [] from HM.out)
    clear hc HC
    go_enter Tryd.func15, Tryd.ntmps15
    go_wp2_with fail
    (with_reducible refine HC2.out.mono ?_); rintro e w1 ⟨rfl, k1⟩
    go_wp2
    go_ret
    exact ⟨_, rfl, by rw [HF.out]; exact OwnI.nil _ _, k1⟩
  | true =>
    rw [hc] at HC HM
    have HC2 : Hid (Calls Tryd.prog 10 #[.slice ta t.length tc] w fun e w' => e = .returned (.int .i64 0) ∧ Kept w w') := HC
    have hm := (chkB_may.1 hc).mn
    have HMe := Lib.hid (fun W (k : Kept w W) => pmembers_any (ht.kept k) hm.hn hm.len)
    have HF := Shut.mk (show memL t = memK t (lvs t.length) from HM.out)
    clear hc HC hm
    go_enter Tryd.func15, Tryd.ntmps15
    go_wp2_with fail
    (with_reducible refine HC2.out.mono ?_); rintro e w1 ⟨rfl, k1⟩
    go_wp2_with fail
    (with_reducible refine (HMe.out _ k1).mono ?_); rintro e w2 ⟨v, rfl, o2, k2⟩
    go_wp2
    go_ret
    exact ⟨_, rfl, by rw [HF.out]; exact Ownv.mono o2 k1.size, k1.trans k2⟩
theorem same_false {a b : List TN} {k : Nat} (hk : k < a.length) (h : sameNB (nd a k) (nd b k) = false) : sameTB a b = false := by
  cases e : sameTB a b with
  | false => rfl
  | true =>
    rw [sameTB_iff.1 e] at h
    have : sameNB (nd b k) (nd b k) = true := sameNB_iff.2 rfl
    rw [this] at h; cases h
set_option maxHeartbeats 4000000 in
set_option maxRecDepth 100000 in
theorem eqfT_any {w : World} {u v : Value} {a b : List TN} (ha : RdTs w u a) (hb : RdTs w v b) :
    Calls Tryd.prog 40 #[u, v, .func (.func 41) #[] #[]] w fun e w' => e = .returned (.bool (sameTB a b)) ∧ Kept w w' := by
  have eg : ∀ args w, (callFunc 41 args).run Tryd.prog w = .ok (.enter 41 args) w := enters_of Tryd.func41 (by kernel_rfl) rfl
  obtain ⟨aa, ac, rfl, a1, a2, a3⟩ := ha.len
  obtain ⟨ba, bc, rfl, b1, b2, b3⟩ := hb.len
  have a63 : ((a.length : Nat) : Int) ≤ 9223372036854775807 := by unfold maxLen at a2; omega
  by_cases hl : a.length = b.length
  · have hd : ((a.length : Int) != (b.length : Int)) = false := by simp [hl]
    have HS := Shut.mk (show (∀ j, j < a.length → sameNB (nd a j) (nd b j) = true) → sameTB a b = true from fun h => sameTB_iff.2 (tn_ext hl fun x hx => sameNB_iff.1 (h x hx)))
    have HL := Shut.mk hl
    rw [← hl] at hb b1 hd ⊢
    clear hl
    go_enter Tryd.func40, Tryd.ntmps40
    go_wp2
    go_loopw [17] (fun i wr => ∃ k : Nat, k ≤ a.length ∧ i = .int .i64 k ∧ (∀ j, j < k → sameNB (nd a j) (nd b j) = true) ∧ Kept w wr) (fun i _ => a.length - (intOf i).toNat)
    case atStart => exact ⟨0, Nat.zero_le _, rfl, fun j hj => absurd hj (Nat.not_lt_zero _), Kept.refl _⟩
    case round =>
      obtain ⟨k, hk0, rfl, hsame, hk⟩ := hrel
      have HA := Shut.mk hsame
      clear hsame
      by_cases hlt : k < a.length
      · obtain ⟨tb, to, tcp, la, lc, hv, hat, hun⟩ := ha.at hlt
        simp only [Value.slice.injEq] at hv
        obtain ⟨rfl, -, rfl⟩ := hv
        have hbb := hb
        rw [show (Value.slice ba a.length bc) = Value.slice ba b.length bc by rw [HL.out]] at hbb
        obtain ⟨sb, so, scp, ma, mc, hv2, hat2, hun2⟩ := hbb.at (k := k) (by have := HL.out; omega)
        simp only [Value.slice.injEq] at hv2
        obtain ⟨rfl, -, rfl⟩ := hv2
        obtain ⟨g0, g1, g2, g3, g4, g5⟩ := hat wr hk
        obtain ⟨s0, s1, s2, s3, s4, s5⟩ := hat2 wr hk
        have s0' := ((hat2 wr hk).kept ((Kept.refl wr).alloc (.cells #[.int .i64 (nd a k).kd, .int .i64 (nd a k).id, .int .i64 (nd a k).enc, .int .i64 (nd a k).sig, .int .i64 (nd a k).hash, .slice la (nd a k).un.length lc] 32)))
        obtain ⟨r0, r1, r2, r3, r4, r5⟩ := s0'
        have HN := Lib.hid (fun W (q : Kept wr W) => psameN_any (w := W) ⟨_, rfl, hun.kept (hk.trans q)⟩ ⟨_, rfl, hun2.kept (hk.trans q)⟩)
        generalize hnn : sameNB (nd a k) (nd b k) = nn at HN
        have HNN := Shut.mk hnn
        have hkk : Kept wr ((wr.alloc (.cells #[.int .i64 (nd a k).kd, .int .i64 (nd a k).id, .int .i64 (nd a k).enc, .int .i64 (nd a k).sig, .int .i64 (nd a k).hash, .slice la (nd a k).un.length lc] 32)).alloc (.cells #[.int .i64 (nd b k).kd, .int .i64 (nd b k).id, .int .i64 (nd b k).enc, .int .i64 (nd b k).sig, .int .i64 (nd b k).hash, .slice ma (nd b k).un.length mc] 32)) := ((Kept.refl wr).alloc _).alloc _
        have k0 : (0 : Int) ≤ (k : Int) := by omega
        have k1 : (k : Int) < (a.length : Int) := by omega
        clear hnn hbb hat hat2 hun hun2
        cases nn with
        | true =>
          go_wp2_with fail
          (with_reducible refine (HN.out _ hkk).mono ?_); rintro e w2 ⟨rfl, q2⟩
          go_wp2
          go_roundw
          case rel => exact ⟨k + 1, hlt, by go_num, fun j hj => by
            by_cases c : j < k
            · exact HA.out j c
            · obtain rfl : j = k := by omega
              exact HNN.out, (hk.trans hkk).trans q2⟩
          case measure => simp [intOf]; omega
        | false =>
          have HR := Shut.mk (same_false hlt HNN.out)
          go_wp2_with fail
          (with_reducible refine (HN.out _ hkk).mono ?_); rintro e w2 ⟨rfl, q2⟩
          go_wp2
          go_ret
          exact ⟨by rw [HR.out]; rfl, (hk.trans hkk).trans q2⟩
      · have e : k = a.length := by omega
        have HR := Shut.mk (HS.out (by rw [← e]; exact HA.out))
        have k9 : ¬ (k : Int) < (a.length : Int) := by omega
        clear e
        go_wp2
        go_ret
        exact ⟨by rw [HR.out]; rfl, hk⟩
  · have hd : ((a.length : Int) != (b.length : Int)) = true := by simp; omega
    have HR := Shut.mk (show sameTB a b = false by
      cases e : sameTB a b with
      | false => rfl
      | true => exact absurd (by rw [sameTB_iff.1 e]) hl)
    clear hl
    go_enter Tryd.func40, Tryd.ntmps40
    go_wp2
    go_ret
    exact ⟨by rw [HR.out]; rfl, Kept.refl _⟩
theorem pSame_any {w : World} {u v : Value} {a b : List TN} (ha : RdTs w u a) (hb : RdTs w v b) : Calls Tryd.prog 12 #[u, v] w fun e w' => e = .returned (.bool (sameTB a b)) ∧ Kept w w' := by
  have HE := Lib.hid (eqfT_any ha hb)
  obtain ⟨aa, ac, rfl, a1, a2, a3⟩ := ha.len
  obtain ⟨ba, bc, rfl, b1, b2, b3⟩ := hb.len
  generalize sameTB a b = s at HE ⊢
  go_enter Tryd.func12, Tryd.ntmps12
  go_wp2_with fail
  (with_reducible refine HE.out.mono ?_); rintro e w1 ⟨rfl, k1⟩
  go_wp2
  go_ret
  exact ⟨rfl, k1⟩
end Go.Proofs.YtlmpejfkpidbeaaDoor
end

section
/- Walks of the program's ratchet: without. -/
set_option linter.unusedSimpArgs false
set_option linter.unusedVariables false
namespace Go.Proofs.YtlmpejfkpidbeaaDoor
open Go.RowKit
open Rt

theorem OwnT.put0 {B g cap : Nat} {w : World} {ds : List TN} {lvs : List Value} (h : OwnT B w (.slice (some ⟨g, 0, none⟩) ds.length cap) ds lvs) {x : Nat} (hx : x < ds.length) : OwnT B (put6 w g (x * 6) tn0 (.slice none 0 0)) (.slice (some ⟨g, 0, none⟩) ds.length cap) (ds.set x tn0) (lvs.set x (.slice none 0 0)) :=
  h.put hx tn0 (.slice none 0 0) (OwnI.nil _ _) (fun i hi hne b hb => by cases hb)
set_option maxHeartbeats 2000000 in
theorem pwo1_any {B g cap bu x : Nat} {W : World} {us : List TN} {lvs : List Value} (ho : OwnT B W (.slice (some ⟨g, 0, none⟩) us.length cap) us lvs) (hb : Blk W bu 22 [.slice (some ⟨g, 0, none⟩) us.length cap]) (hx : x < us.length) (hl : us.length ≤ 600) :
    Calls Tryd.prog 79 #[.int .i64 x, .pointer (some ⟨bu, 0, none⟩)] W fun e w' => e = .returned (.tuple #[]) ∧ w' = put6 W g (x * 6) tn0 (.slice none 0 0) := by
  have d1 := hb.cell 0
  simp only [List.getElem?_cons_zero] at d1
  obtain ⟨lv0, ⟨c0, c1, c2, c3, c4, c5⟩, f⟩ := ho.rowT.cells hx
  have f0 := f (x * 6)
  have f1 := f (x * 6 + 1)
  have f2 := f (x * 6 + 2)
  have f3 := f (x * 6 + 3)
  have f4 := f (x * 6 + 4)
  have f5 := f (x * 6 + 5)
  have x0 : (0 : Int) ≤ (x : Int) := by omega
  have x1 : (x : Int) < (us.length : Int) := by omega
  have x2 : (us.length : Int) ≤ 600 := by omega
  clear f ho hb
  go_enter Tryd.func79, Tryd.ntmps79
  go_wp2
  go_end0
  exact ⟨rfl, rfl⟩
/-- Behind the first j of a leaf's path, all of them blank. -/
def WoI (B g cap bu : Nat) (t : List TN) (i : Nat) (p : List Nat) (w : World) (j : Nat) (W : World) : Prop :=
  ∃ us lvs, OwnT B W (.slice (some ⟨g, 0, none⟩) t.length cap) us lvs ∧ us.length = t.length ∧ (∀ x, x < t.length → nd us x = if x ∈ p.take j ∨ x = 2 * i then tn0 else nd t x) ∧ Blk W bu 22 [.slice (some ⟨g, 0, none⟩) t.length cap] ∧ Kept w W
def WoPost (w : World) (t : List TN) (i : Int) (e : Ending) (w' : World) : Prop :=
  ∃ v lvs, e = .returned (.tuple #[v, .int .i64 (thI t i)]) ∧ OwnT w.heap.size w' v (bif decide (thI t i = 0) then blkT t i.toNat else []) lvs ∧ Kept w w'
theorem WoI.blk {B g cap bu i n : Nat} {t : List TN} {w W : World} (hn : n ∈ Mth.fulls) (hlen : t.length = 2 * n - 1) (hi : i < n) (h : WoI B g cap bu t i (Mth.path (2 * i) n) w (Mth.path (2 * i) n).length W) :
    ∃ lvs, OwnT B W (.slice (some ⟨g, 0, none⟩) t.length cap) (blkT t i) lvs ∧ Blk W bu 22 [.slice (some ⟨g, 0, none⟩) t.length cap] ∧ Kept w W := by
  obtain ⟨us, lvs, ho, hul, hus, hb, hk⟩ := h
  rw [List.take_length] at hus
  have e : us = blkT t i := by
    unfold blkT
    refine tn_ext (by rw [tab_len]; exact hul) fun x hx => ?_
    rw [hul] at hx
    have hnb := fulls_bd hn
    have hpm := path_mem (x := x) hn hi (by omega)
    rw [hus x hx, tab_nd hx]
    unfold updG blkG
    by_cases c : x = 2 * i
    · rw [if_pos (.inr c), if_pos c]
    · rw [if_neg c]
      cases hh : Mth.hasB x i with
      | true => rw [if_pos (.inl (hpm.2 ⟨hh, c⟩))]; rfl
      | false => rw [if_neg (fun q => q.elim (fun q => by rw [(hpm.1 q).1] at hh; cases hh) c)]; rfl
  exact ⟨lvs, by rw [← e]; exact ho, hb, hk⟩
set_option maxHeartbeats 8000000 in
set_option maxRecDepth 100000 in
theorem pwithout_any {w : World} {tv : Value} {t : List TN} (ht : RdTs w tv t) (hok : ∀ d ∈ t, TnOk d) (hl : t.length ≤ 1000000) (hun : ∀ d ∈ t, d.un.length ≤ 1000) (hT : Tabs w) (i : Int) (hi : I64 i) :
    Calls Tryd.prog 56 #[tv, .int .i64 i] w (WoPost w t i) := by
  have HC := Lib.hid (pcheck_any ht hok hl hun hT)
  have HT := Shut.mk (show thI t i = bif chkB t then (bif decide (i < 0) || decide ((lvs t.length : Int) ≤ i) || !lk t i.toNat then 4 else 0) else 1 from rfl)
  obtain ⟨ta, tc, htv, _, _, _⟩ := ht.len
  subst htv
  obtain ⟨i0, i1⟩ := hi
  have HE : ∀ k : Int, k ≠ 0 → thI t i = k → Shut ((∀ w', Kept w w' → WoPost w t i (.returned (.tuple #[.slice none 0 0, .int .i64 k])) w')) := fun k h0 h => ⟨fun w' hk => ⟨_, [], by rw [h], by rw [h, decide_eq_false h0]; exact OwnT.nil _ _, hk⟩⟩
  cases hc : chkB t with
  | false =>
    rw [hc] at HC HT
    have HC2 : Hid (Calls Tryd.prog 10 #[.slice ta t.length tc] w fun e w' => e = .returned (.int .i64 1) ∧ Kept w w') := HC
    have HF := HE 1 (by decide) HT.out
    clear hc HC HE
    go_enter Tryd.func56, Tryd.ntmps56
    go_wp2_with fail
    (with_reducible refine HC2.out.mono ?_); rintro e w1 ⟨rfl, k1⟩
    go_wp2
    go_ret2
    exact HF.out _ k1
  | true =>
    rw [hc] at HC HT
    have HC2 : Hid (Calls Tryd.prog 10 #[.slice ta t.length tc] w fun e w' => e = .returned (.int .i64 0) ∧ Kept w w') := HC
    have hm := (chkB_may.1 hc).mn
    generalize lvs t.length = n at HT hm
    have hnb := fulls_bd hm.hn
    have HM := Lib.hid hm
    have HLv := Lib.hid (fun W (k : Kept w W) => pleaves_of (ht.kept k) hm.hn hm.len)
    have HNL := Shut.mk hm.len
    have t63 : (t.length : Int) ≤ 511 := by have := hm.len; omega
    clear hc HC hm
    by_cases c1 : i < 0
    · have d1 : decide (i < 0) = true := decide_eq_true c1
      have HF := HE 4 (by decide) (by rw [HT.out, d1]; rfl)
      clear HE
      go_enter Tryd.func56, Tryd.ntmps56
      go_wp2_with fail
      (with_reducible refine HC2.out.mono ?_); rintro e w1 ⟨rfl, k1⟩
      go_wp2
      go_ret2
      exact HF.out _ k1
    · have d1 : decide (i < 0) = false := decide_eq_false c1
      by_cases c2 : (n : Int) ≤ i
      · have d2 : decide ((n : Int) ≤ i) = true := decide_eq_true c2
        have HF := HE 4 (by decide) (by rw [HT.out, d1, d2]; rfl)
        clear HE
        go_enter Tryd.func56, Tryd.ntmps56
        go_wp2_with fail
        (with_reducible refine HC2.out.mono ?_); rintro e w1 ⟨rfl, k1⟩
        go_wp2_with fail
        (with_reducible refine (HLv.out _ k1).mono ?_); rintro e w2 ⟨rfl, rfl⟩
        go_wp2
        go_ret2
        exact HF.out _ k1
      · have d2 : decide ((n : Int) ≤ i) = false := decide_eq_false c2
        obtain ⟨j, rfl⟩ : ∃ j : Nat, i = j := ⟨i.toNat, by omega⟩
        have HT2 := Shut.mk (show thI t j = bif !lk t j then 4 else 0 by rw [HT.out, d1, d2]; rfl)
        have hjn : j < n := by omega
        have hj9 : 2 * j < t.length := by have := HNL.out; omega
        obtain ⟨zb, zo, zc, za, zcc, hzv, hzat, hzun⟩ := ht.at (k := 2 * j) hj9
        simp only [Value.slice.injEq] at hzv
        obtain ⟨rfl, -, rfl⟩ := hzv
        have HAt := Lib.hid (fun W k => (hzat W k).1)
        have hk0 : ((nd t (2 * j)).kd == 0) = !lk t j := by
          rcases lk_leaf HM.out hjn with h | ⟨h, h0⟩
          · rw [h]
            unfold lk at h
            rw [of_decide_eq_true h]; rfl
          · rw [h, h0]; rfl
        have j1 : 2 * (j : Int) < (t.length : Int) := by omega
        have j0 : (0 : Int) ≤ (j : Int) := by omega
        clear hzat
        cases hk : lk t j with
        | false =>
          rw [hk] at hk0
          have HF := HE 4 (by decide) (by rw [HT2.out, hk]; rfl)
          generalize (nd t (2 * j)).kd = kd at HAt hk0
          clear HE
          have hk0 : (kd == 0) = true := hk0
          clear hk
          go_enter Tryd.func56, Tryd.ntmps56
          go_wp2_with fail
          (with_reducible refine HC2.out.mono ?_); rintro e w1 ⟨rfl, k1⟩
          have g0 := HAt.out _ k1
          go_wp2_with fail
          (with_reducible refine (HLv.out _ k1).mono ?_); rintro e w2 ⟨rfl, rfl⟩
          go_wp2
          go_ret2
          exact HF.out _ k1
        | true =>
          rw [hk] at hk0
          have HF := Shut.mk (show thI t j = 0 by rw [HT2.out, hk]; rfl)
          generalize (nd t (2 * j)).kd = kd at HAt hk0
          have hk0 : (kd == 0) = false := hk0
          have HOw := Lib.hid (fun W (k : Kept w W) => powns_any (ht.kept k) (by omega) hun)
          have HAb := Lib.hid (fun (W : World) (tv' : Value) (us : List TN) (hr : RdTs W tv' us) (hul : us.length = t.length) (hT' : Tabs W) (caps : Array Value) (F : Nat → Prop) (I : Nat → World → Prop) => pabove_any (caps := caps) (F := F) (I := I) hr HM.out.hn (hul.trans HNL.out) hjn hT' (enters_of Tryd.func79 (by kernel_rfl) rfl))
          have HPf := Shut.mk (show ∀ k, k < (Mth.path (2 * j) n).length → (Mth.path (2 * j) n).getD k 0 < t.length from fun k hk => by have := (path_fresh HM.out.hn hjn hk).2.2; have := HNL.out; omega)
          clear hk HE HT HT2 hun hok
          go_enter Tryd.func56, Tryd.ntmps56
          go_wp2_with fail
          (with_reducible refine HC2.out.mono ?_); rintro e w1 ⟨rfl, k1⟩
          have g0 := HAt.out _ k1
          go_wp2_with fail
          (with_reducible refine (HLv.out _ k1).mono ?_); rintro e w2 ⟨rfl, rfl⟩
          go_wp2_with fail
          (with_reducible refine (HOw.out _ k1).mono ?_); rintro e w3 ⟨v, lvs, rfl, ho, q3⟩
          have k3 := k1.trans q3
          have ho := ho
          obtain ⟨g, cap, rfl, hg1, hg2, _, _⟩ := ho.row.addr0 (by rw [tflat_length]; omega)
          have kx : Kept w3 (w3.alloc (.cells #[.slice (some ⟨g, 0, none⟩) t.length cap] 22)) := (Kept.refl w3).alloc _
          have bU : Blk (w3.alloc (.cells #[.slice (some ⟨g, 0, none⟩) t.length cap] 22)) w3.heap.size 22 [.slice (some ⟨g, 0, none⟩) t.length cap] := Blk.new w3 [.slice (some ⟨g, 0, none⟩) t.length cap] 22
          have hne : g ≠ w3.heap.size := by omega
          go_upto_region 6 with fail
          generalize (w3.alloc (.cells #[.slice (some ⟨g, 0, none⟩) t.length cap] 22)) = wX at kx bU ⊢
          have hox := ho.kept kx
          obtain ⟨lv0, ⟨s0, s1, s2, s3, s4, s5⟩, f⟩ := hox.rowT.cells hj9
          have f0 := f (2 * j * 6)
          have f1 := f (2 * j * 6 + 1)
          have f2 := f (2 * j * 6 + 2)
          have f3 := f (2 * j * 6 + 3)
          have f4 := f (2 * j * 6 + 4)
          have f5 := f (2 * j * 6 + 5)
          have hput := hox.put0 hj9
          have bU2 := Blk.turn bU (put6_turn wX g (2 * j * 6) tn0 (.slice none 0 0)) (fun e => hne e.symm)
          have kp : Kept w (put6 wX g (2 * j * 6) tn0 (.slice none 0 0)) := Turn.keptOf (k3.trans kx) (put6_turn _ _ _ _ _) (fun b e => by have := k1.size; omega)
          have hab := HAb.out _ _ _ hput.rd (by rw [List.length_set]) (hT.kept kp) #[.pointer (some ⟨w3.heap.size, 0, none⟩)] (fun b => b = g) (WoI w.heap.size g cap w3.heap.size t j (Mth.path (2 * j) n) w)
            (fun b e => by rw [e]; exact (OwnT.lt hput (b := g) rfl).1)
            (fun W q => ⟨_, _, ⟨Ownv.mono (hput.kept q).row k1.size, hput.len, fun a ha => Ownv.mono ((hput.kept q).un a ha) k1.size, hput.apart⟩, List.length_set, fun x hx => by
              rw [nd_set hj9, List.take_zero]
              by_cases c : x = 2 * j
              · rw [if_pos c, if_pos (.inr c)]
              · rw [if_neg c, if_neg (fun q => q.elim (fun q => List.not_mem_nil q) c)], bU2.kept q, kp.trans q⟩)
            (fun k hk W ⟨us, ls, ho, hul, hus, hbu, hkw⟩ => by
              have hx := HPf.out k hk
              rw [← hul] at ho hbu hx
              refine (pwo1_any ho hbu hx (by omega)).mono ?_
              rintro e W' ⟨rfl, rfl⟩
              have tr := put6_turn W g ((Mth.path (2 * j) n).getD k 0 * 6) tn0 (.slice none 0 0)
              have hp0 := ho.put0 hx
              rw [hul] at hp0 hbu
              refine ⟨rfl, ⟨_, _, hp0, by rw [List.length_set]; exact hul, fun x hx' => ?_, Blk.turn hbu tr (fun e => hne e.symm), Turn.keptOf hkw tr (fun b e => by have := k1.size; omega)⟩, tr⟩
              rw [nd_set hx, takeN_snoc hk]
              by_cases c : x = (Mth.path (2 * j) n).getD k 0
              · rw [if_pos c, if_pos (.inl (by rw [c]; simp))]
              · rw [if_neg c, hus x hx']
                by_cases c2 : x ∈ (Mth.path (2 * j) n).take k ∨ x = 2 * j
                · rw [if_pos c2, if_pos (c2.imp (fun h => List.mem_append_left _ h) id)]
                · rw [if_neg c2, if_neg (fun h => c2 (h.imp (fun h => (List.mem_append.1 h).elim id (fun h => absurd (List.mem_singleton.1 h) c)) id))])
          try simp only [List.length_set] at hab
          unfold put6 at hab
          dsimp only [tn0] at hab
          have HAB := Lib.hid hab
          have d1 := bU.cell 0
          simp only [List.getElem?_cons_zero] at d1
          have d2 := bU2.cell 0
          simp only [List.getElem?_cons_zero] at d2
          unfold put6 at d2
          dsimp only [tn0] at d2
          clear hab f hput bU2 kp hox kx bU ho
          go_wp2_with fail
          (with_reducible refine HAB.out.mono ?_); rintro e w5 ⟨rfl, hI, htr⟩
          obtain ⟨ls, ho5, hb5, k5⟩ := WoI.blk HM.out.hn HNL.out hjn hI
          have d5 := hb5.cell 0
          simp only [List.getElem?_cons_zero] at d5
          clear hI
          go_wp2
          go_ret2
          exact ⟨_, ls, by rw [HF.out]; rfl, by rw [HF.out]; exact ho5, k5⟩
end Go.Proofs.YtlmpejfkpidbeaaDoor
end

section
/- Walks of the program's ratchet: New, Update, Remove. -/
set_option linter.unusedSimpArgs false
set_option linter.unusedVariables false
namespace Go.Proofs.YtlmpejfkpidbeaaDoor
open Go.RowKit
open Rt

/-- v is a row of nodes of the call's own (its cells may be written). -/
def Row0 (B : Nat) (w : World) (v : Value) (n : Nat) : Prop :=
  (v = .slice none 0 0 ∧ n = 0) ∨ ∃ g cap cur, v = .slice (some ⟨g, 0, none⟩) n cap ∧ B ≤ g ∧ w.heap[g]? = some (.cells cur 32 (0, 0)) ∧ n * 6 ≤ cur.size
theorem Ownv.row0 {B n : Nat} {w : World} {v : Value} {xs : List Value} (h : Ownv B 32 6 w v n xs) : Row0 B w v n := by
  obtain ⟨h1, h2⟩ := h
  rcases h2 with ⟨rfl, hx⟩ | ⟨g, cap, cur, rfl, hb, hg, hn, hm, hs, ht⟩
  · exact .inl ⟨rfl, hx⟩
  · exact .inr ⟨g, cap, cur, rfl, hb, hg, by rw [hs]; exact Nat.mul_le_mul_right _ hn⟩
theorem Row0.mono {B B' n : Nat} {w : World} {v : Value} (h : Row0 B w v n) (k : B' ≤ B) : Row0 B' w v n := by
  rcases h with h | ⟨g, cap, cur, h1, h2, h3⟩
  · exact .inl h
  · exact .inr ⟨g, cap, cur, h1, Nat.le_trans k h2, h3⟩
theorem Row0.nil (B : Nat) (w : World) : Row0 B w (.slice none 0 0) 0 := .inl ⟨rfl, rfl⟩
theorem Row0.kept {B n : Nat} {w w' : World} {v : Value} (h : Row0 B w v n) (k : Kept w w') : Row0 B w' v n := by
  rcases h with h | ⟨g, cap, cur, h1, h2, h3, h4⟩
  · exact .inl h
  · exact .inr ⟨g, cap, cur, h1, h2, by rw [k.block g (Array.getElem?_eq_some_iff.1 h3).1]; exact h3, h4⟩
/-- What a call leaves that answers a tree of its own, or an error. -/
def PTree (w : World) (ts : List TN) (er : Int) (e : Ending) (w' : World) : Prop := ∃ v, e = .returned (.tuple #[v, .int .i64 er]) ∧ RdTs w' v ts ∧ Row0 w.heap.size w' v ts.length ∧ Kept w w'
theorem RdTs.cap {w : World} {a : Option Addr} {n c c' : Nat} {ds : List TN} (h : RdTs w (.slice a n c) ds) (h1 : ds.length ≤ c') (h2 : c' ≤ maxLen) (h3 : a ≠ none) : RdTs w (.slice a n c') ds := by
  obtain ⟨lvs, hl, ⟨a', cap, hv, r1, r2, r3, r4, r5⟩, hu⟩ := h
  simp only [Value.slice.injEq] at hv
  obtain ⟨rfl, rfl, rfl⟩ := hv
  exact ⟨lvs, hl, ⟨a, c', rfl, r1, h1, h2, fun e => absurd e h3, r5⟩, hu⟩
set_option maxHeartbeats 4000000 in
theorem pnew_any {w : World} {v : Value} {d : TN} (h : RdTn w v d) (hl : d.un.length ≤ 1000) : Calls Tryd.prog 21 #[v] w (PTree w (bif leafB d then [d] else []) (errI (leafB d))) := by
  obtain ⟨lv, rfl, hr⟩ := h
  obtain ⟨ua, uc, rfl, _, _, _⟩ := hr.len
  have ka : Kept w (w.alloc (.cells #[.int .i64 d.kd, .int .i64 d.id, .int .i64 d.enc, .int .i64 d.sig, .int .i64 d.hash, .slice ua d.un.length uc] 32)) := (Kept.refl w).alloc _
  have HLf := Lib.hid (pleaf_any (w := w.alloc (.cells #[.int .i64 d.kd, .int .i64 d.id, .int .i64 d.enc, .int .i64 d.sig, .int .i64 d.hash, .slice ua d.un.length uc] 32)) (d := d) ⟨_, rfl, hr.kept ka⟩)
  have HOw := Lib.hid (fun W (k : Kept w W) => pown_any (w := W) (d := d) ⟨_, rfl, hr.kept k⟩ hl)
  have bX : Blk (w.alloc (.cells #[.int .i64 d.kd, .int .i64 d.id, .int .i64 d.enc, .int .i64 d.sig, .int .i64 d.hash, .slice ua d.un.length uc] 32)) w.heap.size 32 [.int .i64 d.kd, .int .i64 d.id, .int .i64 d.enc, .int .i64 d.sig, .int .i64 d.hash, .slice ua d.un.length uc] := Blk.new _ _ _
  cases hlf : leafB d with
  | false =>
    rw [hlf] at HLf
    clear hlf
    go_enter Tryd.func21, Tryd.ntmps21
    go_wp2_with fail
    (with_reducible refine HLf.out.mono ?_); rintro e w1 ⟨rfl, k1⟩
    go_wp2
    go_ret2
    exact ⟨_, rfl, RdTs.nil _, Row0.nil _ _, ka.trans k1⟩
  | true =>
    rw [hlf] at HLf
    clear hlf
    go_enter Tryd.func21, Tryd.ntmps21
    go_wp2_with fail
    (with_reducible refine HLf.out.mono ?_); rintro e w1 ⟨rfl, k1⟩
    have b1 := bX.kept k1
    have c0 := b1.cell 0
    have c1 := b1.cell 1
    have c2 := b1.cell 2
    have c3 := b1.cell 3
    have c4 := b1.cell 4
    have c5 := b1.cell 5
    simp only [List.getElem?_cons_zero, List.getElem?_cons_succ] at c0 c1 c2 c3 c4 c5
    have kw := ka.trans k1
    go_wp2_with fail
    (with_reducible refine (HOw.out _ kw).mono ?_); rintro e w2 ⟨lv, rfl, o2, k2⟩
    have hsz := (kw.trans k2).size
    have hrd : RdTs (w2.alloc (.cells #[.int .i64 d.kd, .int .i64 d.id, .int .i64 d.enc, .int .i64 d.sig, .int .i64 d.hash, lv] 32)) (.slice (some ⟨w2.heap.size, 0, none⟩) 1 1) [d] :=
      ⟨[lv], rfl, RdvBlk (Blk.new w2 (tnCells d lv) 32) rfl (by unfold maxLen; decide), fun i hi => by
        obtain rfl : i = 0 := by simpa using hi
        exact (OwnI.rd o2).kept ((Kept.refl _).alloc _)⟩
    have hr0 : Row0 w.heap.size (w2.alloc (.cells #[.int .i64 d.kd, .int .i64 d.id, .int .i64 d.enc, .int .i64 d.sig, .int .i64 d.hash, lv] 32)) (.slice (some ⟨w2.heap.size, 0, none⟩) 1 1) 1 := .inr ⟨_, _, _, rfl, hsz, heap_alloc_new w2 _, by simp⟩
    obtain ⟨la, lc, rfl, _, _, _⟩ := (OwnI.rd o2).len
    go_wp2
    go_ret2
    exact ⟨_, rfl, hrd, hr0, (kw.trans k2).alloc _⟩
theorem blkT_len (t : List TN) (i : Nat) : (blkT t i).length = t.length := tab_len _ _
theorem blkT_set {t : List TN} {n i : Nat} {l : TN} (m : MayN t n) (hi : i < n) : (blkT t i).set (2 * i) l = tab t.length (updG t i l) := by
  have hb := fulls_bd m.hn
  have hlen := m.len
  refine tn_ext (by rw [List.length_set, blkT_len, tab_len]) fun x hx => ?_
  rw [List.length_set, blkT_len] at hx
  rw [nd_set (by rw [blkT_len]; omega), tab_nd hx]
  unfold blkT
  rw [tab_nd hx]
  unfold updG
  by_cases c : x = 2 * i
  · rw [if_pos c, if_pos c]
  · rw [if_neg c, if_neg c, if_neg c]
set_option maxHeartbeats 8000000 in
set_option maxRecDepth 100000 in
theorem pupdate_any {w : World} {tv lv : Value} {t : List TN} {l : TN} (ht : RdTs w tv t) (hok : ∀ d ∈ t, TnOk d) (hl : t.length ≤ 1000000) (hun : ∀ d ∈ t, d.un.length ≤ 1000) (hT : Tabs w) (hll : RdTn w lv l) (hlu : l.un.length ≤ 1000) (i : Int) (hi : I64 i) :
    Calls Tryd.prog 25 #[tv, .int .i64 i, lv] w (PTree w (updT t i l) (updE t i l)) := by
  obtain ⟨yv, rfl, hr⟩ := hll
  obtain ⟨ua, uc, rfl, _, _, _⟩ := hr.len
  have ka : Kept w (w.alloc (.cells #[.int .i64 l.kd, .int .i64 l.id, .int .i64 l.enc, .int .i64 l.sig, .int .i64 l.hash, .slice ua l.un.length uc] 32)) := (Kept.refl w).alloc _
  have HLf := Lib.hid (pleaf_any (w := w.alloc (.cells #[.int .i64 l.kd, .int .i64 l.id, .int .i64 l.enc, .int .i64 l.sig, .int .i64 l.hash, .slice ua l.un.length uc] 32)) (d := l) ⟨_, rfl, hr.kept ka⟩)
  have HOw := Lib.hid (fun W (k : Kept w W) => pown_any (w := W) (d := l) ⟨_, rfl, hr.kept k⟩ hlu)
  have HWo := Lib.hid (fun W (k : Kept w W) => pwithout_any (ht.kept k) hok hl hun (hT.kept k) i hi)
  have bX : Blk (w.alloc (.cells #[.int .i64 l.kd, .int .i64 l.id, .int .i64 l.enc, .int .i64 l.sig, .int .i64 l.hash, .slice ua l.un.length uc] 32)) w.heap.size 32 [.int .i64 l.kd, .int .i64 l.id, .int .i64 l.enc, .int .i64 l.sig, .int .i64 l.hash, .slice ua l.un.length uc] := Blk.new _ _ _
  have HE := Shut.mk (show updE t i l = bif leafB l then thI t i else 1 from rfl)
  have HT := Shut.mk (show updT t i l = bif leafB l && decide (thI t i = 0) then tab t.length (updG t i.toNat l) else [] from rfl)
  obtain ⟨ta, tc, htv, _, _, _⟩ := ht.len
  subst htv
  cases hlf : leafB l with
  | false =>
    rw [hlf] at HLf HE HT
    have HE2 := Shut.mk (show updE t i l = 1 from HE.out)
    have HT2 := Shut.mk (show updT t i l = [] from HT.out)
    clear hlf
    go_enter Tryd.func25, Tryd.ntmps25
    go_wp2_with fail
    (with_reducible refine HLf.out.mono ?_); rintro e w1 ⟨rfl, k1⟩
    go_wp2
    go_ret2
    exact ⟨_, by rw [HE2.out]; rfl, by rw [HT2.out]; exact RdTs.nil _, by rw [HT2.out]; exact Row0.nil _ _, ka.trans k1⟩
  | true =>
    rw [hlf] at HLf HE HT
    have HE2 := Shut.mk (show updE t i l = thI t i from HE.out)
    have HT2 := Shut.mk (show updT t i l = bif decide (thI t i = 0) then tab t.length (updG t i.toNat l) else [] from HT.out)
    have HD := Shut.mk (show thI t i = 0 → ∃ (n j : Nat), i = (j : Int) ∧ j < n ∧ MayN t n from fun h => by obtain ⟨n, j, a, b, c, _⟩ := thI_ok h; exact ⟨n, j, a, b, c.mn⟩)
    clear hlf HE HT
    unfold WoPost at HWo
    generalize thI t i = th at HWo HE2 HT2 HD
    by_cases h0 : th = 0
    · subst h0
      obtain ⟨n, j, rfl, hj, hm⟩ := HD.out rfl
      have hjx : 2 * j < t.length := by have := hm.len; omega
      have t63 : (t.length : Int) ≤ 511 := by have := hm.len; have := fulls_bd hm.hn; omega
      have HT3 := Shut.mk (show updT t j l = (blkT t j).set (2 * j) l from by rw [HT2.out, blkT_set hm hj]; rfl)
      have hj0 : (0 : Int) ≤ (j : Int) := by omega
      have hj2 : 2 * (j : Int) < (t.length : Int) := by omega
      have hj1 : (j : Int) ≤ 255 := by omega
      have HBl := Shut.mk (blkT_len t j)
      clear hm HD HT2
      go_enter Tryd.func25, Tryd.ntmps25
      go_wp2_with fail
      (with_reducible refine HLf.out.mono ?_); rintro e w1 ⟨rfl, k1⟩
      have k2 := ka.trans k1
      go_wp2_with fail
      (with_reducible refine (HWo.out _ k2).mono ?_); rintro e w3 ⟨v, lvs, rfl, ho, q3⟩
      have ho : OwnT w1.heap.size w3 v (blkT t j) lvs := ho
      have k3 := k2.trans q3
      obtain ⟨g, cap, rfl, hg1, hg2, _, _⟩ := ho.row.addr0 (by rw [tflat_length, HBl.out]; omega)
      have b3 := bX.kept (k1.trans q3)
      have c0 := b3.cell 0
      have c1 := b3.cell 1
      have c2 := b3.cell 2
      have c3 := b3.cell 3
      have c4 := b3.cell 4
      have c5 := b3.cell 5
      simp only [List.getElem?_cons_zero, List.getElem?_cons_succ] at c0 c1 c2 c3 c4 c5
      have HO := Lib.hid ho
      clear ho
      rw [HBl.out]
      go_wp2_with fail
      (with_reducible refine (HOw.out _ k3).mono ?_); rintro e w4 ⟨nv, rfl, o4, q4⟩
      have k4 := k3.trans q4
      have ho4 := HO.out.kept q4
      have hx : 2 * j < (blkT t j).length := by rw [HBl.out]; exact hjx
      obtain ⟨lv0, ⟨s0, s1, s2, s3, s4, s5⟩, f⟩ := ho4.rowT.cells hx
      have f0 := f (2 * j * 6)
      have f1 := f (2 * j * 6 + 1)
      have f2 := f (2 * j * 6 + 2)
      have f3 := f (2 * j * 6 + 3)
      have f4 := f (2 * j * 6 + 4)
      have f5 := f (2 * j * 6 + 5)
      obtain ⟨na, nc, rfl, _, _, _⟩ := (OwnI.rd o4).len
      have hput := ho4.put hx l (.slice na l.un.length nc) (Ownv.mono o4 q3.size) (fun a ha _ b hb hb2 => by
        have h1 := (Ownv.lt o4 hb).2
        have h2 := (Ownv.lt (HO.out.un a ha) hb2).1
        omega)
      have hrow := Ownv.row0 (Ownv.mono hput.row k2.size)
      have hrd := hput.rd
      rw [← HT3.out] at hrd hrow
      have HU := Shut.mk (show (updT t j l).length = t.length by rw [HT3.out, List.length_set, HBl.out])
      rw [HBl.out] at hrd hrow
      have HRd := Lib.hid hrd
      have HRow := Lib.hid hrow
      have HTn := Shut.mk (put6_turn w4 g (2 * j * 6) l (.slice na l.un.length nc))
      clear hput ho4 f hrd hrow
      go_wp2
      go_ret2
      exact ⟨_, by rw [HE2.out]; rfl, HRd.out, HRow.out, Turn.keptOf k4 HTn.out (fun b e => by have := k2.size; omega)⟩
    · have hne : (th != 0) = true := by simpa using h0
      have HT3 := Shut.mk (show updT t i l = [] by rw [HT2.out, decide_eq_false h0]; rfl)
      have HWo2 := Lib.hid (fun W k => (HWo.out W k).mono (fun e w' (h : _) => (show ∃ v, e = .returned (.tuple #[v, .int .i64 th]) ∧ Kept W w' from by obtain ⟨v, lvs, h1, h2, h3⟩ := h; exact ⟨v, h1, h3⟩)))
      clear h0 HD HWo HT2
      go_enter Tryd.func25, Tryd.ntmps25
      go_wp2_with fail
      (with_reducible refine HLf.out.mono ?_); rintro e w1 ⟨rfl, k1⟩
      have k2 := ka.trans k1
      go_wp2_with fail
      (with_reducible refine (HWo2.out _ k2).mono ?_); rintro e w2 ⟨v, rfl, k3⟩
      go_wp2
      go_ret2
      exact ⟨_, by rw [HE2.out]; rfl, by rw [HT3.out]; exact RdTs.nil _, by rw [HT3.out]; exact Row0.nil _ _, k2.trans k3⟩
end Go.Proofs.YtlmpejfkpidbeaaDoor
end

section
/- Walks of the program's ratchet: Remove. -/
set_option linter.unusedSimpArgs false
set_option linter.unusedVariables false
namespace Go.Proofs.YtlmpejfkpidbeaaDoor
open Go.RowKit
open Rt

theorem Row0.take {B n k c : Nat} {w : World} {g cap : Nat} (h : Row0 B w (.slice (some ⟨g, 0, none⟩) n cap) n) (hk : k ≤ n) : Row0 B w (.slice (some ⟨g, 0, none⟩) k c) k := by
  rcases h with ⟨h, _⟩ | ⟨g', cap', cur, h1, h2, h3, h4⟩
  · cases h
  · simp only [Value.slice.injEq, Option.some.injEq, Addr.mk.injEq] at h1
    obtain ⟨⟨rfl, _⟩, _, _⟩ := h1
    exact .inr ⟨_, _, cur, rfl, h2, h3, Nat.le_trans (Nat.mul_le_mul_right _ hk) h4⟩
theorem rem_parts {t : List TN} {n j : Nat} (m : MayN t n) (hj : j < n) (hth : thI t j = 0) :
    (ndd (memK (blkT t j) n) = 0 ∧ remE t j = 1 ∧ remT t j = []) ∨ ∃ q, ndd (memK (blkT t j) n) = q ∧ q ∈ Mth.fulls ∧ q ≤ n ∧ remE t j = 0 ∧ remT t j = (blkT t j).take (2 * q - 1) := by
  have hll := lvs_of m.hn
  rw [← m.len] at hll
  have hE : remE t j = errI (someB (blkT t j) 0 n) := by
    unfold remE; rw [decide_eq_true hth, hll]; rfl
  have hTr : remT t j = bif someB (blkT t j) 0 n then truncF 9 (blkT t j) n else [] := by
    unfold remT; rw [decide_eq_true hth, hll]; rfl
  have hb := fulls_bd m.hn
  rcases mem_last (blkT t j) n with ⟨h1, h2⟩ | ⟨L, h1, h2, h3, h4, h5⟩
  · have hs : someB (blkT t j) 0 n = false := by
      cases e : someB (blkT t j) 0 n with
      | false => rfl
      | true =>
        obtain ⟨i, _, a, b⟩ := someB_true.1 e
        rw [h2 i a] at b; cases b
    exact .inl ⟨by rw [h1]; rfl, by rw [hE, hs]; rfl, by rw [hTr, hs]; rfl⟩
  · have hs : someB (blkT t j) 0 n = true := someB_true.2 ⟨L, Nat.zero_le _, h1, h2⟩
    obtain ⟨k1, k2, k3⟩ := trunc_take 9 (blkT t j) n L m.hn (by rw [blkT_len]; exact m.len) h1 h2 h3 (by omega)
    refine .inr ⟨Mth.size (L + 1), ?_, k3, k2, by rw [hE, hs]; rfl, by rw [hTr, hs]; exact k1⟩
    unfold ndd
    rw [nbeq_false (by omega), h5, Int.toNat_natCast]; rfl
set_option maxHeartbeats 8000000 in
set_option maxRecDepth 100000 in
theorem premove_any {w : World} {tv : Value} {t : List TN} (ht : RdTs w tv t) (hok : ∀ d ∈ t, TnOk d) (hl : t.length ≤ 1000000) (hun : ∀ d ∈ t, d.un.length ≤ 1000) (hT : Tabs w) (i : Int) (hi : I64 i) :
    Calls Tryd.prog 23 #[tv, .int .i64 i] w (PTree w (remT t i) (remE t i)) := by
  have HWo := Lib.hid (pwithout_any ht hok hl hun hT i hi)
  have HE := Shut.mk (show thI t i ≠ 0 → remE t i = thI t i ∧ remT t i = [] from fun h => by
    unfold remE remT
    rw [decide_eq_false h]; exact ⟨rfl, rfl⟩)
  obtain ⟨ta, tc, htv, _, _, _⟩ := ht.len
  subst htv
  by_cases h0 : thI t i = 0
  · obtain ⟨n, j, rfl, hj, hmay, _⟩ := thI_ok h0
    have hm := hmay.mn
    have hnb := fulls_bd hm.hn
    have HParts := rem_parts hm hj h0
    unfold WoPost at HWo
    rw [h0] at HWo
    have HNd := Lib.hid (fun W v (h : RdTs W v (blkT t j)) => pneeded_any h hm.hn (by rw [blkT_len]; exact hm.len))
    have HBl := Shut.mk (blkT_len t j)
    have hlen := Shut.mk hm.len
    have t63 : (t.length : Int) ≤ 511 := by have := hm.len; omega
    have tl0 : 0 < t.length := by have := hm.len; omega
    clear HE h0 hm hmay hok hun
    rcases HParts with ⟨p1, p2, p3⟩ | ⟨q, p1, p2, p3, p4, p5⟩
    · have HW := Lib.hid (fun W => Width_any 0 W ⟨by omega, by omega⟩)
      have ht0 : treeB 0 = false := rfl
      rw [ht0] at HW
      have HW : Hid (∀ W, Calls Tryd.prog 47 #[.int .i64 0] W fun e w' => e = .returned (.tuple #[.int .i64 0, .int .i64 1]) ∧ Kept W w') := HW
      rw [p1] at HNd
      have P2 := Shut.mk p2
      have P3 := Shut.mk p3
      clear p1 p2 p3 ht0
      go_enter Tryd.func23, Tryd.ntmps23
      go_wp2_with fail
      (with_reducible refine HWo.out.mono ?_); rintro e w1 ⟨v, lvs, rfl, ho, k1⟩
      have ho : OwnT w.heap.size w1 v (blkT t j) lvs := ho
      have hrd := ho.rd
      obtain ⟨va, vc, hv, _, _, _⟩ := hrd.len
      subst hv
      go_wp2_with fail
      (with_reducible refine (HNd.out _ _ hrd).mono ?_); rintro e w2 ⟨rfl, k2⟩
      go_wp2_with fail
      refine (HW.out _).mono ?_; rintro e w3 ⟨rfl, k3⟩
      go_wp2
      go_ret2
      exact ⟨_, by rw [P2.out]; rfl, by rw [P3.out]; exact RdTs.nil _, by rw [P3.out]; exact Row0.nil _ _, (k1.trans k2).trans k3⟩
    · have hqb := fulls_bd p2
      have HW := Lib.hid (fun W => Width_any q W ⟨by omega, by omega⟩)
      rw [treeB_mk p2] at HW
      have HW : Hid (∀ W, Calls Tryd.prog 47 #[.int .i64 q] W fun e w' => e = .returned (.tuple #[.int .i64 (2 * (q : Int) - 1), .int .i64 0]) ∧ Kept W w') := HW
      rw [p1] at HNd
      have P2 := Shut.mk p4
      have P3 := Shut.mk p5
      have hq1 : (2 * (q : Int) - 1) = ((2 * q - 1 : Nat) : Int) := by omega
      have hq2 : 2 * q - 1 ≤ t.length := by have := hlen.out; omega
      have hq3 : 0 < 2 * q - 1 := by omega
      rw [hq1] at HW
      generalize 2 * q - 1 = m at HW P3 hq2 hq3
      clear p1 p2 p3 p4 p5 hq1
      go_enter Tryd.func23, Tryd.ntmps23
      go_wp2_with fail
      (with_reducible refine HWo.out.mono ?_); rintro e w1 ⟨v, lvs, rfl, ho, k1⟩
      have ho : OwnT w.heap.size w1 v (blkT t j) lvs := ho
      have hrd := ho.rd
      obtain ⟨g, cap, rfl, hg1, hg2, hc1, hc2⟩ := ho.row.addr0 (by rw [tflat_length, HBl.out]; omega)
      rw [HBl.out] at hc1 hrd ⊢
      have HO := Lib.hid ho
      clear ho
      go_wp2_with fail
      (with_reducible refine (HNd.out _ _ hrd).mono ?_); rintro e w2 ⟨rfl, k2⟩
      go_wp2_with fail
      (with_reducible refine (HW.out _).mono ?_); rintro e w3 ⟨rfl, k3⟩
      have m0 : (0 : Int) ≤ (m : Int) := by omega
      have m1 : (m : Int) ≤ (cap : Int) := by omega
      have m2 : m ≤ cap := by omega
      clear hrd
      go_wp2
      go_ret2
      have hT3 := ((HO.out.kept k2).kept k3).rowT.take (k := m) (by rw [HBl.out]; exact hq2)
      have hkl : ((blkT t j).take m).length = m := by rw [List.length_take, HBl.out]; omega
      have hrd := hT3.rd
      rw [hkl] at hrd
      have hro := (Ownv.row0 ((HO.out.kept k2).kept k3).row).take (k := m) (c := m) (by rw [HBl.out]; exact hq2)
      exact ⟨_, by rw [P2.out]; rfl, by rw [P3.out]; exact hrd.cap (by rw [hkl]; omega) (by omega) (by intro h; cases h), by rw [P3.out, hkl]; exact hro, (k1.trans k2).trans k3⟩
  · obtain ⟨e1, e2⟩ := HE.out h0
    have HE1 := Shut.mk e1
    have HE2 := Shut.mk e2
    unfold WoPost at HWo
    generalize thI t i = th at HWo h0 HE1
    have hne : (th != 0) = true := by simpa using h0
    have HWo2 := Lib.hid (HWo.out.mono (fun e w' (h : _) => (show ∃ v, e = .returned (.tuple #[v, .int .i64 th]) ∧ Kept w w' from by obtain ⟨v, lvs, h1, h2, h3⟩ := h; exact ⟨v, h1, h3⟩)))
    clear h0 HWo HE e1 e2
    go_enter Tryd.func23, Tryd.ntmps23
    go_wp2_with fail
    (with_reducible refine HWo2.out.mono ?_); rintro e w2 ⟨v, rfl, k3⟩
    go_wp2
    go_ret2
    exact ⟨_, by rw [HE1.out]; rfl, by rw [HE2.out]; exact RdTs.nil _, by rw [HE2.out]; exact Row0.nil _ _, k3⟩
end Go.Proofs.YtlmpejfkpidbeaaDoor
end

section
/- The library's Insert, of one number, into a rising row of the call's own. -/
set_option linter.unusedSimpArgs false
set_option linter.unusedVariables false
namespace Go.Proofs.YtlmpejfkpidbeaaDoor
open Go.RowKit
open Rt

theorem ins_split {i : Int} {zs : List Int} (hs : zs.Pairwise (· < ·)) (hn : i ∉ zs) : ins i zs = zs.take (zs.countP (· < i)) ++ i :: zs.drop (zs.countP (· < i)) := by
  induction zs with
  | nil => rfl
  | cons a l ih =>
    obtain ⟨h1, h2⟩ := List.pairwise_cons.1 hs
    have hne : i ≠ a := fun e => hn (by rw [e]; exact List.mem_cons_self)
    unfold ins
    by_cases c : i < a
    · have hz : (a :: l).countP (· < i) = 0 := by
        rw [List.countP_eq_zero]
        intro x hx
        rcases List.mem_cons.1 hx with rfl | hx
        · simp; omega
        · have := h1 x hx
          simp; omega
      rw [if_pos c, hz]; rfl
    · have hz : (a :: l).countP (· < i) = l.countP (· < i) + 1 := by
        rw [List.countP_cons_of_pos (by simp; omega)]
      rw [if_neg c, if_neg hne, hz, ih h2 (fun h => hn (List.mem_cons_of_mem _ h))]
      rfl
def spl : List Value → Nat → List Value → List Value
  | xs, _, [] => xs
  | xs, o, v :: r => spl (xs.set o v) (o + 1) r
theorem Blk.setCells {w : World} {g : Nat} {e : TypeId} {xs : List Value} (h : Blk w g e xs) (o : Nat) (vs : List Value) : Blk (w.setCells g o vs) g e (spl xs o vs) := by
  induction vs generalizing w xs o with
  | nil => exact h
  | cons v r ih => exact ih (h.set o v) (o + 1)
theorem spl_len (xs : List Value) (o : Nat) (vs : List Value) : (spl xs o vs).length = xs.length := by
  induction vs generalizing xs o with
  | nil => rfl
  | cons v r ih =>
    show (spl (xs.set o v) (o + 1) r).length = _
    rw [ih, List.length_set]
theorem spl_at (xs : List Value) (o : Nat) (vs : List Value) (k : Nat) : (spl xs o vs)[k]? = if o ≤ k ∧ k < o + vs.length ∧ k < xs.length then vs[k - o]? else xs[k]? := by
  induction vs generalizing xs o with
  | nil => rw [if_neg (by simp; omega)]; rfl
  | cons v r ih =>
    show (spl (xs.set o v) (o + 1) r)[k]? = _
    rw [ih, List.length_set, List.length_cons, List.getElem?_set]
    by_cases c1 : o + 1 ≤ k ∧ k < o + 1 + r.length ∧ k < xs.length
    · rw [if_pos c1, if_pos (by omega), show k - o = (k - (o + 1)) + 1 by omega, List.getElem?_cons_succ]
    · rw [if_neg c1]
      by_cases c2 : o = k
      · subst c2
        rw [if_pos rfl]
        by_cases c3 : o < xs.length
        · rw [if_pos c3, if_pos (by omega), Nat.sub_self]; rfl
        · rw [if_neg c3, if_neg (by omega), List.getElem?_eq_none (by omega)]
      · rw [if_neg c2, if_neg (by omega)]
theorem OwnI.ofBlk {B g n cap : Nat} {w : World} {cs : List Value} {zs : List Int} (hb : Blk w g 3 cs) (hB : B ≤ g) (hn : n ≤ cap) (hm : cap ≤ maxLen) (hc : cs.length = cap) (hz : zs.length = n) (ht : cs.take n = zs.map (Value.int .i64)) :
    OwnI B w (.slice (some ⟨g, 0, none⟩) n cap) zs := by
  subst hz
  refine ⟨by simp, .inr ⟨g, cap, cs.toArray, rfl, hB, hb, hn, hm, by simpa using hc, ?_⟩⟩
  rw [Nat.mul_one]
  exact ht
def InsPost (B : Nat) (W : World) (v : Value) (zs : List Int) (e : Ending) (w' : World) : Prop := ∃ v', e = .returned v' ∧ OwnI B w' v' zs ∧ Turn (Blks v) W w' ∧ ∀ b, Blks v' b → Blks v b ∨ W.heap.size ≤ b
theorem rins_len {i : Int} {zs : List Int} (hn : i ∉ zs) : (ins i zs).length = zs.length + 1 := by
  induction zs with
  | nil => rfl
  | cons a l ih =>
    unfold ins
    have hne : i ≠ a := fun e => hn (by rw [e]; exact List.mem_cons_self)
    by_cases c : i < a
    · rw [if_pos c]; rfl
    · rw [if_neg c, if_neg hne, List.length_cons, ih (fun h => hn (List.mem_cons_of_mem _ h))]; rfl
/-- What lies in the row behind an insertion. -/
theorem ins_row {X : List Value} {cs : List Value} {n k : Nat} {v : Value} (hX : n + 1 ≤ X.length) (hk : k ≤ n) (hc : cs.length = n) (h1 : ∀ q, q < k → X[q]? = cs[q]?) (h2 : X[k]? = some v) (h3 : ∀ q, k ≤ q → q < n → X[q + 1]? = cs[q]?) : X.take (n + 1) = cs.take k ++ v :: cs.drop k := by
  refine List.ext_getElem? fun q => ?_
  rw [List.getElem?_take]
  by_cases c : q < n + 1
  · rw [if_pos c]
    by_cases c1 : q < k
    · rw [h1 q c1, List.getElem?_append_left (by rw [List.length_take]; omega), List.getElem?_take, if_pos c1]
    · rw [List.getElem?_append_right (by rw [List.length_take]; omega), List.length_take, Nat.min_eq_left (by omega)]
      by_cases c2 : q = k
      · subst c2
        rw [h2, Nat.sub_self]; rfl
      · rw [show q - k = (q - 1 - k) + 1 by omega, List.getElem?_cons_succ, List.getElem?_drop, show k + (q - 1 - k) = q - 1 by omega]
        have := h3 (q - 1) (by omega) (by omega)
        rwa [show q - 1 + 1 = q by omega] at this
  · rw [if_neg c, List.getElem?_eq_none]
    simp
    omega
theorem zlen (m : Nat) : (Builtin.zeroCells (Value.int .i64 0).cells m).toList.length = m := by
  rw [Array.length_toList, size_zeroCells]
  exact Nat.mul_one _
theorem pins_any {B vb : Nat} {W : World} {v : Value} {zs : List Int} {i : Int} (ho : OwnI B W v zs) (hs : zs.Pairwise (· < ·)) (hn : i ∉ zs) (hl : zs.length ≤ 1000) (hb : Blk W vb 3 [.int .i64 i]) (hvb : ∀ b, Blks v b → b ≠ vb) (hB : B ≤ W.heap.size) :
    Calls Tryd.prog 52 #[v, .int .i64 (zs.countP (· < i) : Nat), .slice (some ⟨vb, 0, none⟩) 1 1] W (InsPost B W v (ins i zs)) := by
  have hsp := ins_split hs hn
  have hil := rins_len hn
  have hk : zs.countP (· < i) ≤ zs.length := List.countP_le_length
  have hmap : (ins i zs).map (Value.int .i64) = (zs.map (Value.int .i64)).take (zs.countP (· < i)) ++ Value.int .i64 i :: (zs.map (Value.int .i64)).drop (zs.countP (· < i)) := by
    rw [hsp, List.map_append, List.map_take, List.map_cons, List.map_drop]
  generalize zs.countP (· < i) = k at hk hmap ⊢
  have hvs : ∀ j u, ([Value.int .i64 i] : List Value)[j]? = some u → W.cell? ⟨vb, 0 + j, none⟩ = some u := fun j u hj => by rw [Nat.zero_add, hb.cell, hj]
  have h1v : ∀ u ∈ ([Value.int .i64 i] : List Value), u.oneCell' = true := ones_int .i64 [i]
  have h1c := ones_int .i64 zs
  have hcl : (zs.map (Value.int .i64)).length = zs.length := by simp
  have hG := grownCap_ge W (zs.length + 1)
  have hGm := fun old e => grownCap_le_maxLen W (zs.length + 1) old e (by unfold maxLen; omega)
  rcases ho.2 with ⟨rfl, hz⟩ | ⟨g, cap, cur, rfl, hbg, hg, hnc, hcm, hcs, htk⟩
  · have hz : zs = [] := List.eq_nil_of_length_eq_zero hz
    subst hz
    obtain rfl : k = 0 := by simpa using hk
    have h := Tryd.slices_Insert_int_end_grow none 0 0 vb 0 1 1 [] [.int .i64 i] W (by omega) (Nat.le_refl _) (by omega) (by omega) rfl rfl (fun _ => rfl) (fun a h => by cases h) hvs h1v
    refine h.mono fun e w' ⟨he, hw⟩ => ⟨_, he, ?_, ?_, fun b hb => .inr ?_⟩
    · refine OwnI.ofBlk (cs := ([.int .i64 i] ++ (Builtin.zeroCells (Value.int .i64 0).cells (grownCap W (0 + 1) 0 3 - (0 + 1))).toList)) ?_ hB (hG 0 _) (hGm 0 _) ?_ rfl rfl
      · rw [hw]
        unfold Blk
        refine (heap_alloc_new W.drew _).trans ?_
        simp
      · rw [List.length_append, zlen]
        show 1 + _ = _
        have : 1 ≤ grownCap W (0 + 1) 0 3 := hG 0 3
        omega
    · rw [hw]
      exact ((Kept.refl W).drew.alloc _).turn _
    · have : some W.heap.size = some b := hb
      have := Option.some.inj this
      omega
  · have hblk : Blk W g 3 cur.toList := hg
    have hgw := hblk.lt
    rw [Nat.mul_one] at hcs htk
    have hcell : ∀ j u, (zs.map (Value.int .i64))[j]? = some u → W.cell? ⟨g, 0 + j, none⟩ = some u := fun j u hj => by
      rw [Nat.zero_add]; exact Ownv.cell0 ho j hj
    have hsome : ∀ j, j < zs.length + 1 → zs.length + 1 ≤ cap → (W.cell? ⟨g, 0 + j, none⟩).isSome = true := fun j hj hr => by
      rw [Nat.zero_add, hblk.cell, List.getElem?_eq_getElem (by rw [Array.length_toList]; omega)]; rfl
    have hfz : ∀ j, W.frozen? ⟨g, j, none⟩ = false := fun j => hblk.frozen j
    have hxs : ∀ q, q < zs.length → cur.toList[q]? = (zs.map (Value.int .i64))[q]? := fun q hq => by
      rw [← htk, List.getElem?_take, if_pos (by simpa using hq)]
    have hcur : cur.toList.length = cap := by rw [Array.length_toList]; exact hcs
    by_cases hroom : zs.length + 1 ≤ cap
    · by_cases hend : k = zs.length
      · subst hend
        have h := Tryd.slices_Insert_int_end_room g 0 zs.length cap vb 0 1 1 [.int .i64 i] W (by omega) hroom (by unfold maxLen at hcm; omega) rfl (fun j hj => by
          have := hsome (zs.length + j) (by omega) hroom
          rwa [Nat.zero_add] at this ⊢) (fun j _ => hfz _) hvs h1v
        refine h.mono fun e w' ⟨he, hw⟩ => ⟨_, he, ?_, ?_, fun b hb => .inl hb⟩
        · rw [hw, Nat.zero_add]
          refine OwnI.ofBlk (hblk.setCells zs.length [.int .i64 i]) hbg hroom hcm (by rw [spl_len]; exact hcur) hil ?_
          rw [hmap]
          refine ins_row (by rw [spl_len, hcur]; exact hroom) (Nat.le_refl _) hcl (fun q hq => ?_) ?_ (fun q h1 h2 => absurd h1 (by omega))
          · rw [spl_at, if_neg (by omega)]; exact hxs q hq
          · rw [spl_at, if_pos (by simp; omega), Nat.sub_self]; rfl
        · rw [hw]
          exact (turn_setCells W g _ _).mono fun b e => by rw [e]; rfl
      · have h := Tryd.slices_Insert_int_shift g 0 zs.length cap k vb 0 1 1 (zs.map (Value.int .i64)) [.int .i64 i] W (by omega) (by omega) hroom (by unfold maxLen at hcm; omega) (fun e => hvb g rfl e.symm) hcl rfl hcell (fun j hj => hsome j hj hroom) (fun j _ => hfz _) hvs h1c h1v
          3 3 1 cap (by unfold World.shape?; rw [hb]; rfl) (by unfold World.shape?; rw [hg]; show some (_, cur.size) = _; rw [hcs]) (by omega) (hb.frozen _) (hb.frozen _)
        refine h.mono fun e w' ⟨he, hw⟩ => ⟨_, he, ?_, ?_, fun b hb => .inl hb⟩
        · rw [hw, Nat.zero_add, Nat.zero_add]
          refine OwnI.ofBlk (((hblk.kept (Kept.refl W).drew).setCells (k + 1) ((zs.map (Value.int .i64)).drop k)).setCells k [.int .i64 i]) hbg hroom hcm (by rw [spl_len, spl_len]; exact hcur) hil ?_
          rw [hmap]
          refine ins_row (by rw [spl_len, spl_len, hcur]; exact hroom) hk hcl (fun q hq => ?_) ?_ (fun q h1 h2 => ?_)
          · rw [spl_at, if_neg (by omega), spl_at, if_neg (by omega)]; exact hxs q (by omega)
          · rw [spl_at, if_pos (by rw [spl_len]; simp; omega), Nat.sub_self]; rfl
          · rw [spl_at, if_neg (by simp; omega), spl_at, if_pos (by rw [List.length_drop, hcl]; omega), List.getElem?_drop, show k + (q + 1 - (k + 1)) = q by omega]
        · rw [hw]
          exact Turn.trans (Turn.trans ((Kept.refl W).drew.turn _) (turn_setCells W.drew g _ _) (fun x e => .inl (by rw [e]; rfl))) (turn_setCells _ g _ _) (fun x e => .inl (by rw [e]; rfl))
    · by_cases hend : k = zs.length
      · subst hend
        have h := Tryd.slices_Insert_int_end_grow (some ⟨g, 0, none⟩) zs.length cap vb 0 1 1 (zs.map (Value.int .i64)) [.int .i64 i] W (by omega) hnc (by omega) (by omega) hcl rfl (fun h => by cases h) (fun a h j u hj => by
          cases h
          rw [Addr.add_lit]
          exact hcell j u hj) hvs h1v
        refine h.mono fun e w' ⟨he, hw⟩ => ⟨_, he, ?_, ?_, fun b hb => .inr ?_⟩
        · refine OwnI.ofBlk (cs := ((zs.map (Value.int .i64) ++ [.int .i64 i]) ++ (Builtin.zeroCells (Value.int .i64 0).cells (grownCap W (zs.length + 1) cap 3 - (zs.length + 1))).toList)) ?_ hB (hG cap _) (hGm cap _) ?_ hil ?_
          · rw [hw]
            unfold Blk
            refine (heap_alloc_new W.drew _).trans ?_
            simp
          · rw [List.length_append, List.length_append, zlen, hcl]
            show zs.length + 1 + _ = _
            have := hG cap 3
            omega
          · rw [hmap, List.take_append_of_le_length (by simp), List.take_of_length_le (by simp), List.take_of_length_le (by simp), List.drop_eq_nil_of_le (by simp)]
        · rw [hw]
          exact ((Kept.refl W).drew.alloc _).turn _
        · have : some W.heap.size = some b := hb
          have := Option.some.inj this
          omega
      · have h := Tryd.slices_Insert_int_grow g 0 zs.length cap k vb 0 1 1 (zs.map (Value.int .i64)) [.int .i64 i] W (by omega) (by omega) hnc (by omega) (by omega) hcl rfl hcell hvs h1c h1v
        refine h.mono fun e w' ⟨he, hw⟩ => ⟨_, he, ?_, ?_, fun b hb => .inr ?_⟩
        · have hG1 := hG cap 3
          have hGm1 := hGm cap 3
          generalize grownCap W (zs.length + 1) cap 3 = G at hw hG1 hGm1 ⊢
          have hb0 : Blk (W.alloc (.cells (((zs.map (Value.int .i64)).take k).toArray ++ Builtin.zeroCells (Value.int .i64 0).cells (zs.length + 1 - k) ++ Builtin.zeroCells (Value.int .i64 0).cells (G - (zs.length + 1))) 3)) W.heap.size 3
              ((zs.map (Value.int .i64)).take k ++ (Builtin.zeroCells (Value.int .i64 0).cells (zs.length + 1 - k)).toList ++ (Builtin.zeroCells (Value.int .i64 0).cells (G - (zs.length + 1))).toList) := by
            unfold Blk
            rw [heap_alloc_new W]
            simp
          have hlen : ((zs.map (Value.int .i64)).take k ++ (Builtin.zeroCells (Value.int .i64 0).cells (zs.length + 1 - k)).toList ++ (Builtin.zeroCells (Value.int .i64 0).cells (G - (zs.length + 1))).toList).length = G := by
            rw [List.length_append, List.length_append, zlen, zlen, List.length_take, hcl]
            omega
          have hpre : ∀ q, q < k → ((zs.map (Value.int .i64)).take k ++ (Builtin.zeroCells (Value.int .i64 0).cells (zs.length + 1 - k)).toList ++ (Builtin.zeroCells (Value.int .i64 0).cells (G - (zs.length + 1))).toList)[q]? = (zs.map (Value.int .i64))[q]? := fun q hq => by
            rw [List.append_assoc, List.getElem?_append_left (by rw [List.length_take]; omega), List.getElem?_take, if_pos hq]
          rw [hw]
          generalize ((zs.map (Value.int .i64)).take k ++ (Builtin.zeroCells (Value.int .i64 0).cells (zs.length + 1 - k)).toList ++ (Builtin.zeroCells (Value.int .i64 0).cells (G - (zs.length + 1))).toList) = X at hb0 hlen hpre
          refine OwnI.ofBlk (((((hb0.kept (Kept.refl _).drew).setCells k [.int .i64 i]).kept (Kept.refl _).drew)).setCells (k + 1) ((zs.map (Value.int .i64)).drop k)) hB hG1 hGm1 (by rw [spl_len, spl_len]; exact hlen) hil ?_
          rw [hmap]
          refine ins_row (by rw [spl_len, spl_len, hlen]; exact hG1) hk hcl (fun q hq => ?_) ?_ (fun q h1 h2 => ?_)
          · rw [spl_at, if_neg (by omega), spl_at, if_neg (by omega)]; exact hpre q hq
          · rw [spl_at, if_neg (by omega), spl_at, if_pos (by simp; omega), Nat.sub_self]; rfl
          · rw [spl_at, if_pos (by rw [spl_len, List.length_drop, hcl]; omega), List.getElem?_drop, show k + (q + 1 - (k + 1)) = q by omega]
        · rw [hw]
          have k0 : Kept W ((W.alloc (.cells (((zs.map (Value.int .i64)).take k).toArray ++ Builtin.zeroCells (Value.int .i64 0).cells (zs.length + 1 - k) ++ Builtin.zeroCells (Value.int .i64 0).cells (grownCap W (zs.length + 1) cap 3 - (zs.length + 1))) 3)).drew) := ((Kept.refl W).alloc _).drew
          have k1 := Turn.keptOf k0 (turn_setCells _ W.heap.size k [.int .i64 i]) (fun b e => by rw [e]; exact Nat.le_refl _)
          have k2 := Turn.keptOf (Kept.drew k1) (turn_setCells _ W.heap.size (k + 1) ((zs.map (Value.int .i64)).drop k)) (fun b e => by rw [e]; exact Nat.le_refl _)
          exact k2.turn _
        · have : some W.heap.size = some b := hb
          have := Option.some.inj this
          omega
end Go.Proofs.YtlmpejfkpidbeaaDoor
end
