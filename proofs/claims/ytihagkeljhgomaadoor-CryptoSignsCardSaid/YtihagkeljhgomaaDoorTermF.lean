/- Walks of package term: keep. -/
import Derived.Test.YtihagkeljhgomaaDoorTermE
import Derived.Deep.RegionHeld3
import Derived.Deep.AppendLies
import Derived.Laws.Pointers
set_option linter.unusedSimpArgs false
set_option linter.unusedVariables false
namespace Go.Proofs.YtihagkeljhgomaaDoor
open Go.RowKit Go.Maps

theorem sclone_any (s : ByteArray) (w : World) (hl : s.size ≤ 1000000) : Calls Tryd.prog 43 #[.string s] w fun e w' => e = .returned (.string s) ∧ Kept w w' := by
  go_enter Tryd.func43, Tryd.ntmps43
  go_wp2_with (go_at_call 46; refine (Tryd.stringslite_Clone s _ (by omega)).mono ?_; rintro e w' ⟨rfl, hk⟩)
  go_ret
  exact ⟨rfl, hk⟩

theorem Tryd.infoNode : (Tryd.prog.info? 56).map (fun i => (i.zero, i.size, i.bytes)) = some (some (.agg #[.int .i64 0, .int .i64 0, .string ⟨#[]⟩, .slice none 0 0]), 4, 56) := by kernel_rfl

theorem key_len {d : Nd} (hok : NdOk d) (hs : d.s.length ≤ 200) (hl : d.l.length ≤ 64) : (key d).length ≤ 2000 := by
  unfold key
  have h1 := itoa_len hok.n
  have h2 := partsKey_len d.l hok.l
  split
  · simp; omega
  · split
    · simp; omega
    · simp; omega

set_option maxRecDepth 100000 in
set_option maxHeartbeats 4000000 in
theorem keep_any {F : Nat → Prop} {w : World} {p : Value} {ds : List Nd} (h : Ar F w p ds) {v : Value} {d : Nd} (hd : RdN w v d) (hok : NdOk d) (hm : May ds d) (hf : find ds d = none) (hl0 : ¬ 100000 ≤ ds.length) :
    Calls Tryd.prog 39 #[p, v, .string (strB (key d))] w fun e w' => ∃ F' : Nat → Prop, e = .returned (.int .i64 ds.length) ∧ Ar F' w' p (ds ++ [d]) ∧ Turn F w w' ∧ (∀ b, F' b → F b ∨ w.heap.size ≤ b) := by
  obtain ⟨pb, mb, n, nv, lvs, D, rfl, h2, h3, h4, h5, h6, h7, h8, h9, h10, h11, h12⟩ := h.rep
  obtain ⟨lv, rfl, hr⟩ := hd
  have hlen := hm.len64
  have hs2 := hm.s0
  obtain ⟨op, nn, s, l⟩ := d
  simp only at hr hlen hs2 ⊢
  have e1 := strB_size s
  generalize hS : strB s = S at e1
  have HS := Shut.mk hS
  clear hS
  have HL := Shut.mk hl0
  have hl : ds.length < 10000000000 := by omega
  clear hl0
  have hkl := key_len hok hs2 hlen
  have hinj : ∀ i, i < ds.length → key (ds.getD i nd0) ≠ key ⟨op, nn, s, l⟩ := fun i hi e => find_none hf i hi (key_inj (h.good.may' hi) hm e)
  have HI := Shut.mk hinj
  clear hinj
  have hkey : keyOf Tryd.prog 9 (.string (strB (key ⟨op, nn, s, l⟩))) = some (.string (key ⟨op, nn, s, l⟩)) := WideMaps.keyOf_string_mk Tryd.underlying9 (by rw [strB_size]; unfold maxLen; omega)
  generalize hKy : strB (key ⟨op, nn, s, l⟩) = KY at hkey
  have HKY := Shut.mk hKy
  clear hKy
  have hmn : ∀ W : World, (binOp .eql 51 (.map (some mb)) (.map none)).run Tryd.prog W = .ok (.bool false) W := fun W => run_eql_map_nil W 51 _ _ (some mb) Tryd.underlying51
  go_enter Tryd.func39, Tryd.ntmps39
  go_wp2_with fail
  refine (sclone_any S _ (by omega)).mono ?_
  rintro e w1 ⟨rfl, k1⟩
  have b1 : Blk w1 w.heap.size 56 [.int .i64 op, .int .i64 nn, .string S, lv] := (Blk.new w _ _).kept k1
  have kw1 : Kept w w1 := ((Kept.refl w).alloc _).trans k1
  have c12 := b1.cell 2
  have c13 := b1.cell 3
  have f12 := b1.frozen 2
  simp only [List.getElem?_cons_succ, List.getElem?_cons_zero] at c12 c13
  go_wp2_with fail
  have b2 : Blk (w1.setCell ⟨w.heap.size, 2, none⟩ (.string S)) w.heap.size 56 [.int .i64 op, .int .i64 nn, .string S, lv] := b1.set 2 (.string S)
  have kw2 : Kept w (w1.setCell ⟨w.heap.size, 2, none⟩ (.string S)) := kw1.setCell (Nat.le_refl _) _
  generalize w1.setCell ⟨w.heap.size, 2, none⟩ (.string S) = w2 at b2 kw2 ⊢
  refine (clone_any (hr.kept kw2) (by omega)).mono ?_
  rintro e w3 ⟨lv3, rfl, o3, k3⟩
  obtain ⟨a3, cap3, rfl, _, _, _⟩ := (OwnI.rd o3).len
  have b3 : Blk w3 w.heap.size 56 [.int .i64 op, .int .i64 nn, .string S, lv] := b2.kept k3
  have kw3 : Kept w w3 := kw2.trans k3
  have c33 := b3.cell 3
  have f33 := b3.frozen 3
  simp only [List.getElem?_cons_succ, List.getElem?_cons_zero] at c33
  clear b1 c12 c13 f12 k1 k3
  obtain ⟨na, ncap, rfl, n1, n2, n3, n4, n5⟩ := h3.rdv
  have p0 := (h2.kept kw3).cell 0
  have p1 := (h2.kept kw3).cell 1
  simp only [List.getElem?_cons_succ, List.getElem?_cons_zero] at p0 p1
  have hpq : pb ≠ w.heap.size := Nat.ne_of_lt h2.lt
  have hmq : mb ≠ w.heap.size := Nat.ne_of_lt (h.lt mb h10)
  go_wp2
  have b4 : Blk (w3.setCell ⟨w.heap.size, 3, none⟩ (.slice a3 l.length cap3)) w.heap.size 56 [.int .i64 op, .int .i64 nn, .string S, (.slice a3 l.length cap3)] := b3.set 3 (.slice a3 l.length cap3)
  have kw4 : Kept w (w3.setCell ⟨w.heap.size, 3, none⟩ (.slice a3 l.length cap3)) := kw3.setCell (Nat.le_refl _) _
  have o4 : OwnI 0 (w3.setCell ⟨w.heap.size, 3, none⟩ (.slice a3 l.length cap3)) (.slice a3 l.length cap3) l := Ownv.setCell (Ownv.mono0 o3) (Ownv.notBlk o3 b3 (by decide)) _
  have hlv : ∀ b, Blks (.slice a3 l.length cap3) b → w.heap.size ≤ b := fun b hb => Nat.le_trans kw2.size (Ownv.lt o3 hb).2
  generalize w3.setCell ⟨w.heap.size, 3, none⟩ (.slice a3 l.length cap3) = w4 at b4 kw4 o4 ⊢
  have q0 := (h2.kept kw4).cell 0
  have q1 := (h2.kept kw4).cell 1
  have qf := (h2.kept kw4).frozen 0
  have c40 := b4.cell 0
  have c41 := b4.cell 1
  have c42 := b4.cell 2
  have c43 := b4.cell 3
  simp only [List.getElem?_cons_succ, List.getElem?_cons_zero] at q0 q1 c40 c41 c42 c43
  have hn4 := h3.kept kw4
  obtain ⟨i0, hi, hz0, hz1, hz2⟩ := info_parts Tryd.infoNode
  have hgb : Blk w4 pb 53 [.slice na ds.length ncap, .map (some mb)] := h2.kept kw4
  have hnb : ¬ Blks (.slice na ds.length ncap) pb := Ownv.notBlk hn4 hgb (by decide)
  have hnq : ¬ Blks (.slice na ds.length ncap) w.heap.size := fun hb => Nat.lt_irrefl _ (h3.lt hb).1
  have gb := hgb.lt
  have hcz : ∀ ob, (w4.alloc ob).cell? ⟨pb, 0, none⟩ = some (.slice na ds.length ncap) := fun ob => (hgb.kept ((Kept.refl w4).alloc ob)).cell 0
  have hfz : ∀ ob, (w4.alloc ob).frozen? ⟨pb, 0, none⟩ = false := fun ob => by
    have := (hgb.kept ((Kept.refl w4).alloc ob)).frozen 0
    exact this
  have hnb' : some pb ≠ (Value.slice na ds.length ncap).ownBlock := fun e => hnb e.symm
  have hnq' : some w.heap.size ≠ (Value.slice na ds.length ncap).ownBlock := fun e => hnq e.symm
  have qb := b4.lt
  go_region_law
    ((refine step_append_lies _ (by rfl) _ _ _ (by rfl) 0 56 i0 _ 4 56 Tryd.underlying50 hi hz0 hz1 hz2 rfl (by omega) (.slice na ds.length ncap) ds.length (flat ds lvs) (by rfl) ((hn4.alloc _).drew)
        ⟨w4.heap.size, 0, none⟩ 1 1 [.int .i64 op, .int .i64 nn, .string S, (.slice a3 l.length cap3)] (by rfl) (by rfl) (World.news_of_block (cs := #[.int .i64 op, .int .i64 nn, .string S, (.slice a3 l.length cap3)]) (t := 56) (fr := (0, 0)) (heap_alloc_new w4 _)) (by simp [Value.oneCell'])
        (by omega) (by unfold maxLen; omega) (by omega) (by omega) (w4.heap.size + 1) (by simp) ?_; intro gg cap w5 hown5 hgrow hat hlt; have hfz5 : w5.frozen? ⟨pb, 0, none⟩ = false := (hgrow.frozen_far ⟨pb, 0, none⟩ (by simp; omega) hnb').trans (hfz _); have hcz5 : w5.cell? ⟨pb, 0, none⟩ = some (.slice na ds.length ncap) := (hgrow.cell_far ⟨pb, 0, none⟩ (by simp; omega) hnb').trans (hcz _);
      have t5 : Turn (Blks (.slice na ds.length ncap)) w4 w5 := ((((Kept.refl w4).alloc (.cells #[.int .i64 op, .int .i64 nn, .string S, .slice a3 l.length cap3] 56)).drew).turn _).trans ((Grown.turn hgrow).mono fun b hb => hb.symm) (fun x hx => .inl hx)))
  all_goals
    have o6 : Ownv 0 56 4 (w5.setCell ⟨pb, 0, none⟩ (.slice (some ⟨gg, 0, none⟩) (ds.length + 1) cap)) (.slice (some ⟨gg, 0, none⟩) (ds.length + 1) cap) (ds.length + 1) (flat ds lvs ++ [.int .i64 op, .int .i64 nn, .string S, .slice a3 l.length cap3]) :=
      Ownv.setCell hown5 (Ownv.notBlk hown5 (hgb.turn t5 hnb) (by decide)) _
    have g6 : Blk (w5.setCell ⟨pb, 0, none⟩ (.slice (some ⟨gg, 0, none⟩) (ds.length + 1) cap)) pb 53 [.slice (some ⟨gg, 0, none⟩) (ds.length + 1) cap, .map (some mb)] := (hgb.turn t5 hnb).set 0 _
    have t6 : Turn (fun b => Blks (.slice na ds.length ncap) b ∨ b = pb) w4 (w5.setCell ⟨pb, 0, none⟩ (.slice (some ⟨gg, 0, none⟩) (ds.length + 1) cap)) :=
      (t5.mono fun b hb => .inl hb).trans (turn_setCell w5 _ _) (fun x hx => .inl (.inr hx))
    have m6 := ownsMap_turn (ownsMap_kept h6 kw4) t6 (fun hb => hb.elim (ownsMap_notBlk (ownsMap_kept h6 kw4) hn4) (fun e => ownsMap_notBlk' (ownsMap_kept h6 kw4) hgb e.symm))
    have a6 := o4.turn t6 (fun b hb hc => hc.elim (Ownv.apart o4 hn4 (by decide) hb) (fun e => Ownv.notBlk o4 hgb (by decide) (e ▸ hb)))
    generalize w5.setCell ⟨pb, 0, none⟩ (.slice (some ⟨gg, 0, none⟩) (ds.length + 1) cap) = w6 at o6 g6 t6 m6 a6 ⊢
    have z1 := g6.cell 1
    simp only [List.getElem?_cons_succ, List.getElem?_cons_zero] at z1
    have hlaw : Keyed Tryd.prog 9 := string_keyed Tryd.underlying9
    go_wp2_with (at_mapUpdate; refine wpList_mapUpdate_own _ rfl _ _ _ 51 rfl 9 3 hlaw Tryd.underlying51 (plainElem Tryd.prog 3) mb n D rfl m6 (by unfold maxLen; omega) _ _ (.string (key ⟨op, nn, s, l⟩)) rfl rfl hkey (.lit (.int .i64 ds.length)) [] (plainElem_int Tryd.underlying3 (WalkArith.wf_i64 (by omega))) ?_; intro w7 own7 hg7)
    go_ret
    obtain ⟨F', r1, r2, r3⟩ := arg_grow h.good (Nat.lt_of_not_le HL.out) h.oks hok hm hf HI.out (by decide) h2 h3 h4 h5 h6 h7 h8 h9 h10 h11 h12 h.lt kw4 t6 g6 (by unfold ndCells; rw [HS.out]; exact o6) (fun b hb => by
      obtain rfl : gg = b := by simpa [Blks, Value.ownBlock] using hb
      rcases hat with c | c
      · exact .inl c
      · have := kw4.size
        exact .inr (by omega)) a6 hlv own7 m6 ((Grown.turn hg7).mono fun b hb => by simpa using hb)
    exact ⟨F', rfl, r1, r2, r3⟩
end Go.Proofs.YtihagkeljhgomaaDoor
