/- Texts of one proof, put together: DedH, DedM, DedQ, DedX, ScR. -/
import Derived.Test.YtekieioffaafaaaDoorMg12
import Derived.Deep.RegionHeld3
import Derived.BigQuiet
import Derived.Deep.QuietTactic
import Derived.Deep.DeepCutAuto
import Derived.Laws.EntriesVeiled
import Derived.Test.YtekieioffaafaaaDoorMg06
import Derived.Test.YtekieioffaafaaaDoorMg11
import Derived.Deep.Cut
section
/- All rules are told: the walk of eachRule. -/
set_option linter.unusedSimpArgs false
set_option linter.unusedVariables false
namespace Go.Proofs.YtekieioffaafaaaDoor
open Go.RowKit Go.Maps

set_option maxHeartbeats 16000000 in
set_option maxRecDepth 100000 in
theorem each_any {S : Nat → Prop} {w0 w : World} {x : Bx} {st : St} {nv : Value} {ds : List Nd} (h : DvS S w x st) (hk : Kept w0 w) (hS : ∀ b, b < w0.heap.size → S b) (hn : RdNs w0 nv ds) (hg : Good ds) (hl : ds.length ≤ 100000) (hF : Fit ds.length 0 st) :
    Calls Tryd.prog 80 #[nv, .func (.func 81) #[] #[.pointer (some ⟨x.xb, 0, none⟩), .pointer (some ⟨x.wb, 0, none⟩), .pointer (some ⟨x.rb, 0, none⟩)]] w (EachPost S w x ((rules ds).foldl tell st)) := by
  obtain ⟨na, ncap, rfl, n1, n2, _⟩ := hn.len
  have n63 : ((ds.length : Nat) : Int) ≤ 9223372036854775807 := by omega
  have hsg := sigs_any (hn.kept hk) hg hl
  have hFS := Shut.mk (fun k hk => fit_stK hg hF k hk)
  go_enter Tryd.func80, Tryd.ntmps80
  go_wp2_with fail
  refine hsg.mono ?_
  rintro e w1 ⟨mb, rfl, hmb, hm, k1⟩
  have d1 := h.since k1
  have hmS : SN S w w1 mb := .inr ⟨hmb, hm.lt⟩
  have HSS : Shut (∀ b, b < w0.heap.size → SN S w w1 b) := ⟨fun b hb => .inl (hS b hb)⟩
  clear hS
  go_wp2
  go_loopw [16] (fun i wr => ∃ k : Nat, k ≤ ds.length ∧ i = .int .i64 k ∧ DvS (SN S w w1) wr x (stK ds st k) ∧ Turn (fun b => ¬ SN S w w1 b) w1 wr) (fun i _ => ds.length - (intOf i).toNat)
  case atStart => exact ⟨0, Nat.zero_le _, rfl, d1, Turn.refl _ _⟩
  case round =>
    clear d1
    obtain ⟨k, hk0, rfl, hD, hT⟩ := hrel
    by_cases hlt : k < ds.length
    · have hkw : Kept w0 wr := kept_of (hk.trans k1) hT HSS.out
      obtain ⟨nb, noff, ncap', la, lc, hv, hcl, hlr⟩ := hn.at hlt
      simp only [Value.slice.injEq] at hv
      obtain ⟨rfl, _, rfl⟩ := hv
      obtain ⟨y0, y1, y2, y3⟩ := hcl wr hkw
      clear hcl
      have hr := rnd_of hg hlt
      have hfit := hFS.out k (by omega)
      have hst := stK_succ ds st k
      rw [hr.rules] at hst
      generalize hd : ds.getD k nd0 = d at y0 y1 y2 y3 hlr hr hst
      generalize stK ds st k = s0 at hD hst hfit
      have HST := Shut.mk hst
      have HR := Shut.mk hr
      have hpt := Shut.mk hr.part
      have hlen := hr.may.len64
      have hkk : 0 ≤ (k : Int) ∧ (k : Int) < (ds.length : Int) := ⟨by omega, by omega⟩
      clear hd hst hr
      obtain ⟨op, n, s, l⟩ := d
      simp only at y0 y1 y2 y3 hlr hpt hlen HST
      have HX := Shut.mk (rfl : strB s = strB s)
      generalize hX : strB s = X at y2
      have HXX := Shut.mk hX
      clear HX hX
      have HLS : Shut (∀ b, VB (.slice la l.length lc) b → SN S w w1 b ∨ wr.heap.size ≤ b) := ⟨fun b hb => .inl (HSS.out b (hlr.vb' hb))⟩
      have hcap : l.length ≤ lc := by
        obtain ⟨_, _, e, h, _⟩ := hlr.len
        simp only [Value.slice.injEq] at e
        obtain ⟨_, _, rfl⟩ := e
        exact h
      have l63 : ((l.length : Nat) : Int) ≤ 9223372036854775807 := by omega
      have HKT : Shut (∀ y ∈ [(k : Int)], 0 ≤ y ∧ y < (ds.length : Int)) := ⟨fun y hy => by rw [List.mem_singleton.1 hy]; exact hkk⟩
      by_cases o1 : op = 1
      · subst o1
        go_wp2
        go_roundw
        case rel => exact ⟨k + 1, hlt, rfl, by rw [HST.out]; exact hD.less (fun b hb => hb) hD.inS |>.more ((Kept.refl wr).alloc _) (fun b hb => ⟨.inl hb, Nat.lt_of_lt_of_le (hD.old b hb) ((Kept.refl wr).alloc _).size⟩) hD.inS, hT.kept ((Kept.refl wr).alloc _)⟩
        case measure => simp [intOf]; omega
      have b1 : (op == 1) = false := by simpa using o1
      have b1' : (op != 1) = true := by simpa using o1
      by_cases o3 : op = 3
      · subst o3
        have ka : Kept wr (wr.alloc (.cells #[.int .i64 3, .int .i64 n, .string X, .slice la l.length lc] 64)) := (Kept.refl wr).alloc _
        have kC := ka.alloc (.cells #[.int .i64 (k : Int)] 3)
        have bx := (Blk.new wr [.int .i64 3, .int .i64 n, .string X, .slice la l.length lc] 64).kept ((Kept.refl _).alloc (.cells #[.int .i64 (k : Int)] 3))
        have hc1 := tellW hD hfit (by omega) kC ⟨l, [(k : Int)]⟩ (OwnI.rd (lit1 _ (k : Int))) (fun b hb => .inr (VB.new hb ka.size)) (hlr.kept (hkw.trans kC)) HLS.out hpt.out HKT.out hlen (by simp)
        rw [alloc_size] at hc1
        go_wp2_with fail
        (with_reducible refine hc1.mono ?_)
        clear hc1
        rintro e w2 ⟨rfl, d2, t2⟩
        have hs2 : SN (SN S w w1) wr ((wr.alloc (.cells #[.int .i64 3, .int .i64 n, .string X, .slice la l.length lc] 64)).alloc (.cells #[.int .i64 (k : Int)] 3)) wr.heap.size := .inr ⟨Nat.le_refl _, by simp; omega⟩
        have bx2 := bx.turn t2 (fun c => c hs2)
        have T2 : Turn (fun b => ¬ SN S w w1 b) w1 w2 := (hT.kept kC).trans (SN.turn t2) (fun b hb => .inl hb)
        have HLS2 : Shut (∀ b, VB (.slice la l.length lc) b → SN (SN S w w1) wr ((wr.alloc (.cells #[.int .i64 3, .int .i64 n, .string X, .slice la l.length lc] 64)).alloc (.cells #[.int .i64 (k : Int)] 3)) b ∨ w2.heap.size ≤ b) := ⟨fun b hb => .inl (.inl (HSS.out b (hlr.vb' hb)))⟩
        have f2 := hfit.tell (r := ⟨l, [(k : Int)]⟩) hlen (by simp)
        clear bx t2
        generalize hS2 : SN (SN S w w1) wr ((wr.alloc (.cells #[.int .i64 3, .int .i64 n, .string X, .slice la l.length lc] 64)).alloc (.cells #[.int .i64 (k : Int)] 3)) = S2 at d2 HLS2
        have HBS : Shut (S2 wr.heap.size) := ⟨by rw [← hS2]; exact hs2⟩
        have HS2 : Shut (∀ b, SN S w w1 b → S2 b) := ⟨fun b hb => by rw [← hS2]; exact .inl hb⟩
        clear hS2 kC ka hs2
        have hkw2 : Kept w0 w2 := kept_of (hk.trans k1) T2 HSS.out
        have c0 := bx2.cell 0
        have c1 := bx2.cell 1
        have c2 := bx2.cell 2
        have c3 := bx2.cell 3
        simp only [List.getElem?_cons_succ, List.getElem?_cons_zero] at c0 c1 c2 c3
        have kE : Kept w2 (w2.alloc (.cells #[.int .i64 (k : Int)] 3)) := (Kept.refl w2).alloc _
        have hc2 := tellW d2 f2 (by omega) kE ⟨[(k : Int)], l⟩ (hlr.kept (hkw2.trans kE)) HLS2.out (OwnI.rd (lit1 _ (k : Int))) (fun b hb => .inr (VB.new hb (Nat.le_refl _))) HKT.out hpt.out (by simp) hlen
        go_wp2_with fail
        (with_reducible refine hc2.mono ?_)
        clear hc2
        rintro e w4 ⟨rfl, d4, t4⟩
        have T4 : Turn (fun b => ¬ SN S w w1 b) w1 w4 := (T2.kept kE).trans (t4.mono fun b hb hs => hb (.inl (HS2.out b hs))) (fun b hb => .inl hb)
        go_wp2
        go_roundw
        case rel => exact ⟨k + 1, hlt, rfl, by rw [HST.out]; exact d4.less (fun b hb => .inl (HS2.out b hb)) hD.inS, T4⟩
        case measure => simp [intOf]; omega
      have b3 : (op == 3) = false := by simpa using o3
      by_cases o8 : op = 8
      · subst o8
        have hl4 : l.length = 4 := HR.out.may.p4 (.inl rfl)
        obtain ⟨l0, l1, l2, l3, rfl⟩ := four_of hl4
        obtain ⟨rb, ro, rfl, hx⟩ := hlr.at (i := 0) (by simp)
        simp only [List.length_cons, List.length_nil, Nat.zero_add, Nat.reduceAdd] at y3 hlr HLS hcap hlen l63
        clear hx hl4
        have HRBS : Shut (SN S w w1 rb) := ⟨HSS.out rb (hlr.vb' ⟨ro, none, 4, lc, by decide, rfl⟩)⟩
        have hsd : ∃ o, sealedTo ds ⟨8, n, s, [l0, l1, l2, l3]⟩ = o := ⟨_, rfl⟩
        obtain ⟨o, hsd⟩ := hsd
        have HSD := Shut.mk hsd
        have ka : Kept wr (wr.alloc (.cells #[.int .i64 8, .int .i64 n, .string X, .slice (some ⟨rb, ro, none⟩) 4 lc] 64)) := (Kept.refl wr).alloc _
        have kC := ka.alloc (.cells #[.int .i64 (k : Int)] 3)
        have bx := (Blk.new wr [.int .i64 8, .int .i64 n, .string X, .slice (some ⟨rb, ro, none⟩) 4 lc] 64).kept ((Kept.refl _).alloc (.cells #[.int .i64 (k : Int)] 3))
        have hc1 := tellW hD hfit (by omega) kC ⟨[l0, l1, l2, l3], [(k : Int)]⟩ (OwnI.rd (lit1 _ (k : Int))) (fun b hb => .inr (VB.new hb ka.size)) (hlr.kept (hkw.trans kC)) HLS.out hpt.out HKT.out hlen (by simp)
        rw [alloc_size] at hc1
        go_wp2_with fail
        (with_reducible refine hc1.mono ?_)
        clear hc1
        rintro e w2 ⟨rfl, d2, t2⟩
        have hs2 : SN (SN S w w1) wr ((wr.alloc (.cells #[.int .i64 8, .int .i64 n, .string X, .slice (some ⟨rb, ro, none⟩) 4 lc] 64)).alloc (.cells #[.int .i64 (k : Int)] 3)) wr.heap.size := .inr ⟨Nat.le_refl _, by simp; omega⟩
        have bx2 := bx.turn t2 (fun c => c hs2)
        have T2 : Turn (fun b => ¬ SN S w w1 b) w1 w2 := (hT.kept kC).trans (SN.turn t2) (fun b hb => .inl hb)
        have HLS2 : Shut (∀ b, VB (.slice (some ⟨rb, ro, none⟩) 4 lc) b → SN (SN S w w1) wr ((wr.alloc (.cells #[.int .i64 8, .int .i64 n, .string X, .slice (some ⟨rb, ro, none⟩) 4 lc] 64)).alloc (.cells #[.int .i64 (k : Int)] 3)) b ∨ w2.heap.size ≤ b) := ⟨fun b hb => .inl (.inl (HSS.out b (hlr.vb' hb)))⟩
        have f2 := hfit.tell (r := ⟨[l0, l1, l2, l3], [(k : Int)]⟩) hlen (by simp)
        clear bx t2
        generalize hS2 : SN (SN S w w1) wr ((wr.alloc (.cells #[.int .i64 8, .int .i64 n, .string X, .slice (some ⟨rb, ro, none⟩) 4 lc] 64)).alloc (.cells #[.int .i64 (k : Int)] 3)) = S2 at d2 HLS2
        have HBS : Shut (S2 wr.heap.size) := ⟨by rw [← hS2]; exact hs2⟩
        have HS2 : Shut (∀ b, SN S w w1 b → S2 b) := ⟨fun b hb => by rw [← hS2]; exact .inl hb⟩
        clear hS2 kC ka hs2
        have hkw2 : Kept w0 w2 := kept_of (hk.trans k1) T2 HSS.out
        have c0 := bx2.cell 0
        have c1 := bx2.cell 1
        have c2 := bx2.cell 2
        have c3 := bx2.cell 3
        simp only [List.getElem?_cons_succ, List.getElem?_cons_zero] at c0 c1 c2 c3
        have hrn : RdN w2 (.agg #[.int .i64 8, .int .i64 n, .string X, .slice (some ⟨rb, ro, none⟩) 4 lc]) (nd ds (k : Int)) := by
          rw [HR.out.nd, ← HXX.out]
          exact ⟨_, rfl, hlr.kept hkw2⟩
        have hse := sealed_any (hn.kept hkw2) hg hl HR.out.isT hrn
        rw [HR.out.nd, hsd] at hse
        clear hrn hsd
        cases o with
        | none =>
          go_wp2_with fail
          (with_reducible refine hse.mono ?_)
          clear hse
          rintro e w3 ⟨rfl, k3⟩
          go_wp2
          go_roundw
          case rel => exact ⟨k + 1, hlt, rfl, by rw [HST.out]; unfold openRules; rw [HSD.out]; exact (d2.since k3).less (fun b hb => .inl (HS2.out b hb)) hD.inS, T2.kept k3⟩
          case measure => simp [intOf]; omega
        | some sk =>
          have hskT : 0 ≤ sk ∧ sk < (ds.length : Int) := by
            have := openRules_terms hg HR.out.isT ⟨[(k : Int), sk], [l1, l2]⟩ (by rw [HR.out.nd]; unfold openRules; rw [HSD.out]; simp)
            exact this.1 sk (by simp)
          go_wp2_with fail
          (with_reducible refine hse.mono ?_)
          clear hse
          rintro e w3 ⟨rfl, k3⟩
          have c3' := (bx2.kept k3).cell 3
          simp only [List.getElem?_cons_succ, List.getElem?_cons_zero] at c3'
          have d3 := d2.since k3
          have kE : Kept w3 (w3.alloc (.cells #[.int .i64 (k : Int), .int .i64 sk] 3)) := (Kept.refl w3).alloc _
          have T3 := T2.kept k3
          have hkw3 : Kept w0 w3 := kept_of (hk.trans k1) T3 HSS.out
          have hc2 := tellW d3 f2 (by omega) kE ⟨[(k : Int), sk], [l1, l2]⟩ (tv := .slice (some ⟨rb, ro + 1, none⟩) 2 (lc - 1)) ((hlr.sub 1 3 (by omega) (by simp)).kept (hkw3.trans kE)) (fun b hb => .inl (.inl (by rw [hb.of]; exact HS2.out _ HRBS.out))) (OwnI.rd (lit2 _ (k : Int) sk)) (fun b hb => .inr (VB.new hb (Nat.le_refl _))) (fun y hy => by
            simp only [List.mem_cons, List.not_mem_nil, or_false] at hy
            rcases hy with rfl | rfl
            · exact hkk
            · exact hskT) (fun y hy => hpt.out y (by simp only [List.mem_cons, List.not_mem_nil, or_false] at hy ⊢; rcases hy with rfl | rfl <;> simp)) (by simp) (by simp)
          have HE : Shut (openRules ds (k : Int) ⟨8, n, s, [l0, l1, l2, l3]⟩ = [⟨[(k : Int), sk], [l1, l2]⟩]) := ⟨by unfold openRules; rw [HSD.out]; rfl⟩
          clear HSD
          go_wp2_with fail
          (with_reducible refine hc2.mono ?_)
          clear hc2
          rintro e w4 ⟨rfl, d4, t4⟩
          have T4 : Turn (fun b => ¬ SN S w w1 b) w1 w4 := (T3.kept kE).trans (t4.mono fun b hb hs => hb (.inl (.inl (HS2.out b hs)))) (fun b hb => .inl hb)
          go_wp2
          go_roundw
          case rel => exact ⟨k + 1, hlt, rfl, by rw [HST.out, HE.out]; exact d4.less (fun b hb => .inl (.inl (HS2.out b hb))) hD.inS, T4⟩
          case measure => simp [intOf]; omega
      have b8 : (op == 8) = false := by simpa using o8
      by_cases o9 : op = 9
      · subst o9
        have hl4 : l.length = 4 := HR.out.may.p4 (.inr rfl)
        obtain ⟨l0, l1, l2, l3, rfl⟩ := four_of hl4
        obtain ⟨rb, ro, rfl, hx⟩ := hlr.at (i := 0) (by simp)
        simp only [List.length_cons, List.length_nil, Nat.zero_add, Nat.reduceAdd] at y3 hlr HLS hcap hlen l63
        have HX := Shut.mk hx
        clear hx hl4
        have HRBS : Shut (SN S w w1 rb) := ⟨HSS.out rb (hlr.vb' ⟨ro, none, 4, lc, by decide, rfl⟩)⟩
        have ka : Kept wr (wr.alloc (.cells #[.int .i64 9, .int .i64 n, .string X, .slice (some ⟨rb, ro, none⟩) 4 lc] 64)) := (Kept.refl wr).alloc _
        have kC := ka.alloc (.cells #[.int .i64 (k : Int)] 3)
        have bx := (Blk.new wr [.int .i64 9, .int .i64 n, .string X, .slice (some ⟨rb, ro, none⟩) 4 lc] 64).kept ((Kept.refl _).alloc (.cells #[.int .i64 (k : Int)] 3))
        have hc1 := tellW hD hfit (by omega) kC ⟨[l0, l1, l2, l3], [(k : Int)]⟩ (OwnI.rd (lit1 _ (k : Int))) (fun b hb => .inr (VB.new hb ka.size)) (hlr.kept (hkw.trans kC)) HLS.out hpt.out HKT.out hlen (by simp)
        rw [alloc_size] at hc1
        go_wp2_with fail
        (with_reducible refine hc1.mono ?_)
        clear hc1
        rintro e w2 ⟨rfl, d2, t2⟩
        have hs2 : SN (SN S w w1) wr ((wr.alloc (.cells #[.int .i64 9, .int .i64 n, .string X, .slice (some ⟨rb, ro, none⟩) 4 lc] 64)).alloc (.cells #[.int .i64 (k : Int)] 3)) wr.heap.size := .inr ⟨Nat.le_refl _, by simp; omega⟩
        have bx2 := bx.turn t2 (fun c => c hs2)
        have T2 : Turn (fun b => ¬ SN S w w1 b) w1 w2 := (hT.kept kC).trans (SN.turn t2) (fun b hb => .inl hb)
        have HLS2 : Shut (∀ b, VB (.slice (some ⟨rb, ro, none⟩) 4 lc) b → SN (SN S w w1) wr ((wr.alloc (.cells #[.int .i64 9, .int .i64 n, .string X, .slice (some ⟨rb, ro, none⟩) 4 lc] 64)).alloc (.cells #[.int .i64 (k : Int)] 3)) b ∨ w2.heap.size ≤ b) := ⟨fun b hb => .inl (.inl (HSS.out b (hlr.vb' hb)))⟩
        have f2 := hfit.tell (r := ⟨[l0, l1, l2, l3], [(k : Int)]⟩) hlen (by simp)
        clear bx t2
        generalize hS2 : SN (SN S w w1) wr ((wr.alloc (.cells #[.int .i64 9, .int .i64 n, .string X, .slice (some ⟨rb, ro, none⟩) 4 lc] 64)).alloc (.cells #[.int .i64 (k : Int)] 3)) = S2 at d2 HLS2
        have HBS : Shut (S2 wr.heap.size) := ⟨by rw [← hS2]; exact hs2⟩
        have HS2 : Shut (∀ b, SN S w w1 b → S2 b) := ⟨fun b hb => by rw [← hS2]; exact .inl hb⟩
        clear hS2 kC ka hs2
        have hkw2 : Kept w0 w2 := kept_of (hk.trans k1) T2 HSS.out
        have c0 := bx2.cell 0
        have c1 := bx2.cell 1
        have c2 := bx2.cell 2
        have c3 := bx2.cell 3
        simp only [List.getElem?_cons_succ, List.getElem?_cons_zero] at c0 c1 c2 c3
        have x0 : w2.cell? ⟨rb, ro, none⟩ = some (.int .i64 l0) := HX.out w2 hkw2
        have kL : Kept w2 (w2.alloc (.cells #[.int .i64 (k : Int), .int .i64 l0] 3)) := (Kept.refl w2).alloc _
        have hc2 : ∀ W, Kept (w2.alloc (.cells #[.int .i64 (k : Int), .int .i64 l0] 3)) W → Calls Tryd.prog 81 #[.slice (some ⟨rb, ro + 1, none⟩) 3 (lc - 1), .slice (some ⟨w2.heap.size, 0, none⟩) 2 2, .pointer (some ⟨x.xb, 0, none⟩), .pointer (some ⟨x.wb, 0, none⟩), .pointer (some ⟨x.rb, 0, none⟩)] W (TellWPost S2 w2 W x (tell (tell s0 ⟨[l0, l1, l2, l3], [(k : Int)]⟩) ⟨[(k : Int), l0], [l1, l2, l3]⟩)) := fun W kW =>
          tellW d2 f2 (by omega) (kL.trans kW) ⟨[(k : Int), l0], [l1, l2, l3]⟩ ((hlr.sub 1 4 (by omega) (by simp)).kept (hkw2.trans (kL.trans kW))) (fun b hb => .inl (by rw [hb.of]; exact HS2.out _ HRBS.out)) (RdI.kept (OwnI.rd (lit2 w2 (k : Int) l0)) kW) (fun b hb => .inr (VB.new hb (Nat.le_refl _))) (fun y hy => by
            simp only [List.mem_cons, List.not_mem_nil, or_false] at hy
            rcases hy with rfl | rfl
            · exact hkk
            · exact hpt.out _ (by simp)) (fun y hy => hpt.out y (by simp only [List.mem_cons, List.not_mem_nil, or_false] at hy ⊢; rcases hy with rfl | rfl | rfl <;> simp)) (by simp) (by simp)
        have hlc1 : (lc = 1) = False := eq_false (by omega)
        have hlcI : (1 : Int) ≤ (lc : Int) := by omega
        have hlcN : 1 ≤ lc := by omega
        have hold2 : ∀ b, S2 b → b < w2.heap.size := fun b hb => d2.old b hb
        have hbS : S2 wr.heap.size := HBS.out
        have hrS : S2 rb := HS2.out _ HRBS.out
        have HOLD := Shut.mk hold2
        clear hold2
        go_wp2_with fail
        go_region_held3 (fun w' => w'.cell? ⟨wr.heap.size, 3, none⟩ = some (.slice (some ⟨rb, ro, none⟩) 4 lc) ∧ w'.cell? ⟨rb, ro, none⟩ = some (.int .i64 l0))
          (first | exact ⟨c3, x0⟩ | assumption | go_keep)
          ((go_at_call 81; (with_reducible refine (hc2 _ (by first | exact Kept.refl _ | exact (Kept.refl _).drew | exact (Kept.refl _).drewN _)).mono ?_); rintro e w4 ⟨rfl, d4, t4⟩; have k4 := (by first | exact kL | exact kL.drew | exact kL.drewN _ : Kept w2 _).turn (fun b => ¬ S2 b) |>.trans (SN.turn t4) (fun b hb => .inl hb); have s4 : w4.cell? ⟨wr.heap.size, 3, none⟩ = some (.slice (some ⟨rb, ro, none⟩) 4 lc) ∧ w4.cell? ⟨rb, ro, none⟩ = some (.int .i64 l0) := ⟨(World.cell?_of_block (k4.block _ (HOLD.out _ hbS) (fun c => c hbS))).trans c3, (World.cell?_of_block (k4.block _ (HOLD.out _ hrS) (fun c => c hrS))).trans x0⟩))
        all_goals
          have T4 : Turn (fun b => ¬ SN S w w1 b) w1 w4 := T2.trans (k4.mono fun b hb hs => hb (HS2.out b hs)) (fun b hb => .inl hb)
          go_wp2
          go_roundw
          case rel => exact ⟨k + 1, hlt, rfl, by rw [HST.out]; exact d4.less (fun b hb => .inl (HS2.out b hb)) hD.inS, T4⟩
          case measure => simp [intOf]; omega
      have b9 : (op == 9) = false := by simpa using o9
      by_cases o12 : op = 12
      · subst o12
        have hl4 : l.length = 2 := HR.out.may.p2 (.inr rfl)
        obtain ⟨l0, l1, rfl⟩ := two_of hl4
        obtain ⟨rb, ro, rfl, hx⟩ := hlr.at (i := 1) (by simp)
        simp only [List.length_cons, List.length_nil, Nat.zero_add, Nat.reduceAdd] at y3 hlr HLS hcap hlen l63
        have HX := Shut.mk hx
        clear hx hl4
        have HRBS : Shut (SN S w w1 rb) := ⟨HSS.out rb (hlr.vb' ⟨ro, none, 2, lc, by decide, rfl⟩)⟩
        have ka : Kept wr (wr.alloc (.cells #[.int .i64 12, .int .i64 n, .string X, .slice (some ⟨rb, ro, none⟩) 2 lc] 64)) := (Kept.refl wr).alloc _
        have kC := ka.alloc (.cells #[.int .i64 (k : Int)] 3)
        have bx := (Blk.new wr [.int .i64 12, .int .i64 n, .string X, .slice (some ⟨rb, ro, none⟩) 2 lc] 64).kept ((Kept.refl _).alloc (.cells #[.int .i64 (k : Int)] 3))
        have hc1 := tellW hD hfit (by omega) kC ⟨[l0, l1], [(k : Int)]⟩ (OwnI.rd (lit1 _ (k : Int))) (fun b hb => .inr (VB.new hb ka.size)) (hlr.kept (hkw.trans kC)) HLS.out hpt.out HKT.out hlen (by simp)
        rw [alloc_size] at hc1
        go_wp2_with fail
        (with_reducible refine hc1.mono ?_)
        clear hc1
        rintro e w2 ⟨rfl, d2, t2⟩
        have hs2 : SN (SN S w w1) wr ((wr.alloc (.cells #[.int .i64 12, .int .i64 n, .string X, .slice (some ⟨rb, ro, none⟩) 2 lc] 64)).alloc (.cells #[.int .i64 (k : Int)] 3)) wr.heap.size := .inr ⟨Nat.le_refl _, by simp; omega⟩
        have bx2 := bx.turn t2 (fun c => c hs2)
        have T2 : Turn (fun b => ¬ SN S w w1 b) w1 w2 := (hT.kept kC).trans (SN.turn t2) (fun b hb => .inl hb)
        have HLS2 : Shut (∀ b, VB (.slice (some ⟨rb, ro, none⟩) 2 lc) b → SN (SN S w w1) wr ((wr.alloc (.cells #[.int .i64 12, .int .i64 n, .string X, .slice (some ⟨rb, ro, none⟩) 2 lc] 64)).alloc (.cells #[.int .i64 (k : Int)] 3)) b ∨ w2.heap.size ≤ b) := ⟨fun b hb => .inl (.inl (HSS.out b (hlr.vb' hb)))⟩
        have f2 := hfit.tell (r := ⟨[l0, l1], [(k : Int)]⟩) hlen (by simp)
        clear bx t2
        generalize hS2 : SN (SN S w w1) wr ((wr.alloc (.cells #[.int .i64 12, .int .i64 n, .string X, .slice (some ⟨rb, ro, none⟩) 2 lc] 64)).alloc (.cells #[.int .i64 (k : Int)] 3)) = S2 at d2 HLS2
        have HBS : Shut (S2 wr.heap.size) := ⟨by rw [← hS2]; exact hs2⟩
        have HS2 : Shut (∀ b, SN S w w1 b → S2 b) := ⟨fun b hb => by rw [← hS2]; exact .inl hb⟩
        clear hS2 kC ka hs2
        have hkw2 : Kept w0 w2 := kept_of (hk.trans k1) T2 HSS.out
        have c0 := bx2.cell 0
        have c1 := bx2.cell 1
        have c2 := bx2.cell 2
        have c3 := bx2.cell 3
        simp only [List.getElem?_cons_succ, List.getElem?_cons_zero] at c0 c1 c2 c3
        have x0 : w2.cell? ⟨rb, ro + 1, none⟩ = some (.int .i64 l1) := HX.out w2 hkw2
        have kL : Kept w2 (w2.alloc (.cells #[.int .i64 (k : Int), .int .i64 l1] 3)) := (Kept.refl w2).alloc _
        have hc2 : ∀ W, Kept (w2.alloc (.cells #[.int .i64 (k : Int), .int .i64 l1] 3)) W → Calls Tryd.prog 81 #[.slice (some ⟨rb, ro, none⟩) 1 lc, .slice (some ⟨w2.heap.size, 0, none⟩) 2 2, .pointer (some ⟨x.xb, 0, none⟩), .pointer (some ⟨x.wb, 0, none⟩), .pointer (some ⟨x.rb, 0, none⟩)] W (TellWPost S2 w2 W x (tell (tell s0 ⟨[l0, l1], [(k : Int)]⟩) ⟨[(k : Int), l1], [l0]⟩)) := fun W kW =>
          tellW d2 f2 (by omega) (kL.trans kW) ⟨[(k : Int), l1], [l0]⟩ ((hlr.sub 0 1 (by omega) (by simp)).kept (hkw2.trans (kL.trans kW))) (fun b hb => .inl (by rw [hb.of]; exact HS2.out _ HRBS.out)) (RdI.kept (OwnI.rd (lit2 w2 (k : Int) l1)) kW) (fun b hb => .inr (VB.new hb (Nat.le_refl _))) (fun y hy => by
            simp only [List.mem_cons, List.not_mem_nil, or_false] at hy
            rcases hy with rfl | rfl
            · exact hkk
            · exact hpt.out _ (by simp)) (fun y hy => hpt.out y (by simp only [List.mem_cons, List.not_mem_nil, or_false] at hy ⊢; rcases hy with rfl <;> simp)) (by simp) (by simp)
        have hlc1 : (lc = 1) = False := eq_false (by omega)
        have hlcI : (1 : Int) ≤ (lc : Int) := by omega
        have hlcN : 1 ≤ lc := by omega
        have hold2 : ∀ b, S2 b → b < w2.heap.size := fun b hb => d2.old b hb
        have hbS : S2 wr.heap.size := HBS.out
        have hrS : S2 rb := HS2.out _ HRBS.out
        have HOLD := Shut.mk hold2
        clear hold2
        go_wp2_with fail
        go_region_held3 (fun w' => w'.cell? ⟨wr.heap.size, 3, none⟩ = some (.slice (some ⟨rb, ro, none⟩) 2 lc) ∧ w'.cell? ⟨rb, ro + 1, none⟩ = some (.int .i64 l1))
          (first | exact ⟨c3, x0⟩ | assumption | go_keep)
          ((go_at_call 81; (with_reducible refine (hc2 _ (by first | exact Kept.refl _ | exact (Kept.refl _).drew | exact (Kept.refl _).drewN _)).mono ?_); rintro e w4 ⟨rfl, d4, t4⟩; have k4 := (by first | exact kL | exact kL.drew | exact kL.drewN _ : Kept w2 _).turn (fun b => ¬ S2 b) |>.trans (SN.turn t4) (fun b hb => .inl hb); have s4 : w4.cell? ⟨wr.heap.size, 3, none⟩ = some (.slice (some ⟨rb, ro, none⟩) 2 lc) ∧ w4.cell? ⟨rb, ro + 1, none⟩ = some (.int .i64 l1) := ⟨(World.cell?_of_block (k4.block _ (HOLD.out _ hbS) (fun c => c hbS))).trans c3, (World.cell?_of_block (k4.block _ (HOLD.out _ hrS) (fun c => c hrS))).trans x0⟩))
        all_goals
          have T4 : Turn (fun b => ¬ SN S w w1 b) w1 w4 := T2.trans (k4.mono fun b hb hs => hb (HS2.out b hs)) (fun b hb => .inl hb)
          go_wp2
          go_roundw
          case rel => exact ⟨k + 1, hlt, rfl, by rw [HST.out]; exact d4.less (fun b hb => .inl (HS2.out b hb)) hD.inS, T4⟩
          case measure => simp [intOf]; omega
      have b12 : (op == 12) = false := by simpa using o12
      by_cases o10 : op = 10
      · subst o10
        have hl4 : l.length = 2 := HR.out.may.p2 (.inl rfl)
        obtain ⟨l0, l1, rfl⟩ := two_of hl4
        obtain ⟨rb, ro, hla, hx⟩ := hlr.at (i := 0) (by simp)
        obtain ⟨rb', ro', hla', hx1⟩ := hlr.at (i := 1) (by simp)
        subst hla
        simp only [Option.some.injEq, Addr.mk.injEq, and_true] at hla'
        obtain ⟨rfl, rfl⟩ := hla'
        simp only [List.length_cons, List.length_nil, Nat.zero_add, Nat.reduceAdd] at y3 hlr HLS hcap hlen l63
        have HX := Shut.mk hx
        have HX1 := Shut.mk hx1
        clear hx hx1 hl4
        have HRBS : Shut (SN S w w1 rb) := ⟨HSS.out rb (hlr.vb' ⟨ro, none, 2, lc, by decide, rfl⟩)⟩
        have hmT : IsT ds l1 := hpt.out l1 (by simp)
        have h0T : IsT ds l0 := hpt.out l0 (by simp)
        obtain ⟨km, nb', noff', ncap', ma, mc, rfl, hkm, hnv, hcl', hmr⟩ := hn.atT hmT
        simp only [Value.slice.injEq, Option.some.injEq, Addr.mk.injEq, and_true, true_and] at hnv
        obtain ⟨⟨rfl, rfl⟩, rfl⟩ := hnv
        have HMM := Shut.mk (hg.mayT hmT)
        have HMP := Shut.mk (hg.partT hmT)
        generalize hmd : nd ds (km : Int) = md at hcl' hmr HMM HMP
        have HMD := Shut.mk hmd
        clear hmd
        obtain ⟨mop, mn, msx, ml⟩ := md
        simp only at hcl' hmr HMM HMP
        have HCL := Shut.mk hcl'
        clear hcl'
        have ka : Kept wr (wr.alloc (.cells #[.int .i64 10, .int .i64 n, .string X, .slice (some ⟨rb, ro, none⟩) 2 lc] 64)) := (Kept.refl wr).alloc _
        have kC := ka.alloc (.cells #[.int .i64 (k : Int)] 3)
        have bx := (Blk.new wr [.int .i64 10, .int .i64 n, .string X, .slice (some ⟨rb, ro, none⟩) 2 lc] 64).kept ((Kept.refl _).alloc (.cells #[.int .i64 (k : Int)] 3))
        have hc1 := tellW hD hfit (by omega) kC ⟨[l0, (km : Int)], [(k : Int)]⟩ (OwnI.rd (lit1 _ (k : Int))) (fun b hb => .inr (VB.new hb ka.size)) (hlr.kept (hkw.trans kC)) HLS.out hpt.out HKT.out hlen (by simp)
        rw [alloc_size] at hc1
        go_wp2_with fail
        (with_reducible refine hc1.mono ?_)
        clear hc1
        rintro e w2 ⟨rfl, d2, t2⟩
        have hs2 : SN (SN S w w1) wr ((wr.alloc (.cells #[.int .i64 10, .int .i64 n, .string X, .slice (some ⟨rb, ro, none⟩) 2 lc] 64)).alloc (.cells #[.int .i64 (k : Int)] 3)) wr.heap.size := .inr ⟨Nat.le_refl _, by simp; omega⟩
        have bx2 := bx.turn t2 (fun c => c hs2)
        have T2 : Turn (fun b => ¬ SN S w w1 b) w1 w2 := (hT.kept kC).trans (SN.turn t2) (fun b hb => .inl hb)
        have HLS2 : Shut (∀ b, VB (.slice (some ⟨rb, ro, none⟩) 2 lc) b → SN (SN S w w1) wr ((wr.alloc (.cells #[.int .i64 10, .int .i64 n, .string X, .slice (some ⟨rb, ro, none⟩) 2 lc] 64)).alloc (.cells #[.int .i64 (k : Int)] 3)) b ∨ w2.heap.size ≤ b) := ⟨fun b hb => .inl (.inl (HSS.out b (hlr.vb' hb)))⟩
        have f2 := hfit.tell (r := ⟨[l0, (km : Int)], [(k : Int)]⟩) hlen (by simp)
        clear bx t2
        generalize hS2 : SN (SN S w w1) wr ((wr.alloc (.cells #[.int .i64 10, .int .i64 n, .string X, .slice (some ⟨rb, ro, none⟩) 2 lc] 64)).alloc (.cells #[.int .i64 (k : Int)] 3)) = S2 at d2 HLS2
        have HBS : Shut (S2 wr.heap.size) := ⟨by rw [← hS2]; exact hs2⟩
        have HS2 : Shut (∀ b, SN S w w1 b → S2 b) := ⟨fun b hb => by rw [← hS2]; exact .inl hb⟩
        clear hS2 kC ka hs2
        have hkw2 : Kept w0 w2 := kept_of (hk.trans k1) T2 HSS.out
        have c0 := bx2.cell 0
        have c1 := bx2.cell 1
        have c2 := bx2.cell 2
        have c3 := bx2.cell 3
        simp only [List.getElem?_cons_succ, List.getElem?_cons_zero] at c0 c1 c2 c3
        have kE : Kept w2 (w2.alloc (.cells #[.int .i64 (k : Int)] 3)) := (Kept.refl w2).alloc _
        have hc2 := tellW d2 f2 (by omega) kE ⟨[(k : Int)], [(km : Int)]⟩ (tv := .slice (some ⟨rb, ro + 1, none⟩) 1 (lc - 1)) ((hlr.sub 1 2 (by omega) (by simp)).kept (hkw2.trans kE)) (fun b hb => .inl (by rw [hb.of]; exact HS2.out _ HRBS.out)) (OwnI.rd (lit1 _ (k : Int))) (fun b hb => .inr (VB.new hb (Nat.le_refl _))) HKT.out (fun y hy => hpt.out y (by simp only [List.mem_cons, List.not_mem_nil, or_false] at hy ⊢; exact .inr hy)) (by simp) (by simp)
        have f4 := f2.tell (r := ⟨[(k : Int)], [(km : Int)]⟩) (by simp) (by simp)
        have hlc1 : (lc = 1) = False := eq_false (by omega)
        go_wp2_with fail
        (with_reducible refine hc2.mono ?_)
        clear hc2
        rintro e w4 ⟨rfl, d4, t4⟩
        have T4 : Turn (fun b => ¬ SN S w w1 b) w1 w4 := (T2.kept kE).trans (t4.mono fun b hb hs => hb (.inl (HS2.out b hs))) (fun b hb => .inl hb)
        have bx4 := (bx2.kept kE).turn t4 (fun c => c (.inl HBS.out))
        have hkw4 : Kept w0 w4 := kept_of (hk.trans k1) T4 HSS.out
        have HS4 : Shut (∀ b, SN S w w1 b → SN S2 w2 (w2.alloc (.cells #[.int .i64 (k : Int)] 3)) b) := ⟨fun b hb => .inl (HS2.out b hb)⟩
        generalize SN S2 w2 (w2.alloc (.cells #[.int .i64 (k : Int)] 3)) = S4 at d4 t4 HS4
        have hm4 := hm.turn T4 (fun c => c hmS)
        clear bx2 d2 t4 c0 c1 c2 c3 kE T2 HLS2 HS2 HBS f2
        have c0 := bx4.cell 0
        have c3 := bx4.cell 3
        simp only [List.getElem?_cons_succ, List.getElem?_cons_zero] at c0 c3
        obtain ⟨q0, q1, q2, q3⟩ := HCL.out w4 hkw4
        have hkm' : (km : Int) < (ds.length : Int) := by omega
        have x1 : w4.cell? ⟨rb, ro + 1, none⟩ = some (.int .i64 (km : Int)) := HX1.out w4 hkw4
        generalize strB msx = Y at q2
        have ka4 : Kept w4 (w4.alloc (.cells #[.int .i64 mop, .int .i64 mn, .string Y, .slice ma ml.length mc] 64)) := (Kept.refl w4).alloc _
        by_cases m12 : mop = 12
        · subst m12
          have hm2 : ml.length = 2 := HMM.out.p2 (.inr rfl)
          obtain ⟨m0, m1, rfl⟩ := two_of hm2
          obtain ⟨sb, so, hma, hz⟩ := hmr.at (i := 0) (by simp)
          obtain ⟨sb', so', hma', hz1⟩ := hmr.at (i := 1) (by simp)
          subst hma
          simp only [Option.some.injEq, Addr.mk.injEq, and_true] at hma'
          obtain ⟨rfl, rfl⟩ := hma'
          simp only [List.length_cons, List.length_nil, Nat.zero_add, Nat.reduceAdd] at q3 hmr ka4
          have hm0T : IsT ds m0 := HMP.out m0 (by simp)
          have hm1T : IsT ds m1 := HMP.out m1 (by simp)
          have bm := Blk.new w4 [.int .i64 12, .int .i64 mn, .string Y, .slice (some ⟨sb, so, none⟩) 2 mc] 64
          have c3' := (bx4.kept ka4).cell 3
          have b0 := bm.cell 0
          have b3 := bm.cell 3
          simp only [List.getElem?_cons_succ, List.getElem?_cons_zero] at c3' b0 b3
          have z0 := hz _ (hkw4.trans ka4)
          have z1 := hz1 _ (hkw4.trans ka4)
          have x0 := HX.out _ (hkw4.trans ka4)
          have hm5 := hm4.kept ka4
          have d5 := d4.since ka4
          have T5 := T4.kept ka4
          have hkw5 := hkw4.trans ka4
          simp only [Nat.add_zero] at z0 x0
          have i64T : ∀ y, IsT ds y → I64 y := fun y hy => ⟨by have := hy.1; omega, by have := hy.2; omega⟩
          obtain ⟨c, hlook, hcs⟩ := hm5.look hg hl (i64T l0 h0T) (i64T m0 hm0T)
          clear i64T hz hz1 hm2
          have HCS := Shut.mk hcs
          clear hcs
          have HE : Shut (openRules ds (k : Int) ⟨10, n, s, [l0, (km : Int)]⟩ = ⟨[(k : Int)], [(km : Int)]⟩ :: (match sigAt ds l0 m0 with | some s => [⟨[(k : Int), m1], [s]⟩] | none => [])) := ⟨by
            unfold openRules
            simp only [List.getD_cons_zero, List.getD_cons_succ, HMD.out]
            rfl⟩
          go_upto_region 21 with fail
          generalize hW5 : w4.alloc (.cells #[.int .i64 12, .int .i64 mn, .string Y, .slice (some ⟨sb, so, none⟩) 2 mc] 64) = w5 at bm c3' b0 b3 z0 z1 x0 hm5 d5 T5 hkw5 hlook ⊢
          cases hsg2 : sigAt ds l0 m0 with
          | none =>
            rw [hsg2] at hlook HE
            simp only [Option.isSome_none] at hlook
            clear hsg2 HCS
            go_quiet (fail)
            go_wp2
            go_roundw
            case rel => exact ⟨k + 1, hlt, rfl, by rw [HST.out, HE.out]; exact (d5.since ((Kept.refl _).drewN _)).less (fun b hb => .inl (.inl (HS4.out b hb))) hD.inS, T5.kept ((Kept.refl _).drewN _)⟩
            case measure => simp [intOf]; omega
          | some sg =>
            rw [hsg2] at hlook HE
            simp only [Option.isSome_some] at hlook
            obtain rfl := HCS.out sg hsg2
            have hcT := (sig_some hsg2).1
            clear hsg2 HCS
            go_quiet (fail)
            have kq : Kept w5 (w5.drewN nq) := (Kept.refl _).drewN _
            have e3 := kq.cell (p := ⟨w4.heap.size, 3, none⟩) (World.block_lt_of_cell? _ _ b3) |>.trans b3
            have e1 := kq.cell (p := ⟨sb, so + 1, none⟩) (World.block_lt_of_cell? _ _ z1) |>.trans z1
            generalize w5.drewN nq = w6 at kq e3 e1 ⊢
            have e3' := ((Kept.refl w6).alloc (.cells #[.int .i64 c] 3)).cell (p := ⟨w4.heap.size, 3, none⟩) (World.block_lt_of_cell? _ _ e3) |>.trans e3
            have e1' := ((Kept.refl w6).alloc (.cells #[.int .i64 c] 3)).cell (p := ⟨sb, so + 1, none⟩) (World.block_lt_of_cell? _ _ e1) |>.trans e1
            have kW := (kq.alloc (.cells #[.int .i64 c] 3)).alloc (.cells #[.int .i64 (k : Int), .int .i64 m1] 3)
            have hc3 := tellW d5 f4 (by omega) kW ⟨[(k : Int), m1], [c]⟩ ((OwnI.rd (lit1 w6 c)).kept ((Kept.refl _).alloc (.cells #[.int .i64 (k : Int), .int .i64 m1] 3))) (fun b hb => .inr (VB.new hb kq.size)) (OwnI.rd (lit2 (w6.alloc (.cells #[.int .i64 c] 3)) (k : Int) m1)) (fun b hb => .inr (VB.new hb (kq.alloc _).size)) (fun y hy => by
              simp only [List.mem_cons, List.not_mem_nil, or_false] at hy
              rcases hy with rfl | rfl
              · exact hkk
              · exact hm1T) (fun y hy => by rw [List.mem_singleton.1 hy]; exact hcT) (by simp) (by simp)
            rw [alloc_size] at hc3
            clear b0 b3 z0 z1 x0 c3' hlook bm
            go_wp2_with fail
            (with_reducible refine hc3.mono ?_)
            clear hc3
            rintro e w7 ⟨rfl, d7, t7⟩
            have T7 : Turn (fun b => ¬ SN S w w1 b) w1 w7 := (T5.kept kW).trans (t7.mono fun b hb hs => hb (.inl (.inl (HS4.out b hs)))) (fun b hb => .inl hb)
            go_wp2
            go_roundw
            case rel => exact ⟨k + 1, hlt, rfl, by rw [HST.out, HE.out]; exact d7.less (fun b hb => .inl (.inl (HS4.out b hb))) hD.inS, T7⟩
            case measure => simp [intOf]; omega
        · have hb1 : (mop == 12) = false := by simpa using m12
          have hb2 : (mop != 12) = true := by simpa using m12
          have HE : Shut (openRules ds (k : Int) ⟨10, n, s, [l0, (km : Int)]⟩ = [⟨[(k : Int)], [(km : Int)]⟩]) := ⟨by
            unfold openRules
            simp only [List.getD_cons_zero, List.getD_cons_succ, HMD.out, m12, if_false]
            rfl⟩
          clear m12
          go_wp2
          go_roundw
          case rel => exact ⟨k + 1, hlt, rfl, by rw [HST.out, HE.out]; exact (d4.since ka4).less (fun b hb => .inl (HS4.out b hb)) hD.inS, T4.kept ka4⟩
          case measure => simp [intOf]; omega
      have b10 : (op == 10) = false := by simpa using o10
      have ka : Kept wr (wr.alloc (.cells #[.int .i64 op, .int .i64 n, .string X, .slice la l.length lc] 64)) := (Kept.refl wr).alloc _
      have kC := ka.alloc (.cells #[.int .i64 (k : Int)] 3)
      have bx := (Blk.new wr [.int .i64 op, .int .i64 n, .string X, .slice la l.length lc] 64).kept ((Kept.refl _).alloc (.cells #[.int .i64 (k : Int)] 3))
      have hc1 := tellW hD hfit (by omega) kC ⟨l, [(k : Int)]⟩ (OwnI.rd (lit1 _ (k : Int))) (fun b hb => .inr (VB.new hb ka.size)) (hlr.kept (hkw.trans kC)) HLS.out hpt.out HKT.out hlen (by simp)
      rw [alloc_size] at hc1
      go_wp2_with fail
      (with_reducible refine hc1.mono ?_)
      clear hc1
      rintro e w2 ⟨rfl, d2, t2⟩
      have hs2 : SN (SN S w w1) wr ((wr.alloc (.cells #[.int .i64 op, .int .i64 n, .string X, .slice la l.length lc] 64)).alloc (.cells #[.int .i64 (k : Int)] 3)) wr.heap.size := .inr ⟨Nat.le_refl _, by simp; omega⟩
      have bx2 := bx.turn t2 (fun c => c hs2)
      have T2 : Turn (fun b => ¬ SN S w w1 b) w1 w2 := (hT.kept kC).trans (SN.turn t2) (fun b hb => .inl hb)
      have HLS2 : Shut (∀ b, VB (.slice la l.length lc) b → SN (SN S w w1) wr ((wr.alloc (.cells #[.int .i64 op, .int .i64 n, .string X, .slice la l.length lc] 64)).alloc (.cells #[.int .i64 (k : Int)] 3)) b ∨ w2.heap.size ≤ b) := ⟨fun b hb => .inl (.inl (HSS.out b (hlr.vb' hb)))⟩
      have f2 := hfit.tell (r := ⟨l, [(k : Int)]⟩) hlen (by simp)
      clear bx t2
      generalize hS2 : SN (SN S w w1) wr ((wr.alloc (.cells #[.int .i64 op, .int .i64 n, .string X, .slice la l.length lc] 64)).alloc (.cells #[.int .i64 (k : Int)] 3)) = S2 at d2 HLS2
      have HBS : Shut (S2 wr.heap.size) := ⟨by rw [← hS2]; exact hs2⟩
      have HS2 : Shut (∀ b, SN S w w1 b → S2 b) := ⟨fun b hb => by rw [← hS2]; exact .inl hb⟩
      clear hS2 kC ka hs2
      have hkw2 : Kept w0 w2 := kept_of (hk.trans k1) T2 HSS.out
      have c0 := bx2.cell 0
      have c1 := bx2.cell 1
      have c2 := bx2.cell 2
      have c3 := bx2.cell 3
      simp only [List.getElem?_cons_succ, List.getElem?_cons_zero] at c0 c1 c2 c3
      have HE : Shut (openRules ds (k : Int) ⟨op, n, s, l⟩ = []) := ⟨by unfold openRules; rw [if_neg o3, if_neg o8, if_neg o9, if_neg o12, if_neg o10]⟩
      have H1 := Shut.mk o1
      clear o1 o3 o8 o9 o10 o12
      go_wp2
      go_roundw
      case rel => exact ⟨k + 1, hlt, rfl, by rw [HST.out, HE.out, if_neg H1.out]; exact d2.less HS2.out hD.inS, T2⟩
      case measure => simp [intOf]; omega
    · obtain rfl : k = ds.length := by omega
      go_wp2
      go_end0
      exact ⟨rfl, by rw [← stK_all]; exact hD.less (fun b hb => .inl hb) h.inS, (k1.turn _).trans (SN.turn hT) (fun b hb => .inl hb)⟩
end Go.Proofs.YtekieioffaafaaaDoor
end

section
/- What can be derived: the walk of derived. -/
set_option linter.unusedSimpArgs false
set_option linter.unusedVariables false
namespace Go.Proofs.YtekieioffaafaaaDoor
open Go.RowKit Go.Maps

def DerivedPost (w : World) (ds : List Nd) (l : List Int) (e : Ending) (w' : World) : Prop :=
  ∃ kv bs, e = .returned kv ∧ OwnB w.heap.size w' kv bs ∧ bs.length = ds.length ∧ (∀ t : Nat, t < ds.length → (bs.getD t false = true ↔ Der ds l (t : Int))) ∧ Kept w w'

theorem DvW.ruleNe {FW S : Nat → Prop} {w : World} {x : Bx} {st : St} (h : DvW FW S w x st) {g cap : Nat} (hc : w.cell? ⟨x.rb, 0, none⟩ = some (.slice (some ⟨g, 0, none⟩) st.rs.length cap)) : x.rb ≠ g := by
  obtain ⟨FK, FR, q1, q2, q3, q4, q5, q6⟩ := h.rep
  obtain ⟨rv, tvs, h1, h2, h3, h4, h5, h6, h7⟩ := q3.rep
  have e0 := h1.cell 0
  rw [hc] at e0
  simp only [List.getElem?_cons_zero, Option.some.injEq] at e0
  subst e0
  exact fun e => Ownv.notBlk h2 h1 (by decide) (e ▸ rfl)
set_option maxHeartbeats 16000000 in
set_option maxRecDepth 100000 in
theorem derived_any {w : World} {nv v : Value} {ds : List Nd} {l : List Int} (hn : RdNs w nv ds) (hv : RdI w v l) (hg : Good ds) (hl : ds.length ≤ 100000) (hT : ∀ x ∈ l, IsT ds x) (hll : l.length ≤ 1000000) :
    Calls Tryd.prog 69 #[nv, v] w (DerivedPost w ds l) := by
  obtain ⟨na, ncap, rfl, n1, n2, _⟩ := hn.len
  have n63 : ((ds.length : Nat) : Int) ≤ 9223372036854775807 := by omega
  have hmf : ∀ (fn : Fn) (first cap : Array Value) (w : World), (Instr.makeFunc fn first cap).run Tryd.prog w = .ok (.func fn first cap) w := fun _ _ _ _ => rfl
  go_enter Tryd.func69, Tryd.ntmps69
  go_wp2_with (first
    | (at_make; refine go_mkbool ds.length _ rfl rfl rfl (by omega) ?_; intro w1 o1 k1 _)
    | (at_make; refine go_mkll ds.length _ rfl rfl rfl (by omega) ?_; intro w2 o2 k2 _)
    | fail)
  have s1 : w.heap.size < w1.heap.size := (Ownv.lt o1 rfl).1
  have s2 : w1.heap.size + 1 < w2.heap.size := by
    have := (Ownv.lt o2 rfl).1
    rw [alloc_size] at this
    exact this
  rw [alloc_size] at o2
  have kA : Kept w (w1.alloc (.cells #[.slice (some ⟨w.heap.size, 0, none⟩) ds.length ds.length] 112)) := k1.alloc _
  have b1 := (Blk.new w1 [.slice (some ⟨w.heap.size, 0, none⟩) ds.length ds.length] 112).kept k2
  have o1' : OwnB _ _ _ _ := Ownv.kept (Ownv.kept o1 ((Kept.refl w1).alloc (.cells #[.slice (some ⟨w.heap.size, 0, none⟩) ds.length ds.length] 112))) k2
  have kB := kA.trans k2
  obtain ⟨W, hW⟩ : ∃ W, W = ((((w2.alloc (.cells #[.slice (some ⟨w1.heap.size + 1, 0, none⟩) ds.length ds.length] 51)).alloc (.cells #[.slice none 0 0] 131)).alloc (.cells #[.slice none 0 0] 22)).alloc (.cells #[.func (.func 79) #[] #[.pointer (some ⟨w1.heap.size, 0, none⟩), .pointer (some ⟨w2.heap.size + 1 + 1, 0, none⟩)]] 132)) := ⟨_, rfl⟩
  rw [← hW]
  have c1 : Kept w2 (w2.alloc (.cells #[.slice (some ⟨w1.heap.size + 1, 0, none⟩) ds.length ds.length] 51)) := (Kept.refl w2).alloc _
  have e1 := Blk.new w2 [.slice (some ⟨w1.heap.size + 1, 0, none⟩) ds.length ds.length] 51
  have e2 := Blk.new (w2.alloc (.cells #[.slice (some ⟨w1.heap.size + 1, 0, none⟩) ds.length ds.length] 51)) [.slice none 0 0] 131
  have e3 := Blk.new ((w2.alloc (.cells #[.slice (some ⟨w1.heap.size + 1, 0, none⟩) ds.length ds.length] 51)).alloc (.cells #[.slice none 0 0] 131)) [.slice none 0 0] 22
  have e4 := Blk.new (((w2.alloc (.cells #[.slice (some ⟨w1.heap.size + 1, 0, none⟩) ds.length ds.length] 51)).alloc (.cells #[.slice none 0 0] 131)).alloc (.cells #[.slice none 0 0] 22)) [.func (.func 79) #[] #[.pointer (some ⟨w1.heap.size, 0, none⟩), .pointer (some ⟨w2.heap.size + 1 + 1, 0, none⟩)]] 132
  rw [alloc_size] at e2
  rw [alloc_size, alloc_size] at e3
  rw [alloc_size, alloc_size, alloc_size] at e4
  rw [← hW] at e4
  have kC : Kept w2 W := by rw [hW]; exact (((((Kept.refl w2).alloc _).alloc _).alloc _).alloc _)
  have e1' := e1.kept ((((Kept.refl _).alloc (.cells #[.slice none 0 0] 131)).alloc (.cells #[.slice none 0 0] 22)).alloc (.cells #[.func (.func 79) #[] #[.pointer (some ⟨w1.heap.size, 0, none⟩), .pointer (some ⟨w2.heap.size + 1 + 1, 0, none⟩)]] 132))
  rw [← hW] at e1'
  have e2' := e2.kept (((Kept.refl _).alloc (.cells #[.slice none 0 0] 22)).alloc (.cells #[.func (.func 79) #[] #[.pointer (some ⟨w1.heap.size, 0, none⟩), .pointer (some ⟨w2.heap.size + 1 + 1, 0, none⟩)]] 132))
  rw [← hW] at e2'
  have e3' := e3.kept ((Kept.refl _).alloc (.cells #[.func (.func 79) #[] #[.pointer (some ⟨w1.heap.size, 0, none⟩), .pointer (some ⟨w2.heap.size + 1 + 1, 0, none⟩)]] 132))
  rw [← hW] at e3'
  have kD := kB.trans kC
  have hin := dvs_init (W := W) (N0 := w.heap.size) (kg := w.heap.size) (wg := w1.heap.size + 1) (n := ds.length) (x := ⟨w1.heap.size, w2.heap.size + 1 + 1, w2.heap.size + 1 + 1 + 1, w2.heap.size, w2.heap.size + 1⟩) (Nat.le_refl _) s1 (Nat.lt_succ_self _) s2 (Nat.lt_succ_self _) (Nat.lt_succ_self _) (Nat.lt_succ_self _)
    (Ownv.mono0 (Ownv.kept o1' kC)) (b1.kept kC) e3' (Ownv.mono0 (Ownv.kept o2 kC)) e1' e2' e4
  clear o1 o1' o2 b1 e1 e2 e3 e4 e1' e2' e3' c1 kA kB kC k1 k2 hW
  generalize hx : (⟨w1.heap.size, w2.heap.size + 1 + 1, w2.heap.size + 1 + 1 + 1, w2.heap.size, w2.heap.size + 1⟩ : Bx) = x at hin
  have X1 : w1.heap.size = x.kb := by rw [← hx]
  have X2 : w2.heap.size + 1 + 1 = x.tb := by rw [← hx]
  have X3 : w2.heap.size + 1 + 1 + 1 = x.xb := by rw [← hx]
  have X4 : w2.heap.size = x.wb := by rw [← hx]
  have X5 : w2.heap.size + 1 = x.rb := by rw [← hx]
  have hea := each_any hin kD (fun b hb => .inl hb) hn hg hl (fit0 _)
  rw [X3, X2, X5, X4, X1]
  clear hx X1 X2 X3 X4 X5 s1 s2
  (with_reducible refine hea.mono ?_)
  clear hea
  rintro e w5 ⟨rfl, d5, t5⟩
  have told := Told.tells hg (rules ds) (told0 ds l) (fun r hr => hr)
  have fit := fit_stK hg (fit0 ds.length) ds.length (Nat.le_refl _)
  rw [stK_all] at fit
  rw [List.nil_append] at told
  generalize (rules ds).foldl tell (st0 ds.length) = st at d5 told fit
  have hkn : st.s.1.length = ds.length := fit.kn
  have htd := fit.td
  have hlp := Lp.start told hT
  have HLP := Shut.mk hlp
  have HTO := Shut.mk told
  obtain ⟨FW, d5⟩ := d5.fix
  have kE : Kept w w5 := kept_of kD t5 (fun b hb => .inl hb)
  have hk0 := d5.know0 (hv.kept kE) (fun b hb => .inl (hv.vb' hb)) (fun y hy => by
    obtain ⟨a, b⟩ := hT y hy
    rw [hkn]; exact ⟨a, b⟩) (by omega)
  have cx := d5.box.cell 0
  simp only [List.getElem?_cons_zero] at cx
  have HFIT := Shut.mk fit
  clear told hlp fit
  go_wp2_with fail
  (with_reducible refine hk0.mono ?_)
  clear hk0 cx
  rintro e w6 ⟨rfl, d6, t6⟩
  have t6' : Turn (fun b => ¬ (fun b => b < w.heap.size ∨ b = x.xb) b) W w6 := t5.trans (t6.mono fun b hb => hb.1) (fun b hb => .inl hb)
  have HT := Shut.mk hT
  clear hT t5 t6 kE d5
  go_wp2
  go_loopw [10] (fun _ wr => ∃ (P ms : List Int) (s : List Bool × List Int), DvW FW (fun b => b < w.heap.size ∨ b = x.xb) wr x ⟨st.rs, ms, st.ws, s⟩ ∧ Shut (Lp ds l st.rs P ms s) ∧ Turn (fun b => ¬ (fun b => b < w.heap.size ∨ b = x.xb) b) W wr) (fun _ wr => far wr x.kb x.tb ds.length)
  case atStart => exact ⟨[], st.ms, know st.s l, d6, HLP, t6'⟩
  case round =>
    clear d6 t6' htd hkn
    obtain ⟨P, ms, s, hd, hp, hT⟩ := hrel
    obtain ⟨kn, td⟩ := s
    obtain ⟨tv, x1, x2, x3⟩ := hd.todo
    simp only at x1 x2 x3
    by_cases hlt : 0 < td.length
    · obtain ⟨g, tc, rfl, y1, y2, y3, y4, y5, y6⟩ := x3.row hlt
      obtain ⟨q, hq⟩ : ∃ q, td.length = q + 1 := ⟨td.length - 1, by omega⟩
      have hcell := y5 q (by omega)
      have hlast : td.getD (td.length - 1) 0 = td.getD q 0 := by rw [hq]; rfl
      have hqr := hp.out.wl.rng (td.getD q 0) (List.mem_append_right _ (getD_mem (l := td) (i := q) (by omega)))
      obtain ⟨t, ht⟩ := Int.eq_ofNat_of_zero_le hqr.1
      rw [ht] at hcell
      obtain ⟨hq1, htl, htP⟩ := hp.out.pop (ws := st.ws) hlt (t := t) (by rw [hlast, ht])
      obtain ⟨d2, t2⟩ := hd.pop (n := q + 1) (Nat.succ_pos _) (by rw [← hq]; exact x1) hq
      rw [Nat.add_sub_cancel] at d2 t2
      simp only at hq1 d2
      rw [hq, Nat.add_sub_cancel] at hq1
      have hfar := far_eq hd hp.out
      have HLEN : Shut (td.length ≤ ds.length) := ⟨by have := hp.out.wl.lenle; simp only [List.length_append] at this; omega⟩
      have hwl : t < st.ws.length := by rw [HTO.out.wt.len]; exact htl
      obtain ⟨wg, wc, wv, z1, z2, z3, z4⟩ := d2.waits hwl
      obtain ⟨va, vc, rfl, v1, v2, v3⟩ := z3.len
      have hwt := HTO.out.wt.few t htl
      have hwi := HTO.out.wt.rng t htl
      rw [hq] at x1
      have HQ := Shut.mk hq
      have HQ1 := Shut.mk hq1
      have HFAR := Shut.mk hfar
      have HWI := Shut.mk hwi
      simp only at z1 z2 z3 z4 v1 HWI
      generalize hWW : wr.setCell ⟨x.tb, 0, none⟩ (.slice (some ⟨g, 0, none⟩) q tc) = w2 at d2 t2 z1 z2 z3 z4
      have hT2 := hT.trans (t2.mono fun b hb => hb.1) (fun b hb => .inl hb)
      have htl' : (t : Int) < (st.ws.length : Int) := by omega
      have hqc : (q : Int) ≤ (tc : Int) := by omega
      have hwf : (st.ws.getD t []).length ≤ 100000000 := by have := HFIT.out.wf t; omega
      have hqb : (q : Int) ≤ 100000 := by have := HLEN.out; omega
      clear hq hq1 hlast hqr ht y5 y6 hfar hwi hd hp hT hwt
      generalize hwt : st.ws.getD t [] = wt at z1 z2 z3 v1 v2 v3 z4 HWI hwf
      have HWT := Shut.mk hwt
      clear hwt
      go_wp2
      go_loopw [45] (fun i wx => ∃ (k : Nat) (ms : List Int) (s : List Bool × List Int), k ≤ wt.length ∧ i = .int .i64 k ∧ DvW FW (fun b => b < w.heap.size ∨ b = x.xb) wx x ⟨st.rs, ms, st.ws, s⟩ ∧ Shut (Lq ds l st.rs st.ws P t k ms s) ∧ Turn (fun b => ¬ (fun b => b < w.heap.size ∨ b = x.xb) b ∧ ¬ FW b) w2 wx) (fun i _ => wt.length - (intOf i).toNat)
      case atStart => exact ⟨0, ms, _, Nat.zero_le _, rfl, d2, HQ1, Turn.refl _ _⟩
      case round =>
        obtain ⟨k, ms, s, hk0, rfl, hd, hq, hT⟩ := hrel
        by_cases hlt : k < wt.length
        · have hri := HWI.out _ (getD_mem hlt)
          obtain ⟨rb, ro, rc, hrv, _, _, hrb, hcl⟩ := z3.addr (by omega)
          simp only [Value.slice.injEq] at hrv
          obtain ⟨rfl, _, rfl⟩ := hrv
          have hfw := z4 rb ⟨ro, none, _, _, Nat.lt_of_le_of_lt (Nat.zero_le _) hlt, rfl⟩
          have y1 : wr.cell? ⟨rb, ro + k, none⟩ = some (.int .i64 (wt.getD k 0)) := (World.cell?_of_block (hT.block rb hrb (fun c => c.2 hfw.1))).trans (hcl k hlt)
          clear hcl
          obtain ⟨i, hi⟩ := Int.eq_ofNat_of_zero_le hri.1
          have hil : i < st.rs.length := by omega
          have hil' : (i : Int) < (st.rs.length : Int) := by omega
          have hstep := hq.out.step hg HTO.out.sub HTO.out.wt htl htP (by rw [HWT.out]; exact hlt) (by rw [HWT.out]; exact hi) hil
          have hcnt := hq.out.miss.cnt i hil
          rw [HWT.out] at hcnt
          have hsl : (st.rs.getD i rl0).src.length ≤ 64 ∧ (st.rs.getD i rl0).to.length ≤ 64 := by
            have hm : st.rs.getD i rl0 ∈ st.rs := by rw [List.getD_eq_getElem?_getD, List.getElem?_eq_getElem hil]; exact List.getElem_mem hil
            obtain ⟨t', ht', hr'⟩ := rules_mem.1 (HTO.out.sub _ hm)
            exact rules_len64 hg ht' _ hr'
          have hto : ∀ y ∈ (st.rs.getD i rl0).to, 0 ≤ y ∧ y < (s.1.length : Int) := by
            have hm : st.rs.getD i rl0 ∈ st.rs := by rw [List.getD_eq_getElem?_getD, List.getElem?_eq_getElem hil]; exact List.getElem_mem hil
            intro y hy
            have := (rules_terms hg (HTO.out.sub _ hm)).2 y hy
            rw [hq.out.wl.len]; exact this
          have hc1 : (wt.take k).count (i : Int) ≤ 100000000 := Nat.le_trans List.count_le_length (by rw [List.length_take]; omega)
          have hc2 : (st.rs.getD i rl0).src.countP (fun x => !P.contains x) ≤ 64 := Nat.le_trans List.countP_le_length hsl.1
          have hlen := hq.out.len
          obtain ⟨g2, c2, tv, a1, a2, a3, a4, a5⟩ := hd.rule hil
          obtain ⟨d3, t3⟩ := hd.dec hil a1 (ms.getD i 0 - 1)
          have hne := hd.ruleNe a1
          simp only at a1 a2 hcnt d3 a4 a5 hne
          have q1 : (wr.setCell ⟨g2, i * 2, none⟩ (.int .i64 (ms.getD i 0 - 1))).cell? ⟨x.rb, 0, none⟩ = some (.slice (some ⟨g2, 0, none⟩) st.rs.length c2) := by rw [World.cell?_setCell_other _ _ _ _ (by first | (simp [hne]; done) | (simp; done))]; exact a1
          have q4 : (wr.setCell ⟨g2, i * 2, none⟩ (.int .i64 (ms.getD i 0 - 1))).cell? ⟨g2, i * 2 + 1, none⟩ = some tv := by rw [World.cell?_setCell_other _ _ _ _ (by simp)]; exact a4
          have hm1 : -200000000 ≤ ms.getD i 0 := by omega
          have hm2 : ms.getD i 0 ≤ 100 := by omega
          rw [hi] at y1
          have HSTEP := Shut.mk hstep
          have HTO2 := Shut.mk hto
          have HI := Shut.mk hi
          clear hstep hto hi hri hcnt hc1 hc2
          have d3x := d3.box.cell 0
          simp only [List.getElem?_cons_zero] at d3x
          have hT3 := hT.trans t3 (fun b hb => .inl hb)
          generalize hmv : ms.getD i 0 = mv at a2 d3 t3 q1 q4 hm1 hm2 d3x hT3 HSTEP
          by_cases h0 : mv - 1 = 0
          · obtain rfl : mv = 1 := by omega
            have HMV := Shut.mk hmv
            clear hmv h0
            have e10 : (1 : Int) - 1 = 0 := rfl
            rw [e10] at d3 t3 q1 q4 d3x hT3 HSTEP
            rw [if_pos rfl] at HSTEP
            clear e10
            have kd : Kept (wr.setCell ⟨g2, i * 2, none⟩ (.int .i64 0)) (wr.setCell ⟨g2, i * 2, none⟩ (.int .i64 0)).drew := (Kept.refl _).drew
            have q1' := kd.cell (p := ⟨x.rb, 0, none⟩) (World.block_lt_of_cell? _ _ q1) |>.trans q1
            have q4' := kd.cell (p := ⟨g2, i * 2 + 1, none⟩) (World.block_lt_of_cell? _ _ q4) |>.trans q4
            have hkn := (d3.kept kd).know hil q1' q4' HTO2.out (by simp only; omega)
            have hT4 := hT3.kept kd
            obtain ⟨tva, tvc, hv5, _, _, _⟩ := a5.len
            clear a5
            generalize (st.rs.getD i rl0).to.length = tn at hv5
            subst hv5
            go_wp2_with fail
            generalize wr.setCell ⟨g2, i * 2, none⟩ (.int .i64 0) = w8 at hkn hT4 d3x q1 q4 ⊢
            go_still_tail 6, (by kernel_rfl)
            change wpList _ _ _ _ _ w8.drew
            generalize w8.drew = w9 at hkn hT4 ⊢
            go_wp2_with fail
            (with_reducible refine hkn.mono ?_)
            clear hkn
            rintro e w10 ⟨rfl, d10, t10⟩
            go_wp2
            go_roundw
            case rel => exact ⟨k + 1, ms.set i 0, YtekieioffaafaaaDoor.know s (st.rs.getD i rl0).to, hlt, rfl, d10, ⟨HSTEP.out⟩, hT4.trans t10 (fun b hb => .inl hb)⟩
            case measure => simp [intOf]; omega
          · have hb0 : (mv - 1 == 0) = false := by rw [beq_eq_false_iff_ne]; exact h0
            have H0 := Shut.mk h0
            have HMV := Shut.mk hmv
            clear h0 hmv
            go_wp2
            go_roundw
            case rel => exact ⟨k + 1, ms.set i (mv - 1), s, hlt, rfl, d3, ⟨by have := HSTEP.out; rwa [if_neg H0.out] at this⟩, hT3⟩
            case measure => simp [intOf]; omega
        · obtain rfl : k = wt.length := by omega
          have hlp := (by rw [← HWT.out] at hq; exact hq.out.fin HTO.out.wt htl htP : Lp ds l st.rs (P ++ [(t : Int)]) ms s)
          have HL := Shut.mk hlp
          have hfar2 := far_eq hd hlp
          have hqlen := hq.out.len
          have HF2 := Shut.mk hfar2
          clear hlp hfar2
          go_wp2
          go_roundw
          case rel => exact ⟨P ++ [(t : Int)], ms, s, hd, HL, hT2.trans (hT.mono fun b hb => hb.1) (fun b hb => .inl hb)⟩
          case measure => rw [HF2.out, HFAR.out, List.length_append, List.length_singleton]; omega
    · have h0 : td = [] := List.eq_nil_of_length_eq_zero (by omega)
      subst h0
      obtain ⟨kv, c1, c2, c3⟩ := hd.out
      obtain ⟨ta, tc, rfl, y1, y2, y3⟩ := x3.rd.len
      go_wp2
      go_ret
      exact ⟨kv, kn, rfl, Ownv.from c2 w.heap.size (fun b hb => Nat.le_of_not_lt (fun c => c3 b hb (.inl c))), hp.out.wl.len, derived_all hg HT.out hp.out.wl rfl hp.out.miss hp.out.has hp.out.ax, kept_of kD hT (fun b hb => .inl hb)⟩
end Go.Proofs.YtekieioffaafaaaDoor
end

section
/- look. -/
set_option linter.unusedSimpArgs false
set_option linter.unusedVariables false
namespace Go.Proofs.YtekieioffaafaaaDoor
open Go.RowKit Go.Maps

/-- What look answers. -/
def LookPost (w : World) (ds : List Nd) (l : List Int) (e : Ending) (w' : World) : Prop :=
  ∃ (vp : Value) (V : Nat → Prop) (kn : List Bool), e = .returned (.tuple #[vp, .int .i64 0]) ∧ IsVw V w' vp ds kn ∧ (∀ b, V b → w.heap.size ≤ b) ∧ (∀ t : Nat, t < ds.length → (kn.getD t false = true ↔ Der ds l (t : Int))) ∧ Kept w w'
theorem ndAt_nat {ds : List Nd} {k : Nat} (h : k < ds.length) : ndAt ds (k : Int) = ds.getD k nd0 := by
  unfold ndAt
  rw [if_pos ⟨by omega, by omega⟩, Int.toNat_natCast]
theorem ndE_nat {ds : List Nd} {k : Nat} (h : k < ds.length) : ndE ds (k : Int) = 0 := by
  unfold ndE
  rw [if_pos ⟨by omega, by omega⟩]
/-- The nodes so far: those of k terms, and none. -/
def part (ds : List Nd) (k : Nat) : List Nd := ds.take k ++ List.replicate (ds.length - k) nd0
theorem part_len (ds : List Nd) (k : Nat) (h : k ≤ ds.length) : (part ds k).length = ds.length := by
  unfold part
  rw [List.length_append, List.length_take, List.length_replicate]; omega
theorem part_set (ds : List Nd) (k : Nat) (h : k < ds.length) : (part ds k).set k (ds.getD k nd0) = part ds (k + 1) := by
  unfold part
  have e : ds.length - k = (ds.length - (k + 1)) + 1 := by omega
  rw [e, List.replicate_succ, List.set_append_right _ _ (by rw [List.length_take]; omega), List.length_take, Nat.min_eq_left (by omega), Nat.sub_self, List.set_cons_zero, List.take_succ_eq_append_getElem h, List.append_assoc]
  rw [List.getD_eq_getElem?_getD, List.getElem?_eq_getElem h]
  rfl
theorem part_all (ds : List Nd) : part ds ds.length = ds := by simp [part]
theorem part_at (ds : List Nd) {k i : Nat} (h : i < k) (hk : k ≤ ds.length) : (part ds k).getD i nd0 = ds.getD i nd0 := by
  unfold part
  rw [List.getD_eq_getElem?_getD, List.getElem?_append_left (by rw [List.length_take]; omega), List.getElem?_take, if_pos h, List.getD_eq_getElem?_getD]

theorem node_put {B : Nat} {w3 : World} {g n cap k : Nat} {ds : List Nd} {lvs : List Value} {d : Nd} {lv : Value} (o3 : Ownv B 64 4 w3 (.slice (some ⟨g, 0, none⟩) n cap) n (flat (part ds k) lvs)) (hn : n = ds.length) (hk : k < ds.length) (hl : lvs.length = ds.length) (hd : (part ds k).set k d = part ds (k + 1)) :
    Ownv B 64 4 ((((w3.setCell ⟨g, k * 4, none⟩ (.int .i64 d.op)).setCell ⟨g, k * 4 + 1, none⟩ (.int .i64 d.n)).setCell ⟨g, k * 4 + 2, none⟩ (.string (strB d.s))).setCell ⟨g, k * 4 + 3, none⟩ lv) (.slice (some ⟨g, 0, none⟩) n cap) n (flat (part ds (k + 1)) (lvs.set k lv)) ∧
    Turn (fun b => b = g) w3 ((((w3.setCell ⟨g, k * 4, none⟩ (.int .i64 d.op)).setCell ⟨g, k * 4 + 1, none⟩ (.int .i64 d.n)).setCell ⟨g, k * 4 + 2, none⟩ (.string (strB d.s))).setCell ⟨g, k * 4 + 3, none⟩ lv) := by
  subst hn
  have p1 := Ownv.put o3 (k * 4) (by omega) (.int .i64 d.op)
  have p2 := Ownv.put p1 (k * 4 + 1) (by omega) (.int .i64 d.n)
  have p3 := Ownv.put p2 (k * 4 + 2) (by omega) (.string (strB d.s))
  have p4 := Ownv.put p3 (k * 4 + 3) (by omega) lv
  have e := flat_put (part ds k) lvs k d lv (by rw [part_len ds k (Nat.le_of_lt hk)]; exact hk) (by rw [part_len ds k (Nat.le_of_lt hk)]; exact hl)
  rw [hd] at e
  rw [e] at p4
  exact ⟨p4, ((Turn.trans (turn_setCell w3 ⟨g, k * 4, none⟩ _) (turn_setCell _ ⟨g, k * 4 + 1, none⟩ _) (fun b hb => .inl hb)).trans (turn_setCell _ ⟨g, k * 4 + 2, none⟩ _) (fun b hb => .inl hb)).trans (turn_setCell _ ⟨g, k * 4 + 3, none⟩ _) (fun b hb => .inl hb)⟩

set_option maxHeartbeats 8000000 in
set_option maxRecDepth 100000 in
theorem look_bad {F : Nat → Prop} {w : World} {p : Value} {ds : List Nd} (h : Ar F w p ds) {v : Value} {l : List Int} (hd : RdI w v l) (hT : termsB ds l = false) :
    Calls Tryd.prog 52 #[p, v] w fun e w' => e = .returned (.tuple #[.pointer none, .int .i64 1]) ∧ w = w' := by
  have ht := termsD h hd
  rw [hT] at ht
  obtain ⟨la, lc, rfl, _, _, _⟩ := hd.len
  go_enter Tryd.func52, Tryd.ntmps52
  go_wp2_with (go_at_call 51; refine ht.mono ?_; rintro e w' ⟨rfl, rfl⟩)
  go_ret2
  exact ⟨rfl, rfl⟩

set_option maxHeartbeats 8000000 in
set_option maxRecDepth 100000 in
theorem look_any {F : Nat → Prop} {w : World} {p : Value} {ds : List Nd} (h : Ar F w p ds) {v : Value} {l : List Int} (hd : RdI w v l) (hT : termsB ds l = true) (hll : l.length ≤ 1000000) :
    Calls Tryd.prog 52 #[p, v] w (LookPost w ds l) := by
  have ht := termsD h hd
  rw [hT] at ht
  have hle := arg_len h
  have HTT := Shut.mk (termsB_all hT)
  have hg := h.good
  have hl := h.few
  obtain ⟨la, lc, rfl, _, _, _⟩ := hd.len
  clear hT
  have n63 : ((ds.length : Nat) : Int) ≤ 9223372036854775807 := by omega
  go_enter Tryd.func52, Tryd.ntmps52
  go_wp2_with (first
    | (go_at_call 51; refine ht.mono ?_; rintro e w' ⟨rfl, rfl⟩)
    | (go_at_call 39; refine hle.mono ?_; rintro e w' ⟨rfl, rfl⟩)
    | (at_make; refine go_mknodes ds.length _ rfl rfl rfl (by omega) ?_; intro w1 o1 k1 _)
    | fail)
  have s1 : w.heap.size < w1.heap.size := by
    rcases o1.2 with ⟨hh, _⟩ | ⟨g, cap, cur, hv, _, hgg, _⟩
    · cases hh
    · simp only [Value.slice.injEq, Option.some.injEq, Addr.mk.injEq] at hv
      obtain ⟨⟨rfl, _⟩, _⟩ := hv
      exact (Array.getElem?_eq_some_iff.1 hgg).1
  have b1 := Blk.new w1 [.slice (some ⟨w.heap.size, 0, none⟩) ds.length ds.length, .slice none 0 0] 114
  have kA : Kept w1 (w1.alloc (.cells #[.slice (some ⟨w.heap.size, 0, none⟩) ds.length ds.length, .slice none 0 0] 114)) := (Kept.refl w1).alloc _
  have oA := Ownv.kept o1 kA
  have hrep : List.replicate ds.length nd0 = part ds 0 := by simp [part]
  rw [hrep] at oA
  clear hrep o1
  go_loopw [22] (fun i wr => ∃ (k : Nat) (lvs : List Value), k ≤ ds.length ∧ i = .int .i64 k ∧ Blk wr w1.heap.size 114 [.slice (some ⟨w.heap.size, 0, none⟩) ds.length ds.length, .slice none 0 0] ∧ Ownv w.heap.size 64 4 wr (.slice (some ⟨w.heap.size, 0, none⟩) ds.length ds.length) ds.length (flat (part ds k) lvs) ∧ lvs.length = ds.length ∧ (∀ i, i < k → OwnI w.heap.size wr (lvs.getD i undef) (ds.getD i nd0).l) ∧ Kept w wr) (fun i _ => ds.length - (intOf i).toNat)
  case atStart => exact ⟨0, _, Nat.zero_le _, rfl, b1, oA, by simp, fun i hi => absurd hi (Nat.not_lt_zero _), k1.trans kA⟩
  case round =>
    clear b1 oA kA k1
    obtain ⟨k, lvs, hk0, rfl, hb, ho, hlv, hls, hk⟩ := hrel
    have c0 := hb.cell 0
    have c1 := hb.cell 1
    simp only [List.getElem?_cons_succ, List.getElem?_cons_zero] at c0 c1
    have HLS := Shut.mk hls
    have HLV := Shut.mk hlv
    clear hls hlv
    by_cases hlt : k < ds.length
    · have hno : ∀ W, Kept w W → Calls Tryd.prog 40 #[p, .int .i64 (k : Int)] W fun e w' => ∃ lv, e = .returned (.tuple #[.agg #[.int .i64 (ds.getD k nd0).op, .int .i64 (ds.getD k nd0).n, .string (strB (ds.getD k nd0).s), lv], .int .i64 0]) ∧ OwnI W.heap.size w' lv (ds.getD k nd0).l ∧ Kept W w' := fun W kW => by
        have := node_own (ArG.kept h kW) (k : Int)
        rw [ndE_nat hlt, ndAt_nat hlt] at this
        exact this
      have hps := part_set ds k hlt
      have hpat : ∀ i, i < k + 1 → (part ds (k + 1)).getD i nd0 = ds.getD i nd0 := fun i hi => part_at ds hi hlt
      generalize hd0 : ds.getD k nd0 = d at hno hps
      have HD := Shut.mk hd0
      have HPS := Shut.mk hps
      have HPA := Shut.mk hpat
      clear hd0 hps hpat
      obtain ⟨dop, dn, dss, dl⟩ := d
      simp only at hno HPS
      have HDS := Shut.mk (rfl : strB dss = strB dss)
      have hlt' : (k : Int) < (ds.length : Int) := by omega
      have hne1 : ¬ w1.heap.size = w.heap.size := by omega
      have hne2 : ¬ w.heap.size = w1.heap.size := by omega
      go_wp2_with fail
      go_region_held3 (fun w' => w'.cell? ⟨w1.heap.size, 0, none⟩ = some (.slice (some ⟨w.heap.size, 0, none⟩) ds.length ds.length))
        (first | exact c0 | assumption | go_keep)
        ((go_at_call 40; (with_reducible refine (hno _ (by first | exact hk | exact hk.drew | exact hk.drewN _)).mono ?_); rintro e w3 ⟨lv, rfl, ol, k3⟩; obtain ⟨va, vc, hlv3, _, _, _⟩ := ol.rd.len; subst hlv3; have k4 : Kept wr w3 := (by first | exact k3 | exact ((Kept.refl wr).drew).trans k3 | exact ((Kept.refl wr).drewN _).trans k3); have s3 : w3.cell? ⟨w1.heap.size, 0, none⟩ = some (.slice (some ⟨w.heap.size, 0, none⟩) ds.length ds.length) := (hb.kept k4).cell 0; have o3 := Ownv.kept ho k4; obtain ⟨g, cap, hgv, _, _, _, _, g5, g6⟩ := Ownv.row o3 (by omega); simp only [Value.slice.injEq, Option.some.injEq, Addr.mk.injEq] at hgv; obtain ⟨⟨rfl, _⟩, _, rfl⟩ := hgv; have e0 := g5 (k * 4) (by omega); have e1 := g5 (k * 4 + 1) (by omega); have e2 := g5 (k * 4 + 2) (by omega); have e3 := g5 (k * 4 + 3) (by omega); have u0 := g6 (k * 4); have u1 := g6 (k * 4 + 1); have u2 := g6 (k * 4 + 2); have u3 := g6 (k * 4 + 3); clear g5 g6))
      clear e0 e1 e2 e3 u0 u1 u2 u3 hno
      obtain ⟨p4, ht⟩ := node_put (d := ⟨dop, dn, dss, dl⟩) (lv := .slice va dl.length vc) o3 rfl hlt HLV.out HPS.out
      simp only at p4 ht
      generalize (((w3.setCell ⟨w.heap.size, k * 4, none⟩ (.int .i64 dop)).setCell ⟨w.heap.size, k * 4 + 1, none⟩ (.int .i64 dn)).setCell ⟨w.heap.size, k * 4 + 2, none⟩ (.string (strB dss))).setCell ⟨w.heap.size, k * 4 + 3, none⟩ (.slice va dl.length vc) = w4 at p4 ht ⊢
      have ol' : OwnI w.heap.size w3 (.slice va dl.length vc) dl := Ownv.mono ol (by first | exact hk.size | exact hk.drew.size | exact (hk.drewN _).size)
      have HNB : Shut (∀ i, i < k → OwnI w.heap.size w4 (lvs.getD i undef) (ds.getD i nd0).l) := ⟨fun i hi => Ownv.turn (Ownv.kept (HLS.out i hi) k4) ht (fun b hb e => Ownv.apart (Ownv.kept (HLS.out i hi) k4) o3 (by decide) hb (by rw [show b = w.heap.size from e]; rfl))⟩
      have ol4 : OwnI w.heap.size w4 (.slice va dl.length vc) dl := Ownv.turn ol' ht (fun b hb e => Ownv.apart ol' o3 (by decide) hb (by rw [show b = w.heap.size from e]; rfl))
      go_wp2
      go_roundw
      case rel =>
        refine ⟨k + 1, lvs.set k (.slice va dl.length vc), hlt, rfl, (hb.kept k4).turn ht hne1, p4, by rw [List.length_set]; exact HLV.out, fun i hi => ?_, Turn.keptOf (hk.trans k4) ht (fun b hb => by rw [show b = w.heap.size from hb]; exact Nat.le_refl _)⟩
        have gv : (lvs.set k (.slice va dl.length vc)).getD i undef = if k = i then .slice va dl.length vc else lvs.getD i undef := by
          simp only [List.getD_eq_getElem?_getD, List.getElem?_set]
          by_cases c : k = i
          · subst c; simp [HLV.out, hlt]
          · simp [c]
        rw [gv]
        by_cases c : k = i
        · rw [if_pos c]
          subst c
          rw [HD.out]
          exact ol4
        · rw [if_neg c]
          exact HNB.out i (by omega)
      case measure => simp [intOf]; omega
    · obtain rfl : k = ds.length := by omega
      rw [part_all] at ho
      have hrn : RdNs wr (.slice (some ⟨w.heap.size, 0, none⟩) ds.length ds.length) ds := ⟨lvs, HLV.out, Ownv.rdv ho, fun i hi => (HLS.out i hi).rd⟩
      have hder := derived_any hrn (hd.kept hk) hg hl HTT.out hll
      go_wp2_with fail
      (with_reducible refine hder.mono ?_)
      clear hder
      rintro e w5 ⟨kv, bs, rfl, h1, h2, h3, k5⟩
      obtain ⟨ka, kc, hkv, _, _, _⟩ := Ownv.rdv h1
      have hb5 := hb.kept k5
      have c5 := hb5.cell 1
      have f5 := hb5.frozen 1
      simp only [List.getElem?_cons_succ, List.getElem?_cons_zero] at c5
      have H3 := Shut.mk h3
      have HL2 := Shut.mk h2
      clear h3 hrn h2
      generalize hbl : bs.length = bl at hkv
      subst hkv
      have HBL := Shut.mk hbl
      clear hbl
      go_wp2
      go_ret2
      have tS := turn_setCell w5 ⟨w1.heap.size, 1, none⟩ (.slice ka bl kc)
      refine ⟨_, fun b => w.heap.size ≤ b ∧ b < (w5.setCell ⟨w1.heap.size, 1, none⟩ (.slice ka bl kc)).heap.size, bs, rfl, ⟨⟨w1.heap.size, _, _, lvs, rfl, hb5.set 1 _, Ownv.setCell (Ownv.mono0 (Ownv.kept ho k5)) (ad := ⟨w1.heap.size, 1, none⟩) (Ownv.notBlk (Ownv.kept ho k5) hb5 (by decide)) _, HLV.out, fun i hi => Ownv.setCell (Ownv.mono0 (Ownv.kept (HLS.out i hi) k5)) (ad := ⟨w1.heap.size, 1, none⟩) (Ownv.notBlk (Ownv.kept (HLS.out i hi) k5) hb5 (by decide)) _, Ownv.setCell (Ownv.mono0 h1) (ad := ⟨w1.heap.size, 1, none⟩) (Ownv.notBlk h1 hb5 (by decide)) _, ⟨by omega, by rw [size_setCell]; exact hb5.lt⟩, fun b hb => ?_, fun b hb => ?_, fun i hi b hb => ?_⟩, HL2.out, fun b hb => hb.2⟩, fun b hb => hb.1, H3.out, Turn.keptOf (hk.trans k5) tS (fun b hb => by rw [show b = w1.heap.size from hb]; omega)⟩
      · have := Ownv.lt (Ownv.kept ho k5) hb
        rw [size_setCell]; exact ⟨this.2, this.1⟩
      · have := Ownv.lt h1 hb
        have := hk.size
        rw [size_setCell]; omega
      · have := Ownv.lt (Ownv.kept (HLS.out i hi) k5) hb
        rw [size_setCell]; exact ⟨this.2, this.1⟩
end Go.Proofs.YtekieioffaafaaaDoor
end

section
/- Known, Derives. -/
set_option linter.unusedSimpArgs false
set_option linter.unusedVariables false
namespace Go.Proofs.YtekieioffaafaaaDoor
open Go.RowKit Go.Maps

def KnownPost (w : World) (ds : List Nd) (l : List Int) (e : Ending) (w' : World) : Prop :=
  ∃ u us, e = .returned (.tuple #[u, .int .i64 0]) ∧ OwnI w.heap.size w' u us ∧ Knows ds l us ∧ us.length ≤ ds.length ∧ Kept w w'
/-- What Derives answers. -/
noncomputable def derB (ds : List Nd) (l : List Int) (goal : Int) : Bool := by
  classical exact decide (Der ds l goal)
theorem derB_true {ds : List Nd} {l : List Int} {goal : Int} : derB ds l goal = true ↔ Der ds l goal := by
  unfold derB
  simp
set_option maxHeartbeats 4000000 in
set_option maxRecDepth 100000 in
theorem derives_off {F : Nat → Prop} {w : World} {p : Value} {ds : List Nd} (h : Ar F w p ds) {v : Value} {l : List Int} (hd : RdI w v l) (goal : Int) (hgo : ¬ IsT ds goal) :
    Calls Tryd.prog 24 #[p, v, .int .i64 goal] w fun e w' => e = .returned (.tuple #[.bool false, .int .i64 1]) ∧ Kept w w' := by
  have k1 : Kept w (w.alloc (.cells #[.int .i64 goal] 3)) := (Kept.refl w).alloc _
  have ht := termsD (ArG.kept h k1) (OwnI.rd (lit1 w goal))
  have hb : termsB ds [goal] = false := termsB_not (j := 0) (by simp) hgo
  rw [hb] at ht
  clear hgo
  go_enter Tryd.func24, Tryd.ntmps24
  go_wp2_with (go_at_call 51; refine ht.mono ?_; rintro e w' ⟨rfl, rfl⟩)
  go_ret2
  exact ⟨rfl, k1⟩
set_option maxHeartbeats 4000000 in
set_option maxRecDepth 100000 in
theorem derives_bad {F : Nat → Prop} {w : World} {p : Value} {ds : List Nd} (h : Ar F w p ds) {v : Value} {l : List Int} (hd : RdI w v l) (goal : Int) (hgo : IsT ds goal) (hT : termsB ds l = false) :
    Calls Tryd.prog 24 #[p, v, .int .i64 goal] w fun e w' => e = .returned (.tuple #[.bool false, .int .i64 1]) ∧ Kept w w' := by
  have k1 : Kept w (w.alloc (.cells #[.int .i64 goal] 3)) := (Kept.refl w).alloc _
  have ht := termsD (ArG.kept h k1) (OwnI.rd (lit1 w goal))
  have hb : termsB ds [goal] = true := termsB_take (fun j hj => by
    have : j = 0 := by simp at hj; omega
    subst this; exact hgo)
  rw [hb] at ht
  have hlk := look_bad (ArG.kept h k1) (hd.kept k1) hT
  obtain ⟨la, lc, rfl, _, _, _⟩ := hd.len
  clear hgo
  go_enter Tryd.func24, Tryd.ntmps24
  go_wp2_with (first
    | (go_at_call 51; refine ht.mono ?_; rintro e w' ⟨rfl, rfl⟩)
    | (go_at_call 52; refine hlk.mono ?_; rintro e w' ⟨rfl, rfl⟩))
  go_ret2
  exact ⟨rfl, k1⟩
set_option maxHeartbeats 4000000 in
set_option maxRecDepth 100000 in
theorem derives_any {F : Nat → Prop} {w : World} {p : Value} {ds : List Nd} (h : Ar F w p ds) {v : Value} {l : List Int} (hd : RdI w v l) (goal : Int) (hgo : IsT ds goal) (hT : termsB ds l = true) (hll : l.length ≤ 1000000) :
    Calls Tryd.prog 24 #[p, v, .int .i64 goal] w fun e w' => e = .returned (.tuple #[.bool (derB ds l goal), .int .i64 0]) ∧ Kept w w' := by
  have k1 : Kept w (w.alloc (.cells #[.int .i64 goal] 3)) := (Kept.refl w).alloc _
  have ht := termsD (ArG.kept h k1) (OwnI.rd (lit1 w goal))
  have hb : termsB ds [goal] = true := termsB_take (fun j hj => by
    have : j = 0 := by simp at hj; omega
    subst this; exact hgo)
  rw [hb] at ht
  have hlk := look_any (ArG.kept h k1) (hd.kept k1) hT hll
  obtain ⟨la, lc, rfl, _, _, _⟩ := hd.len
  have HGO := Shut.mk hgo
  clear hgo hT hb
  go_enter Tryd.func24, Tryd.ntmps24
  go_wp2_with (go_at_call 51; refine ht.mono ?_; rintro e w' ⟨rfl, rfl⟩)
  (with_reducible refine hlk.mono ?_)
  clear hlk
  rintro e w1 ⟨vp, V, kn, rfl, hv, hV, hkn, k2⟩
  have ka : Kept w1 (w1.alloc (.cells #[.int .i64 goal] 3)) := (Kept.refl w1).alloc _
  have hcan := can_any (hv.kept ka) (OwnI.rd (lit1 w1 goal)) (fun x hx => by rw [List.mem_singleton.1 hx]; exact HGO.out)
  have he : [goal].all (knB kn) = derB ds l goal := by
    obtain ⟨t, rfl, htl⟩ := isT_nat HGO.out
    have := hkn t htl
    simp only [List.all_cons, List.all_nil, Bool.and_true]
    unfold knB
    rw [Int.toNat_natCast, Bool.eq_iff_iff, this, derB_true]
  rw [he] at hcan
  generalize hb : derB ds l goal = b at hcan
  have HB := Shut.mk hb
  clear he hkn hb
  go_wp2_with (go_at_call 53; (with_reducible refine hcan.mono ?_); rintro e w' ⟨rfl, rfl⟩)
  go_ret2
  exact ⟨by rw [HB.out]; rfl, (k1.trans k2).trans ka⟩
end Go.Proofs.YtekieioffaafaaaDoor
end

section
/- The walk of ScheduleHides (written by gen_scr.py). -/
set_option linter.unusedSimpArgs false
set_option linter.unusedVariables false
namespace Go.Proofs.YtekieioffaafaaaDoor
open Go.RowKit Go.Maps

/-- Derives, at an arena that is kept. -/
theorem derivesA {w0 : World} {S : Nat → Prop} {w : World} {p v : Value} {ds : List Nd} {l : List Int} {goal : Int} (h : At w0 S w p ds) (hd : RdI w v l) (hgo : IsT ds goal) (hT : ∀ x ∈ l, IsT ds x) (hll : l.length ≤ 1000000) :
    Calls Tryd.prog 24 #[p, v, .int .i64 goal] w fun e w' => e = .returned (.tuple #[.bool (derB ds l goal), .int .i64 0]) ∧ Kept w w' := by
  obtain ⟨F, hF, _⟩ := h.ar
  exact derives_any hF hd goal hgo (terms_of hT) hll
theorem der_no {ds : List Nd} {l : List Int} {t : Int} (h : ¬ Der ds l t) : derB ds l t = false := by
  cases hb : derB ds l t
  · rfl
  · exact absurd (derB_true.1 hb) h
theorem der_iff {ds : List Nd} {l : List Int} {t : Int} {P : Prop} [Decidable P] (h : Der ds l t ↔ P) : derB ds l t = decide P := by
  rw [Bool.eq_iff_iff, derB_true, decide_eq_true_iff]
  exact h
def red7 (x : Int) : Int := 3 + (x.tmod 7 + 7).tmod 7
theorem red7_lt (x : Int) : (0 ≤ (x.tmod 7 + 7).tmod 7 ∧ (x.tmod 7 + 7).tmod 7 < 7) ∧ 0 ≤ x.tmod 7 + 7 ∧ x.tmod 7 + 7 ≤ 14 := by
  have h1 := Int.tmod_lt_of_pos x (show (0 : Int) < 7 by decide)
  have h2 := Int.lt_tmod_of_pos x (show (0 : Int) < 7 by decide)
  have h3 : 0 ≤ x.tmod 7 + 7 := by omega
  have h4 := Int.tmod_lt_of_pos (x.tmod 7 + 7) (show (0 : Int) < 7 by decide)
  have h5 := Int.tmod_nonneg 7 h3
  omega
set_option maxHeartbeats 32000000 in
set_option maxRecDepth 100000 in
theorem hides_walk {w : World} (b : Bool) {k0 : Int} (hk : I64 k0) (ht : Tabs w) :
    Calls Tryd.prog 5 #[.bool b, .int .i64 k0] w fun e w' => e = .returned (.bool true) ∧ Kept w w' := by
  have HT := Lib.hid ht
  clear ht
  go_enter Tryd.func5, Tryd.ntmps5
  go_wp2_with fail
  (with_reducible refine (live11_any HT.out).mono ?_); rintro e w1 ⟨rfl, k1⟩
  have K1 := Lib.hid k1
  clear k1
  go_wp2_with fail
  (with_reducible refine (two11_any (HT.out.kept K1.out)).mono ?_); rintro e w2 ⟨p, q, pa, rfl, rfl, F, G, hA, hR, hFG, hF, hG, k2⟩
  have a2 := At.mkA hA hF k2 (HT.out.kept K1.out)
  have hg := a2.good
  have HG0 := Shut.mk hg
  have HA := Lib.hid a2
  clear hA hR hFG hF hG k2 a2 hg
  have HD := Shut.mk (show ∀ n : Int, 0 ≤ n → n < 10 → Den (atomT n) (atomsL 10) n from fun n h0 h1 => by
    obtain ⟨m, rfl⟩ := Int.eq_ofNat_of_zero_le h0
    exact atoms_den HG0.out (by omega))
  cases b with
  | true =>
    have kL : Kept w2 (w2.alloc (.cells #[.int .i64 4] 3)) := (Kept.refl w2).alloc _
    have aL := HA.out.plusE kL
    have hl3 : RdK (PlusE (fun b => b < w1.heap.size) w2 (w2.alloc (.cells #[.int .i64 4] 3))) (w2.alloc (.cells #[.int .i64 4] 3)) (.slice (some ⟨w2.heap.size, 0, none⟩) 1 1) [4] := by
      have ho : OwnI w2.heap.size (w2.alloc (.cells #[.int .i64 4] 3)) (.slice (some ⟨w2.heap.size, 0, none⟩) 1 1) [4] := Ownv.lit (B := w2.heap.size) 3 (w := w2) [.int .i64 4] (Nat.le_refl _) (by unfold maxLen; simp)
      refine RdK.own ho fun b hb => .inr ?_
      have := Ownv.lt ho hb
      exact ⟨this.2, this.1⟩
    have HC := Lib.hid (PNext_ok (i := 0) (c := 1) (x := 2) aL hl3 (HD.out 0 (by decide) (by decide)) (HD.out 1 (by decide) (by decide)) (HD.out 2 (by decide) (by decide)) (DenL.cons (HD.out 4 (by decide) (by decide)) (DenL.nil _)) (by simp only [List.length_nil, List.length_cons]; rw [atomsL_len]; omega))
    clear kL aL hl3 HA
    go_wp2_with fail
    generalize PlusE (fun b => b < w1.heap.size) w2 (w2.alloc (.cells #[.int .i64 4] 3)) = T at *
    generalize w2.alloc (.cells #[.int .i64 4] 3) = w3 at *
    generalize w2.heap.size = lb at *
    (with_reducible refine HC.out.mono ?_); rintro e w4 ⟨r, X, rfl, a4, hr, d4, k4⟩
    simp only [List.length_nil, List.length_cons] at hr
    have hg := a4.good
    have HA1 := Shut.mk (show ∀ n : Int, 0 ≤ n → n < 10 → Den (atomT n) (atomsL 10 ++ r) n from fun n h0 h1 => (HD.out n h0 h1).more r)
    have H1 := Shut.mk (show ∀ (b : Int), b = 0 ∨ b = 1 → ∀ m, m < 10 → derB (atomsL 10 ++ r) [b, 2, 4, X.external] (X.inner.getD m 0) = false from fun b hb m hm => der_no (hide_one hg d4 HA1.out hb hm))
    have H2 := Shut.mk (show ∀ k, 3 ≤ k → k < 10 → ∀ m, m < 10 → derB (atomsL 10 ++ r) [X.inner.getD k 0, 0, 2] (X.inner.getD m 0) = decide (m = k) from fun k h3 h10 m hm => der_iff (hide_two hg d4 HA1.out h3 h10 hm))
    have H3 := Shut.mk (show derB (atomsL 10 ++ r) [0, 1, 2, 4] X.init = true from derB_true.2 (have_all hg (L := [atomT 4]) (by simp) d4 HA1.out))
    have HIt := Shut.mk (show (∀ m, m < 10 → IsT (atomsL 10 ++ r) (X.inner.getD m 0)) ∧ IsT (atomsL 10 ++ r) X.external ∧ IsT (atomsL 10 ++ r) X.init from ⟨fun m hm => (d4.at hm).1, d4.2.1, (d4.at (i := 9) (by decide)).1⟩)
    have HAr := Lib.hid a4
    have HI := Lib.hid (fun W => PInner_any W X)
    generalize atomsL 10 ++ r = ds at *
    obtain ⟨x0, x1, x2, x3, x4, x5, x6, x7, x8, x9, x10⟩ := X
    obtain ⟨X, hX⟩ : ∃ X : Ep, X = ⟨x0, x1, x2, x3, x4, x5, x6, x7, x8, x9, x10⟩ := ⟨_, rfl⟩
    unfold epV at HI ⊢
    simp only at HI H3 HIt H1 ⊢
    rw [← hX] at HI H1 H2 HIt
    have hXs := Shut.mk hX
    clear hX a4 hr d4 k4 hg HC HD HG0
    have kX : Kept w4 (w4.alloc (.cells #[.int .i64 x0, .int .i64 x1, .int .i64 x2, .int .i64 x3, .int .i64 x4, .int .i64 x5, .int .i64 x6, .int .i64 x7, .int .i64 x8, .int .i64 x9, .int .i64 x10] 30)) := (Kept.refl w4).alloc _
    have bX := Blk.new w4 [.int .i64 x0, .int .i64 x1, .int .i64 x2, .int .i64 x3, .int .i64 x4, .int .i64 x5, .int .i64 x6, .int .i64 x7, .int .i64 x8, .int .i64 x9, .int .i64 x10] 30
    have HBX := Lib.hid bX
    have HAX := Lib.hid (HAr.out.step kX)
    clear kX bX HAr
    go_upto_region 7 with fail
    generalize (w4.alloc (.cells #[.int .i64 x0, .int .i64 x1, .int .i64 x2, .int .i64 x3, .int .i64 x4, .int .i64 x5, .int .i64 x6, .int .i64 x7, .int .i64 x8, .int .i64 x9, .int .i64 x10] 30)) = w5 at *
    generalize w4.heap.size = xb at *
    have p0 := HBX.out.cell 0
    have p1 := HBX.out.cell 1
    have p2 := HBX.out.cell 2
    have p3 := HBX.out.cell 3
    have p4 := HBX.out.cell 4
    have p5 := HBX.out.cell 5
    have p6 := HBX.out.cell 6
    have p7 := HBX.out.cell 7
    have p8 := HBX.out.cell 8
    have p9 := HBX.out.cell 9
    have p10 := HBX.out.cell 10
    simp only [List.getElem?_cons_zero, List.getElem?_cons_succ] at p0 p1 p2 p3 p4 p5 p6 p7 p8 p9 p10
    go_wp2_with fail
    (with_reducible refine (HI.out _).mono ?_); rintro e w6 ⟨l1, rfl, ol1, k6⟩
    obtain ⟨la, lc, hla⟩ : ∃ la lc, l1 = .slice la 10 lc := by
      obtain ⟨va, vc, h, _, _, _⟩ := (OwnI.rd ol1).len
      exact ⟨va, vc, h⟩
    subst hla
    have HL := Lib.hid (OwnI.rd ol1)
    have HA6 := Lib.hid (HAX.out.step k6)
    have HB6 := Lib.hid (HBX.out.kept k6)
    clear ol1 k6 HAX HBX HI p0 p1 p2 p3 p4 p5 p6 p7 p8 p9 p10
    have p0 := HB6.out.cell 0
    have p1 := HB6.out.cell 1
    have p2 := HB6.out.cell 2
    have p3 := HB6.out.cell 3
    have p4 := HB6.out.cell 4
    have p5 := HB6.out.cell 5
    have p6 := HB6.out.cell 6
    have p7 := HB6.out.cell 7
    have p8 := HB6.out.cell 8
    have p9 := HB6.out.cell 9
    have p10 := HB6.out.cell 10
    simp only [List.getElem?_cons_zero, List.getElem?_cons_succ] at p0 p1 p2 p3 p4 p5 p6 p7 p8 p9 p10
    have kk : Kept w6 (((w6.alloc (.cells #[.int .i64 0, .int .i64 2, .int .i64 4, .int .i64 x9] 3)).alloc (.cells #[.int .i64 1, .int .i64 2, .int .i64 4, .int .i64 x9] 3)).alloc (.cells #[.slice (some ⟨w6.heap.size, 0, none⟩) 4 4, .slice (some ⟨w6.heap.size + 1, 0, none⟩) 4 4] 22)) := (((Kept.refl w6).alloc _).alloc _).alloc _
    have r1 := ((RdI.sl4 w6 0 2 4 x9).kept ((Kept.refl _).alloc (.cells #[.int .i64 1, .int .i64 2, .int .i64 4, .int .i64 x9] 3))).kept ((Kept.refl _).alloc (.cells #[.slice (some ⟨w6.heap.size, 0, none⟩) 4 4, .slice (some ⟨w6.heap.size + 1, 0, none⟩) 4 4] 22))
    have r2 := (RdI.sl4 (w6.alloc (.cells #[.int .i64 0, .int .i64 2, .int .i64 4, .int .i64 x9] 3)) 1 2 4 x9).kept ((Kept.refl _).alloc (.cells #[.slice (some ⟨w6.heap.size, 0, none⟩) 4 4, .slice (some ⟨w6.heap.size + 1, 0, none⟩) 4 4] 22))
    have bb := Blk.new ((w6.alloc (.cells #[.int .i64 0, .int .i64 2, .int .i64 4, .int .i64 x9] 3)).alloc (.cells #[.int .i64 1, .int .i64 2, .int .i64 4, .int .i64 x9] 3)) [.slice (some ⟨w6.heap.size, 0, none⟩) 4 4, .slice (some ⟨w6.heap.size + 1, 0, none⟩) 4 4] 22
    simp only [World.size_alloc] at r2 bb
    have HK := Lib.hid kk
    have HR1 := Lib.hid r1
    have HR2 := Lib.hid r2
    have HBB := Lib.hid bb
    clear kk r1 r2 bb
    have p9b := (((Kept.refl w6).alloc (.cells #[.int .i64 0, .int .i64 2, .int .i64 4, .int .i64 x9] 3)).cell (World.block_lt_of_cell? _ _ p9)).trans p9
    go_wp2
    clear p9b
    generalize (((w6.alloc (.cells #[.int .i64 0, .int .i64 2, .int .i64 4, .int .i64 x9] 3)).alloc (.cells #[.int .i64 1, .int .i64 2, .int .i64 4, .int .i64 x9] 3)).alloc (.cells #[.slice (some ⟨w6.heap.size, 0, none⟩) 4 4, .slice (some ⟨w6.heap.size + 1, 0, none⟩) 4 4] 22)) = w7 at *
    generalize w6.heap.size = kb at *
    have HA7 := Lib.hid (HA6.out.step HK.out)
    have HL7 := Lib.hid (HL.out.kept HK.out)
    have HB7 := Lib.hid (HB6.out.kept HK.out)
    clear HA6 HL HB6 HK p0 p1 p2 p3 p4 p5 p6 p7 p8 p9 p10
    have HS := Shut.mk (show ∀ m : Nat, m < 2 → ∃ (g : Nat) (l : List Int), w7.cell? ⟨kb + 1 + 1, m, none⟩ = some (.slice (some ⟨g, 0, none⟩) 4 4) ∧ l.length = 4 ∧ RdI w7 (.slice (some ⟨g, 0, none⟩) 4 4) l ∧ (∀ x ∈ l, IsT ds x) ∧ ∀ j, j < 10 → derB ds l (X.inner.getD j 0) = false from fun m hm => by
      have i4 : ∀ n : Int, 0 ≤ n → n < 10 → IsT ds n := fun n h0 h1 => (HA1.out n h0 h1).1
      have hc : m = 0 ∨ m = 1 := by omega
      rcases hc with rfl | rfl
      · exact ⟨kb, _, HBB.out.cell 0, rfl, HR1.out, (fun x hx2 => by
          simp only [List.mem_cons, List.not_mem_nil, or_false] at hx2
          rcases hx2 with rfl | rfl | rfl | rfl
          · exact i4 _ (by decide) (by decide)
          · exact i4 _ (by decide) (by decide)
          · exact i4 _ (by decide) (by decide)
          · exact HIt.out.2.1), fun j hj => H1.out 0 (.inl rfl) j hj⟩
      · exact ⟨kb + 1, _, HBB.out.cell 1, rfl, HR2.out, (fun x hx2 => by
          simp only [List.mem_cons, List.not_mem_nil, or_false] at hx2
          rcases hx2 with rfl | rfl | rfl | rfl
          · exact i4 _ (by decide) (by decide)
          · exact i4 _ (by decide) (by decide)
          · exact i4 _ (by decide) (by decide)
          · exact HIt.out.2.1), fun j hj => H1.out 1 (.inr rfl) j hj⟩)
    go_loopw [52] (fun s wr => ∃ m : Nat, m ≤ 2 ∧ s = .int .i64 m ∧ Kept w7 wr) (fun s _ => 2 - (intOf s).toNat)
    case atStart => exact ⟨0, Nat.zero_le _, rfl, Kept.refl _⟩
    case round =>
      obtain ⟨m, hm0, rfl, hkm⟩ := hrel
      by_cases hlt : m < 2
      · obtain ⟨gb, kl, hc0, hl4, hrk, hkT, hkN⟩ := HS.out m hlt
        have hc1 := (hkm.cell (World.block_lt_of_cell? _ _ hc0)).trans hc0
        have m0 : (0 : Int) ≤ (m : Int) := by omega
        have m1 : (m : Int) < 2 := by omega
        have HRK := Lib.hid hrk
        have HKT := Shut.mk hkT
        have HKN := Shut.mk hkN
        have HL4 := Shut.mk hl4
        have HM := Shut.mk hlt
        have HKM := Lib.hid hkm
        clear hc0 hl4 hrk hkT hkN hlt
        go_wp2
        go_loopw [58] (fun s wr => ∃ j : Nat, j ≤ 10 ∧ s = .int .i64 j ∧ Kept w7 wr) (fun s _ => 10 - (intOf s).toNat)
        case atStart => exact ⟨0, Nat.zero_le _, rfl, HKM.out⟩
        case round =>
          obtain ⟨j, hj0, rfl, hkj⟩ := hrel
          by_cases hjl : j < 10
          · obtain ⟨rb1, ro1, rc1, hrv, _, _, hrb, hcl⟩ := (HL7.out.kept hkj).addr (show 0 < 10 by decide)
            simp only [Value.slice.injEq] at hrv
            obtain ⟨rfl, hdrop, rfl⟩ := hrv
            clear hdrop
            have f1 := hcl j hjl
            clear hcl
            have HC := Lib.hid (derivesA (HA7.out.step hkj) (HRK.out.kept hkj) (HIt.out.1 j hjl) HKT.out (by rw [HL4.out]; decide))
            rw [HKN.out j hjl] at HC
            generalize X.inner.getD j 0 = g1 at HC f1
            have c0 : (0 : Int) ≤ (j : Int) := by omega
            have c1 : (j : Int) < 10 := by omega
            have HJ := Shut.mk hjl
            have HKJ := Lib.hid hkj
            clear hjl hkj
            go_wp2_with fail
            (with_reducible refine HC.out.mono ?_); rintro e wd ⟨rfl, kd⟩
            have KD := Lib.hid (HKJ.out.trans kd)
            clear kd HC
            go_wp2
            go_roundw
            case rel => exact ⟨j + 1, HJ.out, by go_num, KD.out⟩
            case measure => simp [intOf]; have := HJ.out; omega
          · obtain rfl : j = 10 := by omega
            have HKJ := Lib.hid hkj
            clear hjl hkj
            go_wp2
            go_roundw
            case rel => exact ⟨m + 1, HM.out, by go_num, HKJ.out⟩
            case measure => simp [intOf]; have := HM.out; omega
      · obtain rfl : m = 2 := by omega
        have ks : Kept wr (wr.alloc (.cells #[.int .i64 0, .int .i64 1, .int .i64 2, .int .i64 4] 3)) := (Kept.refl wr).alloc _
        have B8 := HB7.out.kept (hkm.trans ks)
        have p10 := B8.cell 10
        simp only [List.getElem?_cons_zero, List.getElem?_cons_succ] at p10
        have HC := Lib.hid (derivesA (HA7.out.step (hkm.trans ks)) (RdI.sl4 wr 0 1 2 4) HIt.out.2.2 (fun x hx => by
          simp only [List.mem_cons, List.not_mem_nil, or_false] at hx
          rcases hx with rfl | rfl | rfl | rfl <;> exact (HA1.out _ (by decide) (by decide)).1) (by decide))
        rw [show derB ds [0, 1, 2, 4] x10 = true from H3.out] at HC
        have HKM := Lib.hid (hkm.trans ks)
        clear hkm ks B8 hlt
        go_wp2_with fail
        generalize wr.alloc (.cells #[.int .i64 0, .int .i64 1, .int .i64 2, .int .i64 4] 3) = w8 at *
        (with_reducible refine HC.out.mono ?_); rintro e w9 ⟨rfl, k9⟩
        have HK9 := Lib.hid (HKM.out.trans k9)
        clear k9 HC HKM p10
        obtain ⟨⟨q0, q1⟩, q2, q3⟩ := red7_lt k0
        generalize hz : k0.tmod 7 = z at *
        generalize hu : (z + 7).tmod 7 = u at *
        obtain ⟨k2, hk2, h3, h10⟩ : ∃ k2 : Nat, 3 + u = (k2 : Int) ∧ 3 ≤ k2 ∧ k2 < 10 := ⟨(3 + u).toNat, by omega, by omega, by omega⟩
        have H310 := Shut.mk (And.intro h3 h10)
        have e1 : (k2 : Int) < 10 := by omega
        have e0 : (0 : Int) ≤ (k2 : Int) := by omega
        clear h3 h10
        go_wp2
        go_loopw [91] (fun s wr => ∃ j : Nat, j ≤ 10 ∧ s = .int .i64 j ∧ Kept w7 wr) (fun s _ => 10 - (intOf s).toNat)
        case atStart => exact ⟨0, Nat.zero_le _, rfl, HK9.out⟩
        case round =>
          obtain ⟨j, hj0, rfl, hkj⟩ := hrel
          by_cases hjl : j < 10
          · obtain ⟨rb1, ro1, rc1, hrv, _, _, hrb, hcl⟩ := (HL7.out.kept hkj).addr (show 0 < 10 by decide)
            simp only [Value.slice.injEq] at hrv
            obtain ⟨rfl, hdrop, rfl⟩ := hrv
            clear hdrop
            have f1 := hcl j hjl
            have f2 := hcl k2 H310.out.2
            clear hcl
            have ks : Kept wr (wr.alloc (.cells #[.int .i64 (X.inner.getD k2 0), .int .i64 0, .int .i64 2] 3)) := (Kept.refl wr).alloc _
            have HC := Lib.hid (derivesA (HA7.out.step (hkj.trans ks)) (RdI.sl3 wr (X.inner.getD k2 0) 0 2) (HIt.out.1 j hjl) (fun x hx => by
              simp only [List.mem_cons, List.not_mem_nil, or_false] at hx
              rcases hx with rfl | rfl | rfl
              · exact HIt.out.1 k2 H310.out.2
              · exact (HA1.out _ (by decide) (by decide)).1
              · exact (HA1.out _ (by decide) (by decide)).1) (by simp))
            rw [H2.out k2 H310.out.1 H310.out.2 j hjl] at HC
            have HKJ := Lib.hid (hkj.trans ks)
            generalize X.inner.getD j 0 = g1 at HC f1
            generalize X.inner.getD k2 0 = g2 at HC f2 HKJ ks
            have hq : ((j : Int) == (k2 : Int)) = decide (j = k2) := by rw [Bool.eq_iff_iff, beq_iff_eq, decide_eq_true_iff]; omega
            generalize decide (j = k2) = B at hq HC
            have hbb : (B != B) = false := by simp
            have c0 : (0 : Int) ≤ (j : Int) := by omega
            have c1 : (j : Int) < 10 := by omega
            have HJ := Shut.mk hjl
            clear hjl hkj ks
            go_wp2_with fail
            (with_reducible refine HC.out.mono ?_); rintro e wd ⟨rfl, kd⟩
            have KD := Lib.hid (HKJ.out.trans kd)
            clear kd HC HKJ
            go_wp2
            go_roundw
            case rel => exact ⟨j + 1, HJ.out, by go_num, KD.out⟩
            case measure => simp [intOf]; have := HJ.out; omega
          · obtain rfl : j = 10 := by omega
            have KK := Lib.hid (K1.out.trans ((HA7.out.step hkj).kept))
            clear hjl hkj
            go_wp2
            go_ret
            exact ⟨rfl, KK.out⟩
  | false =>
    have HC := Lib.hid (PNext_ok (i := 0) (c := 1) (x := 2) HA.out (RdK.nil _ _) (HD.out 0 (by decide) (by decide)) (HD.out 1 (by decide) (by decide)) (HD.out 2 (by decide) (by decide)) (DenL.nil _) (by simp only [List.length_nil]; rw [atomsL_len]; omega))
    clear HA
    go_wp2_with fail
    (with_reducible refine HC.out.mono ?_); rintro e w4 ⟨r, X, rfl, a4, hr, d4, k4⟩
    simp only [List.length_nil, List.length_cons] at hr
    have hg := a4.good
    have HA1 := Shut.mk (show ∀ n : Int, 0 ≤ n → n < 10 → Den (atomT n) (atomsL 10 ++ r) n from fun n h0 h1 => (HD.out n h0 h1).more r)
    have H1 := Shut.mk (show ∀ (b : Int), b = 0 ∨ b = 1 → ∀ m, m < 10 → derB (atomsL 10 ++ r) [b, 2, 4, X.external] (X.inner.getD m 0) = false from fun b hb m hm => der_no (hide_one hg d4 HA1.out hb hm))
    have H2 := Shut.mk (show ∀ k, 3 ≤ k → k < 10 → ∀ m, m < 10 → derB (atomsL 10 ++ r) [X.inner.getD k 0, 0, 2] (X.inner.getD m 0) = decide (m = k) from fun k h3 h10 m hm => der_iff (hide_two hg d4 HA1.out h3 h10 hm))
    have H3 := Shut.mk (show derB (atomsL 10 ++ r) [0, 1, 2, 4] X.init = true from derB_true.2 (have_all hg (L := []) (by simp) d4 HA1.out))
    have HIt := Shut.mk (show (∀ m, m < 10 → IsT (atomsL 10 ++ r) (X.inner.getD m 0)) ∧ IsT (atomsL 10 ++ r) X.external ∧ IsT (atomsL 10 ++ r) X.init from ⟨fun m hm => (d4.at hm).1, d4.2.1, (d4.at (i := 9) (by decide)).1⟩)
    have HAr := Lib.hid a4
    have HI := Lib.hid (fun W => PInner_any W X)
    generalize atomsL 10 ++ r = ds at *
    obtain ⟨x0, x1, x2, x3, x4, x5, x6, x7, x8, x9, x10⟩ := X
    obtain ⟨X, hX⟩ : ∃ X : Ep, X = ⟨x0, x1, x2, x3, x4, x5, x6, x7, x8, x9, x10⟩ := ⟨_, rfl⟩
    unfold epV at HI ⊢
    simp only at HI H3 HIt H1 ⊢
    rw [← hX] at HI H1 H2 HIt
    have hXs := Shut.mk hX
    clear hX a4 hr d4 k4 hg HC HD HG0
    have kX : Kept w4 (w4.alloc (.cells #[.int .i64 x0, .int .i64 x1, .int .i64 x2, .int .i64 x3, .int .i64 x4, .int .i64 x5, .int .i64 x6, .int .i64 x7, .int .i64 x8, .int .i64 x9, .int .i64 x10] 30)) := (Kept.refl w4).alloc _
    have bX := Blk.new w4 [.int .i64 x0, .int .i64 x1, .int .i64 x2, .int .i64 x3, .int .i64 x4, .int .i64 x5, .int .i64 x6, .int .i64 x7, .int .i64 x8, .int .i64 x9, .int .i64 x10] 30
    have HBX := Lib.hid bX
    have HAX := Lib.hid (HAr.out.step kX)
    clear kX bX HAr
    go_upto_region 7 with fail
    generalize (w4.alloc (.cells #[.int .i64 x0, .int .i64 x1, .int .i64 x2, .int .i64 x3, .int .i64 x4, .int .i64 x5, .int .i64 x6, .int .i64 x7, .int .i64 x8, .int .i64 x9, .int .i64 x10] 30)) = w5 at *
    generalize w4.heap.size = xb at *
    have p0 := HBX.out.cell 0
    have p1 := HBX.out.cell 1
    have p2 := HBX.out.cell 2
    have p3 := HBX.out.cell 3
    have p4 := HBX.out.cell 4
    have p5 := HBX.out.cell 5
    have p6 := HBX.out.cell 6
    have p7 := HBX.out.cell 7
    have p8 := HBX.out.cell 8
    have p9 := HBX.out.cell 9
    have p10 := HBX.out.cell 10
    simp only [List.getElem?_cons_zero, List.getElem?_cons_succ] at p0 p1 p2 p3 p4 p5 p6 p7 p8 p9 p10
    go_wp2_with fail
    (with_reducible refine (HI.out _).mono ?_); rintro e w6 ⟨l1, rfl, ol1, k6⟩
    obtain ⟨la, lc, hla⟩ : ∃ la lc, l1 = .slice la 10 lc := by
      obtain ⟨va, vc, h, _, _, _⟩ := (OwnI.rd ol1).len
      exact ⟨va, vc, h⟩
    subst hla
    have HL := Lib.hid (OwnI.rd ol1)
    have HA6 := Lib.hid (HAX.out.step k6)
    have HB6 := Lib.hid (HBX.out.kept k6)
    clear ol1 k6 HAX HBX HI p0 p1 p2 p3 p4 p5 p6 p7 p8 p9 p10
    have p0 := HB6.out.cell 0
    have p1 := HB6.out.cell 1
    have p2 := HB6.out.cell 2
    have p3 := HB6.out.cell 3
    have p4 := HB6.out.cell 4
    have p5 := HB6.out.cell 5
    have p6 := HB6.out.cell 6
    have p7 := HB6.out.cell 7
    have p8 := HB6.out.cell 8
    have p9 := HB6.out.cell 9
    have p10 := HB6.out.cell 10
    simp only [List.getElem?_cons_zero, List.getElem?_cons_succ] at p0 p1 p2 p3 p4 p5 p6 p7 p8 p9 p10
    have kk : Kept w6 (((w6.alloc (.cells #[.int .i64 0, .int .i64 2, .int .i64 4, .int .i64 x9] 3)).alloc (.cells #[.int .i64 1, .int .i64 2, .int .i64 4, .int .i64 x9] 3)).alloc (.cells #[.slice (some ⟨w6.heap.size, 0, none⟩) 4 4, .slice (some ⟨w6.heap.size + 1, 0, none⟩) 4 4] 22)) := (((Kept.refl w6).alloc _).alloc _).alloc _
    have r1 := ((RdI.sl4 w6 0 2 4 x9).kept ((Kept.refl _).alloc (.cells #[.int .i64 1, .int .i64 2, .int .i64 4, .int .i64 x9] 3))).kept ((Kept.refl _).alloc (.cells #[.slice (some ⟨w6.heap.size, 0, none⟩) 4 4, .slice (some ⟨w6.heap.size + 1, 0, none⟩) 4 4] 22))
    have r2 := (RdI.sl4 (w6.alloc (.cells #[.int .i64 0, .int .i64 2, .int .i64 4, .int .i64 x9] 3)) 1 2 4 x9).kept ((Kept.refl _).alloc (.cells #[.slice (some ⟨w6.heap.size, 0, none⟩) 4 4, .slice (some ⟨w6.heap.size + 1, 0, none⟩) 4 4] 22))
    have bb := Blk.new ((w6.alloc (.cells #[.int .i64 0, .int .i64 2, .int .i64 4, .int .i64 x9] 3)).alloc (.cells #[.int .i64 1, .int .i64 2, .int .i64 4, .int .i64 x9] 3)) [.slice (some ⟨w6.heap.size, 0, none⟩) 4 4, .slice (some ⟨w6.heap.size + 1, 0, none⟩) 4 4] 22
    simp only [World.size_alloc] at r2 bb
    have HK := Lib.hid kk
    have HR1 := Lib.hid r1
    have HR2 := Lib.hid r2
    have HBB := Lib.hid bb
    clear kk r1 r2 bb
    have p9b := (((Kept.refl w6).alloc (.cells #[.int .i64 0, .int .i64 2, .int .i64 4, .int .i64 x9] 3)).cell (World.block_lt_of_cell? _ _ p9)).trans p9
    go_wp2
    clear p9b
    generalize (((w6.alloc (.cells #[.int .i64 0, .int .i64 2, .int .i64 4, .int .i64 x9] 3)).alloc (.cells #[.int .i64 1, .int .i64 2, .int .i64 4, .int .i64 x9] 3)).alloc (.cells #[.slice (some ⟨w6.heap.size, 0, none⟩) 4 4, .slice (some ⟨w6.heap.size + 1, 0, none⟩) 4 4] 22)) = w7 at *
    generalize w6.heap.size = kb at *
    have HA7 := Lib.hid (HA6.out.step HK.out)
    have HL7 := Lib.hid (HL.out.kept HK.out)
    have HB7 := Lib.hid (HB6.out.kept HK.out)
    clear HA6 HL HB6 HK p0 p1 p2 p3 p4 p5 p6 p7 p8 p9 p10
    have HS := Shut.mk (show ∀ m : Nat, m < 2 → ∃ (g : Nat) (l : List Int), w7.cell? ⟨kb + 1 + 1, m, none⟩ = some (.slice (some ⟨g, 0, none⟩) 4 4) ∧ l.length = 4 ∧ RdI w7 (.slice (some ⟨g, 0, none⟩) 4 4) l ∧ (∀ x ∈ l, IsT ds x) ∧ ∀ j, j < 10 → derB ds l (X.inner.getD j 0) = false from fun m hm => by
      have i4 : ∀ n : Int, 0 ≤ n → n < 10 → IsT ds n := fun n h0 h1 => (HA1.out n h0 h1).1
      have hc : m = 0 ∨ m = 1 := by omega
      rcases hc with rfl | rfl
      · exact ⟨kb, _, HBB.out.cell 0, rfl, HR1.out, (fun x hx2 => by
          simp only [List.mem_cons, List.not_mem_nil, or_false] at hx2
          rcases hx2 with rfl | rfl | rfl | rfl
          · exact i4 _ (by decide) (by decide)
          · exact i4 _ (by decide) (by decide)
          · exact i4 _ (by decide) (by decide)
          · exact HIt.out.2.1), fun j hj => H1.out 0 (.inl rfl) j hj⟩
      · exact ⟨kb + 1, _, HBB.out.cell 1, rfl, HR2.out, (fun x hx2 => by
          simp only [List.mem_cons, List.not_mem_nil, or_false] at hx2
          rcases hx2 with rfl | rfl | rfl | rfl
          · exact i4 _ (by decide) (by decide)
          · exact i4 _ (by decide) (by decide)
          · exact i4 _ (by decide) (by decide)
          · exact HIt.out.2.1), fun j hj => H1.out 1 (.inr rfl) j hj⟩)
    go_loopw [52] (fun s wr => ∃ m : Nat, m ≤ 2 ∧ s = .int .i64 m ∧ Kept w7 wr) (fun s _ => 2 - (intOf s).toNat)
    case atStart => exact ⟨0, Nat.zero_le _, rfl, Kept.refl _⟩
    case round =>
      obtain ⟨m, hm0, rfl, hkm⟩ := hrel
      by_cases hlt : m < 2
      · obtain ⟨gb, kl, hc0, hl4, hrk, hkT, hkN⟩ := HS.out m hlt
        have hc1 := (hkm.cell (World.block_lt_of_cell? _ _ hc0)).trans hc0
        have m0 : (0 : Int) ≤ (m : Int) := by omega
        have m1 : (m : Int) < 2 := by omega
        have HRK := Lib.hid hrk
        have HKT := Shut.mk hkT
        have HKN := Shut.mk hkN
        have HL4 := Shut.mk hl4
        have HM := Shut.mk hlt
        have HKM := Lib.hid hkm
        clear hc0 hl4 hrk hkT hkN hlt
        go_wp2
        go_loopw [58] (fun s wr => ∃ j : Nat, j ≤ 10 ∧ s = .int .i64 j ∧ Kept w7 wr) (fun s _ => 10 - (intOf s).toNat)
        case atStart => exact ⟨0, Nat.zero_le _, rfl, HKM.out⟩
        case round =>
          obtain ⟨j, hj0, rfl, hkj⟩ := hrel
          by_cases hjl : j < 10
          · obtain ⟨rb1, ro1, rc1, hrv, _, _, hrb, hcl⟩ := (HL7.out.kept hkj).addr (show 0 < 10 by decide)
            simp only [Value.slice.injEq] at hrv
            obtain ⟨rfl, hdrop, rfl⟩ := hrv
            clear hdrop
            have f1 := hcl j hjl
            clear hcl
            have HC := Lib.hid (derivesA (HA7.out.step hkj) (HRK.out.kept hkj) (HIt.out.1 j hjl) HKT.out (by rw [HL4.out]; decide))
            rw [HKN.out j hjl] at HC
            generalize X.inner.getD j 0 = g1 at HC f1
            have c0 : (0 : Int) ≤ (j : Int) := by omega
            have c1 : (j : Int) < 10 := by omega
            have HJ := Shut.mk hjl
            have HKJ := Lib.hid hkj
            clear hjl hkj
            go_wp2_with fail
            (with_reducible refine HC.out.mono ?_); rintro e wd ⟨rfl, kd⟩
            have KD := Lib.hid (HKJ.out.trans kd)
            clear kd HC
            go_wp2
            go_roundw
            case rel => exact ⟨j + 1, HJ.out, by go_num, KD.out⟩
            case measure => simp [intOf]; have := HJ.out; omega
          · obtain rfl : j = 10 := by omega
            have HKJ := Lib.hid hkj
            clear hjl hkj
            go_wp2
            go_roundw
            case rel => exact ⟨m + 1, HM.out, by go_num, HKJ.out⟩
            case measure => simp [intOf]; have := HM.out; omega
      · obtain rfl : m = 2 := by omega
        have ks : Kept wr (wr.alloc (.cells #[.int .i64 0, .int .i64 1, .int .i64 2, .int .i64 4] 3)) := (Kept.refl wr).alloc _
        have B8 := HB7.out.kept (hkm.trans ks)
        have p10 := B8.cell 10
        simp only [List.getElem?_cons_zero, List.getElem?_cons_succ] at p10
        have HC := Lib.hid (derivesA (HA7.out.step (hkm.trans ks)) (RdI.sl4 wr 0 1 2 4) HIt.out.2.2 (fun x hx => by
          simp only [List.mem_cons, List.not_mem_nil, or_false] at hx
          rcases hx with rfl | rfl | rfl | rfl <;> exact (HA1.out _ (by decide) (by decide)).1) (by decide))
        rw [show derB ds [0, 1, 2, 4] x10 = true from H3.out] at HC
        have HKM := Lib.hid (hkm.trans ks)
        clear hkm ks B8 hlt
        go_wp2_with fail
        generalize wr.alloc (.cells #[.int .i64 0, .int .i64 1, .int .i64 2, .int .i64 4] 3) = w8 at *
        (with_reducible refine HC.out.mono ?_); rintro e w9 ⟨rfl, k9⟩
        have HK9 := Lib.hid (HKM.out.trans k9)
        clear k9 HC HKM p10
        obtain ⟨⟨q0, q1⟩, q2, q3⟩ := red7_lt k0
        generalize hz : k0.tmod 7 = z at *
        generalize hu : (z + 7).tmod 7 = u at *
        obtain ⟨k2, hk2, h3, h10⟩ : ∃ k2 : Nat, 3 + u = (k2 : Int) ∧ 3 ≤ k2 ∧ k2 < 10 := ⟨(3 + u).toNat, by omega, by omega, by omega⟩
        have H310 := Shut.mk (And.intro h3 h10)
        have e1 : (k2 : Int) < 10 := by omega
        have e0 : (0 : Int) ≤ (k2 : Int) := by omega
        clear h3 h10
        go_wp2
        go_loopw [91] (fun s wr => ∃ j : Nat, j ≤ 10 ∧ s = .int .i64 j ∧ Kept w7 wr) (fun s _ => 10 - (intOf s).toNat)
        case atStart => exact ⟨0, Nat.zero_le _, rfl, HK9.out⟩
        case round =>
          obtain ⟨j, hj0, rfl, hkj⟩ := hrel
          by_cases hjl : j < 10
          · obtain ⟨rb1, ro1, rc1, hrv, _, _, hrb, hcl⟩ := (HL7.out.kept hkj).addr (show 0 < 10 by decide)
            simp only [Value.slice.injEq] at hrv
            obtain ⟨rfl, hdrop, rfl⟩ := hrv
            clear hdrop
            have f1 := hcl j hjl
            have f2 := hcl k2 H310.out.2
            clear hcl
            have ks : Kept wr (wr.alloc (.cells #[.int .i64 (X.inner.getD k2 0), .int .i64 0, .int .i64 2] 3)) := (Kept.refl wr).alloc _
            have HC := Lib.hid (derivesA (HA7.out.step (hkj.trans ks)) (RdI.sl3 wr (X.inner.getD k2 0) 0 2) (HIt.out.1 j hjl) (fun x hx => by
              simp only [List.mem_cons, List.not_mem_nil, or_false] at hx
              rcases hx with rfl | rfl | rfl
              · exact HIt.out.1 k2 H310.out.2
              · exact (HA1.out _ (by decide) (by decide)).1
              · exact (HA1.out _ (by decide) (by decide)).1) (by simp))
            rw [H2.out k2 H310.out.1 H310.out.2 j hjl] at HC
            have HKJ := Lib.hid (hkj.trans ks)
            generalize X.inner.getD j 0 = g1 at HC f1
            generalize X.inner.getD k2 0 = g2 at HC f2 HKJ ks
            have hq : ((j : Int) == (k2 : Int)) = decide (j = k2) := by rw [Bool.eq_iff_iff, beq_iff_eq, decide_eq_true_iff]; omega
            generalize decide (j = k2) = B at hq HC
            have hbb : (B != B) = false := by simp
            have c0 : (0 : Int) ≤ (j : Int) := by omega
            have c1 : (j : Int) < 10 := by omega
            have HJ := Shut.mk hjl
            clear hjl hkj ks
            go_wp2_with fail
            (with_reducible refine HC.out.mono ?_); rintro e wd ⟨rfl, kd⟩
            have KD := Lib.hid (HKJ.out.trans kd)
            clear kd HC HKJ
            go_wp2
            go_roundw
            case rel => exact ⟨j + 1, HJ.out, by go_num, KD.out⟩
            case measure => simp [intOf]; have := HJ.out; omega
          · obtain rfl : j = 10 := by omega
            have KK := Lib.hid (K1.out.trans ((HA7.out.step hkj).kept))
            clear hjl hkj
            go_wp2
            go_ret
            exact ⟨rfl, KK.out⟩
end Go.Proofs.YtekieioffaafaaaDoor
end
