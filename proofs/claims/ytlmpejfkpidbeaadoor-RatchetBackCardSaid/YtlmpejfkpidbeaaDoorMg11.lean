/- Texts of one proof, put together: RpR, RpS. -/
import Derived.Test.YtlmpejfkpidbeaaDoorMg08
import Derived.Deep.Cut
section
/- The statements' helper: others, where all leaves but one are the same (written by gen_oth.py). -/
set_option linter.unusedSimpArgs false
set_option linter.unusedVariables false
namespace Go.Proofs.YtlmpejfkpidbeaaDoor
open Go.RowKit
open Rt

theorem put_zero {w : World} {p q : Nat} {d : TN} {lv : Value} {X : List Value} (hp : Blk w p 32 [.int .i64 0, .int .i64 0, .int .i64 0, .int .i64 0, .int .i64 0, .slice none 0 0]) (hq : Blk w q 32 X) (hne : q ≠ p) :
    Blk ((((((w.setCell ⟨p, 0, none⟩ (.int .i64 d.kd)).setCell ⟨p, 1, none⟩ (.int .i64 d.id)).setCell ⟨p, 2, none⟩ (.int .i64 d.enc)).setCell ⟨p, 3, none⟩ (.int .i64 d.sig)).setCell ⟨p, 4, none⟩ (.int .i64 d.hash)).setCell ⟨p, 5, none⟩ lv) p 32 (tnCells d lv) ∧ Blk ((((((w.setCell ⟨p, 0, none⟩ (.int .i64 d.kd)).setCell ⟨p, 1, none⟩ (.int .i64 d.id)).setCell ⟨p, 2, none⟩ (.int .i64 d.enc)).setCell ⟨p, 3, none⟩ (.int .i64 d.sig)).setCell ⟨p, 4, none⟩ (.int .i64 d.hash)).setCell ⟨p, 5, none⟩ lv) q 32 X ∧ Turn (fun b => b = p) w ((((((w.setCell ⟨p, 0, none⟩ (.int .i64 d.kd)).setCell ⟨p, 1, none⟩ (.int .i64 d.id)).setCell ⟨p, 2, none⟩ (.int .i64 d.enc)).setCell ⟨p, 3, none⟩ (.int .i64 d.sig)).setCell ⟨p, 4, none⟩ (.int .i64 d.hash)).setCell ⟨p, 5, none⟩ lv) := by
  have t := put6_turn w p 0 d lv
  simp only [put6, Nat.zero_add] at t
  exact ⟨(((((hp.set 0 _).set 1 _).set 2 _).set 3 _).set 4 _).set 5 _, Blk.turn hq t hne, t⟩
set_option maxHeartbeats 8000000 in
set_option maxRecDepth 100000 in
theorem others_any {w : World} {tv uv : Value} {t u : List TN} {x : Int} (ht : RdTs w tv t) (hu : RdTs w uv u) (hlt : t.length ≤ 600) (hlu : u.length ≤ 600) (hx : I64 x) (h : ∀ j : Nat, (j : Int) ≠ x → nd t (2 * j) = nd u (2 * j)) :
    Calls Tryd.prog 28 #[tv, uv, .int .i64 x] w fun e w' => e = .returned (.bool true) ∧ Kept w w' := by
  obtain ⟨ta, tc, htv, _, _, _⟩ := ht.len
  subst htv
  obtain ⟨ua, uc, huv, _, _, _⟩ := hu.len
  subst huv
  have t63 : (t.length : Int) ≤ 600 := by omega
  have u63 : (u.length : Int) ≤ 600 := by omega
  obtain ⟨x0, x1⟩ := hx
  have HH := Shut.mk h
  have HT := Lib.hid ht
  have HU := Lib.hid hu
  clear h ht hu
  go_enter Tryd.func28, Tryd.ntmps28
  go_wp2
  have hmx : max (t.length : Int) (u.length : Int) ≤ 600 := by omega
  have hmx0 : 0 ≤ max (t.length : Int) (u.length : Int) := by omega
  generalize max (t.length : Int) (u.length : Int) = mx at hmx hmx0 ⊢
  go_loopw [17] (fun c wr => ∃ k : Nat, k ≤ 301 ∧ c = .int .i64 k ∧ Kept w wr) (fun c _ => 400 - (intOf c).toNat)
  case atStart => exact ⟨0, by omega, rfl, Kept.refl _⟩
  case round =>
    obtain ⟨k, hk, rfl, hkw⟩ := hrel
    have k0 : (0 : Int) ≤ (k : Int) := by omega
    by_cases hM : (k : Int) < mx / 2 + 1
    · have k1 : (k : Int) ≤ 300 := by omega
      have hk4 : (0 : Int) ≤ 2 * (k : Int) := by omega
      by_cases ha : 2 * k < t.length
      · have ha2 : 2 * (k : Int) < (t.length : Int) := by omega
        by_cases hb : 2 * k < u.length
        · have hb2 : 2 * (k : Int) < (u.length : Int) := by omega
          go_upto_region 6 with fail
          have bA : Blk ((wr.alloc (.cells #[.int .i64 0, .int .i64 0, .int .i64 0, .int .i64 0, .int .i64 0, .slice none 0 0] 32)).alloc (.cells #[.int .i64 0, .int .i64 0, .int .i64 0, .int .i64 0, .int .i64 0, .slice none 0 0] 32)) wr.heap.size 32 [.int .i64 0, .int .i64 0, .int .i64 0, .int .i64 0, .int .i64 0, .slice none 0 0] := (Blk.new wr [.int .i64 0, .int .i64 0, .int .i64 0, .int .i64 0, .int .i64 0, .slice none 0 0] 32).kept ((Kept.refl _).alloc _)
          have bB : Blk ((wr.alloc (.cells #[.int .i64 0, .int .i64 0, .int .i64 0, .int .i64 0, .int .i64 0, .slice none 0 0] 32)).alloc (.cells #[.int .i64 0, .int .i64 0, .int .i64 0, .int .i64 0, .int .i64 0, .slice none 0 0] 32)) (wr.heap.size + 1) 32 [.int .i64 0, .int .i64 0, .int .i64 0, .int .i64 0, .int .i64 0, .slice none 0 0] := by
            have := Blk.new (wr.alloc (.cells #[.int .i64 0, .int .i64 0, .int .i64 0, .int .i64 0, .int .i64 0, .slice none 0 0] 32)) [.int .i64 0, .int .i64 0, .int .i64 0, .int .i64 0, .int .i64 0, .slice none 0 0] 32
            rwa [alloc_size] at this
          have kZ : Kept wr ((wr.alloc (.cells #[.int .i64 0, .int .i64 0, .int .i64 0, .int .i64 0, .int .i64 0, .slice none 0 0] 32)).alloc (.cells #[.int .i64 0, .int .i64 0, .int .i64 0, .int .i64 0, .int .i64 0, .slice none 0 0] 32)) := ((Kept.refl _).alloc _).alloc _
          have hpw : w.heap.size ≤ wr.heap.size := hkw.size
          generalize ((wr.alloc (.cells #[.int .i64 0, .int .i64 0, .int .i64 0, .int .i64 0, .int .i64 0, .slice none 0 0] 32)).alloc (.cells #[.int .i64 0, .int .i64 0, .int .i64 0, .int .i64 0, .int .i64 0, .slice none 0 0] 32)) = wZ at bA bB kZ ⊢
          have kY : Kept w wZ := hkw.trans kZ
          generalize wr.heap.size = p at bA bB hpw ⊢
          clear kZ hkw
          obtain ⟨zb, zo, zc, za, zcc, hzv, hzat, hzun⟩ := HT.out.at (k := 2 * k) ha
          simp only [Value.slice.injEq] at hzv
          obtain ⟨rfl, -, rfl⟩ := hzv
          obtain ⟨g0, g1, g2, g3, g4, g5⟩ := hzat _ kY
          have f0 := bA.frozen 0
          have f1 := bA.frozen 1
          have f2 := bA.frozen 2
          have f3 := bA.frozen 3
          have f4 := bA.frozen 4
          have f5 := bA.frozen 5
          have d0 := bA.cell 0
          have d1 := bA.cell 1
          have d2 := bA.cell 2
          have d3 := bA.cell 3
          have d4 := bA.cell 4
          have d5 := bA.cell 5
          simp only [List.getElem?_cons_zero, List.getElem?_cons_succ] at d0 d1 d2 d3 d4 d5
          go_upto_region 8 with fail
          obtain ⟨bA2, bB2, tr⟩ := put_zero (d := nd t (2 * k)) (lv := .slice za (nd t (2 * k)).un.length zcc) bA bB (by omega)
          generalize ((((((wZ.setCell ⟨p, 0, none⟩ (.int .i64 (nd t (2 * k)).kd)).setCell ⟨p, 1, none⟩ (.int .i64 (nd t (2 * k)).id)).setCell ⟨p, 2, none⟩ (.int .i64 (nd t (2 * k)).enc)).setCell ⟨p, 3, none⟩ (.int .i64 (nd t (2 * k)).sig)).setCell ⟨p, 4, none⟩ (.int .i64 (nd t (2 * k)).hash)).setCell ⟨p, 5, none⟩ (.slice za (nd t (2 * k)).un.length zcc)) = wY at bA2 bB2 tr ⊢
          have kY2 : Kept w wY := Turn.keptOf kY tr (fun b e => by rw [e]; exact hpw)
          have HZ := Lib.hid hzun
          have hra := hzun.kept kY2
          clear f0 f1 f2 f3 f4 f5 d0 d1 d2 d3 d4 d5 g0 g1 g2 g3 g4 g5 hzat hzun bA bB tr kY
          obtain ⟨yb, yo, yc, ya, ycc, hyv, hyat, hyun⟩ := HU.out.at (k := 2 * k) hb
          simp only [Value.slice.injEq] at hyv
          obtain ⟨rfl, -, rfl⟩ := hyv
          obtain ⟨g0, g1, g2, g3, g4, g5⟩ := hyat _ kY2
          have f0 := bB2.frozen 0
          have f1 := bB2.frozen 1
          have f2 := bB2.frozen 2
          have f3 := bB2.frozen 3
          have f4 := bB2.frozen 4
          have f5 := bB2.frozen 5
          have d0 := bB2.cell 0
          have d1 := bB2.cell 1
          have d2 := bB2.cell 2
          have d3 := bB2.cell 3
          have d4 := bB2.cell 4
          have d5 := bB2.cell 5
          simp only [List.getElem?_cons_zero, List.getElem?_cons_succ] at d0 d1 d2 d3 d4 d5
          go_upto_region 10 with fail
          obtain ⟨bB3, bA3, tr⟩ := put_zero (d := nd u (2 * k)) (lv := .slice ya (nd u (2 * k)).un.length ycc) bB2 bA2 (by omega)
          generalize ((((((wY.setCell ⟨p + 1, 0, none⟩ (.int .i64 (nd u (2 * k)).kd)).setCell ⟨p + 1, 1, none⟩ (.int .i64 (nd u (2 * k)).id)).setCell ⟨p + 1, 2, none⟩ (.int .i64 (nd u (2 * k)).enc)).setCell ⟨p + 1, 3, none⟩ (.int .i64 (nd u (2 * k)).sig)).setCell ⟨p + 1, 4, none⟩ (.int .i64 (nd u (2 * k)).hash)).setCell ⟨p + 1, 5, none⟩ (.slice ya (nd u (2 * k)).un.length ycc)) = wX at bA3 bB3 tr ⊢
          have kX : Kept w wX := Turn.keptOf kY2 tr (fun b e => by rw [e]; omega)
          have hrb := hyun.kept kX
          have hrb := hyun.kept kX
          have hra := HZ.out.kept kX
          clear f0 f1 f2 f3 f4 f5 d0 d1 d2 d3 d4 d5 g0 g1 g2 g3 g4 g5 hyat hyun bA2 bB2 tr
          have c0 := bA3.cell 0
          have c1 := bA3.cell 1
          have c2 := bA3.cell 2
          have c3 := bA3.cell 3
          have c4 := bA3.cell 4
          have c5 := bA3.cell 5
          simp only [tnCells, List.getElem?_cons_zero, List.getElem?_cons_succ] at c0 c1 c2 c3 c4 c5
          have e0 := bB3.cell 0
          have e1 := bB3.cell 1
          have e2 := bB3.cell 2
          have e3 := bB3.cell 3
          have e4 := bB3.cell 4
          have e5 := bB3.cell 5
          simp only [tnCells, List.getElem?_cons_zero, List.getElem?_cons_succ] at e0 e1 e2 e3 e4 e5
          have hra2 := hra
          by_cases hkx : (k : Int) = x
          · have hd : ((k : Int) != x) = false := by simpa using hkx
            clear hkx
            go_wp2
            go_roundw
            case rel => exact ⟨k + 1, by omega, by go_num, kX⟩
            case measure => simp [intOf]; omega
          · have hd : ((k : Int) != x) = true := by simpa using hkx
            have HN := Lib.hid (rsameN_any (u := .agg #[.int .i64 (nd t (2 * k)).kd, .int .i64 (nd t (2 * k)).id, .int .i64 (nd t (2 * k)).enc, .int .i64 (nd t (2 * k)).sig, .int .i64 (nd t (2 * k)).hash, .slice za (nd t (2 * k)).un.length zcc]) (v := .agg #[.int .i64 (nd u (2 * k)).kd, .int .i64 (nd u (2 * k)).id, .int .i64 (nd u (2 * k)).enc, .int .i64 (nd u (2 * k)).sig, .int .i64 (nd u (2 * k)).hash, .slice ya (nd u (2 * k)).un.length ycc]) (a := nd t (2 * k)) (b := nd u (2 * k)) ⟨_, rfl, hra2⟩ ⟨_, rfl, hrb⟩)
            have hs : sameNB (nd t (2 * k)) (nd u (2 * k)) = true := sameNB_iff.2 (HH.out k hkx)
            rw [hs] at HN
            clear hkx hs hra hra2 hrb bA3 bB3
            go_wp2_with fail
            (with_reducible refine HN.out.mono ?_); rintro e w9 ⟨rfl, q9⟩
            go_wp2
            go_roundw
            case rel => exact ⟨k + 1, by omega, by go_num, kX.trans q9⟩
            case measure => simp [intOf]; omega
        · have hb2 : ¬ 2 * (k : Int) < (u.length : Int) := by omega
          go_upto_region 6 with fail
          have bA : Blk ((wr.alloc (.cells #[.int .i64 0, .int .i64 0, .int .i64 0, .int .i64 0, .int .i64 0, .slice none 0 0] 32)).alloc (.cells #[.int .i64 0, .int .i64 0, .int .i64 0, .int .i64 0, .int .i64 0, .slice none 0 0] 32)) wr.heap.size 32 [.int .i64 0, .int .i64 0, .int .i64 0, .int .i64 0, .int .i64 0, .slice none 0 0] := (Blk.new wr [.int .i64 0, .int .i64 0, .int .i64 0, .int .i64 0, .int .i64 0, .slice none 0 0] 32).kept ((Kept.refl _).alloc _)
          have bB : Blk ((wr.alloc (.cells #[.int .i64 0, .int .i64 0, .int .i64 0, .int .i64 0, .int .i64 0, .slice none 0 0] 32)).alloc (.cells #[.int .i64 0, .int .i64 0, .int .i64 0, .int .i64 0, .int .i64 0, .slice none 0 0] 32)) (wr.heap.size + 1) 32 [.int .i64 0, .int .i64 0, .int .i64 0, .int .i64 0, .int .i64 0, .slice none 0 0] := by
            have := Blk.new (wr.alloc (.cells #[.int .i64 0, .int .i64 0, .int .i64 0, .int .i64 0, .int .i64 0, .slice none 0 0] 32)) [.int .i64 0, .int .i64 0, .int .i64 0, .int .i64 0, .int .i64 0, .slice none 0 0] 32
            rwa [alloc_size] at this
          have kZ : Kept wr ((wr.alloc (.cells #[.int .i64 0, .int .i64 0, .int .i64 0, .int .i64 0, .int .i64 0, .slice none 0 0] 32)).alloc (.cells #[.int .i64 0, .int .i64 0, .int .i64 0, .int .i64 0, .int .i64 0, .slice none 0 0] 32)) := ((Kept.refl _).alloc _).alloc _
          have hpw : w.heap.size ≤ wr.heap.size := hkw.size
          generalize ((wr.alloc (.cells #[.int .i64 0, .int .i64 0, .int .i64 0, .int .i64 0, .int .i64 0, .slice none 0 0] 32)).alloc (.cells #[.int .i64 0, .int .i64 0, .int .i64 0, .int .i64 0, .int .i64 0, .slice none 0 0] 32)) = wZ at bA bB kZ ⊢
          have kY : Kept w wZ := hkw.trans kZ
          generalize wr.heap.size = p at bA bB hpw ⊢
          clear kZ hkw
          obtain ⟨zb, zo, zc, za, zcc, hzv, hzat, hzun⟩ := HT.out.at (k := 2 * k) ha
          simp only [Value.slice.injEq] at hzv
          obtain ⟨rfl, -, rfl⟩ := hzv
          obtain ⟨g0, g1, g2, g3, g4, g5⟩ := hzat _ kY
          have f0 := bA.frozen 0
          have f1 := bA.frozen 1
          have f2 := bA.frozen 2
          have f3 := bA.frozen 3
          have f4 := bA.frozen 4
          have f5 := bA.frozen 5
          have d0 := bA.cell 0
          have d1 := bA.cell 1
          have d2 := bA.cell 2
          have d3 := bA.cell 3
          have d4 := bA.cell 4
          have d5 := bA.cell 5
          simp only [List.getElem?_cons_zero, List.getElem?_cons_succ] at d0 d1 d2 d3 d4 d5
          go_upto_region 8 with fail
          obtain ⟨bA2, bB2, tr⟩ := put_zero (d := nd t (2 * k)) (lv := .slice za (nd t (2 * k)).un.length zcc) bA bB (by omega)
          generalize ((((((wZ.setCell ⟨p, 0, none⟩ (.int .i64 (nd t (2 * k)).kd)).setCell ⟨p, 1, none⟩ (.int .i64 (nd t (2 * k)).id)).setCell ⟨p, 2, none⟩ (.int .i64 (nd t (2 * k)).enc)).setCell ⟨p, 3, none⟩ (.int .i64 (nd t (2 * k)).sig)).setCell ⟨p, 4, none⟩ (.int .i64 (nd t (2 * k)).hash)).setCell ⟨p, 5, none⟩ (.slice za (nd t (2 * k)).un.length zcc)) = wY at bA2 bB2 tr ⊢
          have kY2 : Kept w wY := Turn.keptOf kY tr (fun b e => by rw [e]; exact hpw)
          have HZ := Lib.hid hzun
          have hra := hzun.kept kY2
          clear f0 f1 f2 f3 f4 f5 d0 d1 d2 d3 d4 d5 g0 g1 g2 g3 g4 g5 hzat hzun bA bB tr kY
          have hB0 : nd u (2 * k) = tn0 := nd_out (by omega)
          go_upto_region 10 with fail
          have bA3 := bA2
          have bB3 : Blk wY (p + 1) 32 (tnCells (nd u (2 * k)) (.slice none 0 0)) := by rw [hB0]; exact bB2
          have kX := kY2
          have hrb : RdI wY (.slice none 0 0) (nd u (2 * k)).un := by rw [hB0]; exact RdI.nil _
          generalize wY = wX at bA3 bB3 kX hra hrb ⊢
          clear bA2 bB2 kY2 hB0
          have c0 := bA3.cell 0
          have c1 := bA3.cell 1
          have c2 := bA3.cell 2
          have c3 := bA3.cell 3
          have c4 := bA3.cell 4
          have c5 := bA3.cell 5
          simp only [tnCells, List.getElem?_cons_zero, List.getElem?_cons_succ] at c0 c1 c2 c3 c4 c5
          have e0 := bB3.cell 0
          have e1 := bB3.cell 1
          have e2 := bB3.cell 2
          have e3 := bB3.cell 3
          have e4 := bB3.cell 4
          have e5 := bB3.cell 5
          simp only [tnCells, List.getElem?_cons_zero, List.getElem?_cons_succ] at e0 e1 e2 e3 e4 e5
          have hra2 := hra
          by_cases hkx : (k : Int) = x
          · have hd : ((k : Int) != x) = false := by simpa using hkx
            clear hkx
            go_wp2
            go_roundw
            case rel => exact ⟨k + 1, by omega, by go_num, kX⟩
            case measure => simp [intOf]; omega
          · have hd : ((k : Int) != x) = true := by simpa using hkx
            have HN := Lib.hid (rsameN_any (u := .agg #[.int .i64 (nd t (2 * k)).kd, .int .i64 (nd t (2 * k)).id, .int .i64 (nd t (2 * k)).enc, .int .i64 (nd t (2 * k)).sig, .int .i64 (nd t (2 * k)).hash, .slice za (nd t (2 * k)).un.length zcc]) (v := .agg #[.int .i64 (nd u (2 * k)).kd, .int .i64 (nd u (2 * k)).id, .int .i64 (nd u (2 * k)).enc, .int .i64 (nd u (2 * k)).sig, .int .i64 (nd u (2 * k)).hash, .slice none 0 0]) (a := nd t (2 * k)) (b := nd u (2 * k)) ⟨_, rfl, hra2⟩ ⟨_, rfl, hrb⟩)
            have hs : sameNB (nd t (2 * k)) (nd u (2 * k)) = true := sameNB_iff.2 (HH.out k hkx)
            rw [hs] at HN
            clear hkx hs hra hra2 hrb bA3 bB3
            go_wp2_with fail
            (with_reducible refine HN.out.mono ?_); rintro e w9 ⟨rfl, q9⟩
            go_wp2
            go_roundw
            case rel => exact ⟨k + 1, by omega, by go_num, kX.trans q9⟩
            case measure => simp [intOf]; omega
      · have ha2 : ¬ 2 * (k : Int) < (t.length : Int) := by omega
        by_cases hb : 2 * k < u.length
        · have hb2 : 2 * (k : Int) < (u.length : Int) := by omega
          go_upto_region 6 with fail
          have bA : Blk ((wr.alloc (.cells #[.int .i64 0, .int .i64 0, .int .i64 0, .int .i64 0, .int .i64 0, .slice none 0 0] 32)).alloc (.cells #[.int .i64 0, .int .i64 0, .int .i64 0, .int .i64 0, .int .i64 0, .slice none 0 0] 32)) wr.heap.size 32 [.int .i64 0, .int .i64 0, .int .i64 0, .int .i64 0, .int .i64 0, .slice none 0 0] := (Blk.new wr [.int .i64 0, .int .i64 0, .int .i64 0, .int .i64 0, .int .i64 0, .slice none 0 0] 32).kept ((Kept.refl _).alloc _)
          have bB : Blk ((wr.alloc (.cells #[.int .i64 0, .int .i64 0, .int .i64 0, .int .i64 0, .int .i64 0, .slice none 0 0] 32)).alloc (.cells #[.int .i64 0, .int .i64 0, .int .i64 0, .int .i64 0, .int .i64 0, .slice none 0 0] 32)) (wr.heap.size + 1) 32 [.int .i64 0, .int .i64 0, .int .i64 0, .int .i64 0, .int .i64 0, .slice none 0 0] := by
            have := Blk.new (wr.alloc (.cells #[.int .i64 0, .int .i64 0, .int .i64 0, .int .i64 0, .int .i64 0, .slice none 0 0] 32)) [.int .i64 0, .int .i64 0, .int .i64 0, .int .i64 0, .int .i64 0, .slice none 0 0] 32
            rwa [alloc_size] at this
          have kZ : Kept wr ((wr.alloc (.cells #[.int .i64 0, .int .i64 0, .int .i64 0, .int .i64 0, .int .i64 0, .slice none 0 0] 32)).alloc (.cells #[.int .i64 0, .int .i64 0, .int .i64 0, .int .i64 0, .int .i64 0, .slice none 0 0] 32)) := ((Kept.refl _).alloc _).alloc _
          have hpw : w.heap.size ≤ wr.heap.size := hkw.size
          generalize ((wr.alloc (.cells #[.int .i64 0, .int .i64 0, .int .i64 0, .int .i64 0, .int .i64 0, .slice none 0 0] 32)).alloc (.cells #[.int .i64 0, .int .i64 0, .int .i64 0, .int .i64 0, .int .i64 0, .slice none 0 0] 32)) = wZ at bA bB kZ ⊢
          have kY : Kept w wZ := hkw.trans kZ
          generalize wr.heap.size = p at bA bB hpw ⊢
          clear kZ hkw
          have hA0 : nd t (2 * k) = tn0 := nd_out (by omega)
          go_upto_region 8 with fail
          have bA2 : Blk wZ p 32 (tnCells (nd t (2 * k)) (.slice none 0 0)) := by rw [hA0]; exact bA
          have bB2 := bB
          have kY2 := kY
          have hra : RdI wZ (.slice none (nd t (2 * k)).un.length 0) (nd t (2 * k)).un := by rw [hA0]; exact RdI.nil _
          have hun0 : (nd t (2 * k)).un.length = 0 := by rw [hA0]; rfl
          generalize wZ = wY at bA2 bB2 kY2 hra ⊢
          clear bA bB kY hA0
          obtain ⟨yb, yo, yc, ya, ycc, hyv, hyat, hyun⟩ := HU.out.at (k := 2 * k) hb
          simp only [Value.slice.injEq] at hyv
          obtain ⟨rfl, -, rfl⟩ := hyv
          obtain ⟨g0, g1, g2, g3, g4, g5⟩ := hyat _ kY2
          have f0 := bB2.frozen 0
          have f1 := bB2.frozen 1
          have f2 := bB2.frozen 2
          have f3 := bB2.frozen 3
          have f4 := bB2.frozen 4
          have f5 := bB2.frozen 5
          have d0 := bB2.cell 0
          have d1 := bB2.cell 1
          have d2 := bB2.cell 2
          have d3 := bB2.cell 3
          have d4 := bB2.cell 4
          have d5 := bB2.cell 5
          simp only [List.getElem?_cons_zero, List.getElem?_cons_succ] at d0 d1 d2 d3 d4 d5
          go_upto_region 10 with fail
          obtain ⟨bB3, bA3, tr⟩ := put_zero (d := nd u (2 * k)) (lv := .slice ya (nd u (2 * k)).un.length ycc) bB2 bA2 (by omega)
          generalize ((((((wY.setCell ⟨p + 1, 0, none⟩ (.int .i64 (nd u (2 * k)).kd)).setCell ⟨p + 1, 1, none⟩ (.int .i64 (nd u (2 * k)).id)).setCell ⟨p + 1, 2, none⟩ (.int .i64 (nd u (2 * k)).enc)).setCell ⟨p + 1, 3, none⟩ (.int .i64 (nd u (2 * k)).sig)).setCell ⟨p + 1, 4, none⟩ (.int .i64 (nd u (2 * k)).hash)).setCell ⟨p + 1, 5, none⟩ (.slice ya (nd u (2 * k)).un.length ycc)) = wX at bA3 bB3 tr ⊢
          have kX : Kept w wX := Turn.keptOf kY2 tr (fun b e => by rw [e]; omega)
          have hrb := hyun.kept kX
          have hrb := hyun.kept kX
          have hra : RdI wX (.slice none (nd t (2 * k)).un.length 0) (nd t (2 * k)).un := by rw [show (nd t (2 * k)).un = [] from List.eq_nil_of_length_eq_zero hun0]; exact RdI.nil _
          clear f0 f1 f2 f3 f4 f5 d0 d1 d2 d3 d4 d5 g0 g1 g2 g3 g4 g5 hyat hyun bA2 bB2 tr
          have c0 := bA3.cell 0
          have c1 := bA3.cell 1
          have c2 := bA3.cell 2
          have c3 := bA3.cell 3
          have c4 := bA3.cell 4
          have c5 := bA3.cell 5
          simp only [tnCells, List.getElem?_cons_zero, List.getElem?_cons_succ] at c0 c1 c2 c3 c4 c5
          have e0 := bB3.cell 0
          have e1 := bB3.cell 1
          have e2 := bB3.cell 2
          have e3 := bB3.cell 3
          have e4 := bB3.cell 4
          have e5 := bB3.cell 5
          simp only [tnCells, List.getElem?_cons_zero, List.getElem?_cons_succ] at e0 e1 e2 e3 e4 e5
          have hra2 : RdI wX (.slice none 0 0) (nd t (2 * k)).un := by rw [hun0] at hra; exact hra
          by_cases hkx : (k : Int) = x
          · have hd : ((k : Int) != x) = false := by simpa using hkx
            clear hkx
            go_wp2
            go_roundw
            case rel => exact ⟨k + 1, by omega, by go_num, kX⟩
            case measure => simp [intOf]; omega
          · have hd : ((k : Int) != x) = true := by simpa using hkx
            have HN := Lib.hid (rsameN_any (u := .agg #[.int .i64 (nd t (2 * k)).kd, .int .i64 (nd t (2 * k)).id, .int .i64 (nd t (2 * k)).enc, .int .i64 (nd t (2 * k)).sig, .int .i64 (nd t (2 * k)).hash, .slice none 0 0]) (v := .agg #[.int .i64 (nd u (2 * k)).kd, .int .i64 (nd u (2 * k)).id, .int .i64 (nd u (2 * k)).enc, .int .i64 (nd u (2 * k)).sig, .int .i64 (nd u (2 * k)).hash, .slice ya (nd u (2 * k)).un.length ycc]) (a := nd t (2 * k)) (b := nd u (2 * k)) ⟨_, rfl, hra2⟩ ⟨_, rfl, hrb⟩)
            have hs : sameNB (nd t (2 * k)) (nd u (2 * k)) = true := sameNB_iff.2 (HH.out k hkx)
            rw [hs] at HN
            clear hkx hs hra hra2 hrb bA3 bB3
            go_wp2_with fail
            (with_reducible refine HN.out.mono ?_); rintro e w9 ⟨rfl, q9⟩
            go_wp2
            go_roundw
            case rel => exact ⟨k + 1, by omega, by go_num, kX.trans q9⟩
            case measure => simp [intOf]; omega
        · have hb2 : ¬ 2 * (k : Int) < (u.length : Int) := by omega
          go_upto_region 6 with fail
          have bA : Blk ((wr.alloc (.cells #[.int .i64 0, .int .i64 0, .int .i64 0, .int .i64 0, .int .i64 0, .slice none 0 0] 32)).alloc (.cells #[.int .i64 0, .int .i64 0, .int .i64 0, .int .i64 0, .int .i64 0, .slice none 0 0] 32)) wr.heap.size 32 [.int .i64 0, .int .i64 0, .int .i64 0, .int .i64 0, .int .i64 0, .slice none 0 0] := (Blk.new wr [.int .i64 0, .int .i64 0, .int .i64 0, .int .i64 0, .int .i64 0, .slice none 0 0] 32).kept ((Kept.refl _).alloc _)
          have bB : Blk ((wr.alloc (.cells #[.int .i64 0, .int .i64 0, .int .i64 0, .int .i64 0, .int .i64 0, .slice none 0 0] 32)).alloc (.cells #[.int .i64 0, .int .i64 0, .int .i64 0, .int .i64 0, .int .i64 0, .slice none 0 0] 32)) (wr.heap.size + 1) 32 [.int .i64 0, .int .i64 0, .int .i64 0, .int .i64 0, .int .i64 0, .slice none 0 0] := by
            have := Blk.new (wr.alloc (.cells #[.int .i64 0, .int .i64 0, .int .i64 0, .int .i64 0, .int .i64 0, .slice none 0 0] 32)) [.int .i64 0, .int .i64 0, .int .i64 0, .int .i64 0, .int .i64 0, .slice none 0 0] 32
            rwa [alloc_size] at this
          have kZ : Kept wr ((wr.alloc (.cells #[.int .i64 0, .int .i64 0, .int .i64 0, .int .i64 0, .int .i64 0, .slice none 0 0] 32)).alloc (.cells #[.int .i64 0, .int .i64 0, .int .i64 0, .int .i64 0, .int .i64 0, .slice none 0 0] 32)) := ((Kept.refl _).alloc _).alloc _
          have hpw : w.heap.size ≤ wr.heap.size := hkw.size
          generalize ((wr.alloc (.cells #[.int .i64 0, .int .i64 0, .int .i64 0, .int .i64 0, .int .i64 0, .slice none 0 0] 32)).alloc (.cells #[.int .i64 0, .int .i64 0, .int .i64 0, .int .i64 0, .int .i64 0, .slice none 0 0] 32)) = wZ at bA bB kZ ⊢
          have kY : Kept w wZ := hkw.trans kZ
          generalize wr.heap.size = p at bA bB hpw ⊢
          clear kZ hkw
          have hA0 : nd t (2 * k) = tn0 := nd_out (by omega)
          go_upto_region 8 with fail
          have bA2 : Blk wZ p 32 (tnCells (nd t (2 * k)) (.slice none 0 0)) := by rw [hA0]; exact bA
          have bB2 := bB
          have kY2 := kY
          have hra : RdI wZ (.slice none (nd t (2 * k)).un.length 0) (nd t (2 * k)).un := by rw [hA0]; exact RdI.nil _
          have hun0 : (nd t (2 * k)).un.length = 0 := by rw [hA0]; rfl
          generalize wZ = wY at bA2 bB2 kY2 hra ⊢
          clear bA bB kY hA0
          have hB0 : nd u (2 * k) = tn0 := nd_out (by omega)
          go_upto_region 10 with fail
          have bA3 := bA2
          have bB3 : Blk wY (p + 1) 32 (tnCells (nd u (2 * k)) (.slice none 0 0)) := by rw [hB0]; exact bB2
          have kX := kY2
          have hrb : RdI wY (.slice none 0 0) (nd u (2 * k)).un := by rw [hB0]; exact RdI.nil _
          generalize wY = wX at bA3 bB3 kX hra hrb ⊢
          clear bA2 bB2 kY2 hB0
          have c0 := bA3.cell 0
          have c1 := bA3.cell 1
          have c2 := bA3.cell 2
          have c3 := bA3.cell 3
          have c4 := bA3.cell 4
          have c5 := bA3.cell 5
          simp only [tnCells, List.getElem?_cons_zero, List.getElem?_cons_succ] at c0 c1 c2 c3 c4 c5
          have e0 := bB3.cell 0
          have e1 := bB3.cell 1
          have e2 := bB3.cell 2
          have e3 := bB3.cell 3
          have e4 := bB3.cell 4
          have e5 := bB3.cell 5
          simp only [tnCells, List.getElem?_cons_zero, List.getElem?_cons_succ] at e0 e1 e2 e3 e4 e5
          have hra2 : RdI wX (.slice none 0 0) (nd t (2 * k)).un := by rw [hun0] at hra; exact hra
          by_cases hkx : (k : Int) = x
          · have hd : ((k : Int) != x) = false := by simpa using hkx
            clear hkx
            go_wp2
            go_roundw
            case rel => exact ⟨k + 1, by omega, by go_num, kX⟩
            case measure => simp [intOf]; omega
          · have hd : ((k : Int) != x) = true := by simpa using hkx
            have HN := Lib.hid (rsameN_any (u := .agg #[.int .i64 (nd t (2 * k)).kd, .int .i64 (nd t (2 * k)).id, .int .i64 (nd t (2 * k)).enc, .int .i64 (nd t (2 * k)).sig, .int .i64 (nd t (2 * k)).hash, .slice none 0 0]) (v := .agg #[.int .i64 (nd u (2 * k)).kd, .int .i64 (nd u (2 * k)).id, .int .i64 (nd u (2 * k)).enc, .int .i64 (nd u (2 * k)).sig, .int .i64 (nd u (2 * k)).hash, .slice none 0 0]) (a := nd t (2 * k)) (b := nd u (2 * k)) ⟨_, rfl, hra2⟩ ⟨_, rfl, hrb⟩)
            have hs : sameNB (nd t (2 * k)) (nd u (2 * k)) = true := sameNB_iff.2 (HH.out k hkx)
            rw [hs] at HN
            clear hkx hs hra hra2 hrb bA3 bB3
            go_wp2_with fail
            (with_reducible refine HN.out.mono ?_); rintro e w9 ⟨rfl, q9⟩
            go_wp2
            go_roundw
            case rel => exact ⟨k + 1, by omega, by go_num, kX.trans q9⟩
            case measure => simp [intOf]; omega
    · go_wp2
      go_ret
      exact ⟨rfl, hkw⟩
end Go.Proofs.YtlmpejfkpidbeaaDoor
end

section
/- Plain facts for the statements RatchetMay, RatchetBack. -/
set_option linter.unusedSimpArgs false
set_option linter.unusedVariables false
namespace Go.Proofs.YtlmpejfkpidbeaaDoor
open Go.RowKit
open Rt

theorem mem_memK {t : List TN} {n : Nat} {i : Int} : i ∈ memK t n ↔ ∃ j : Nat, j < n ∧ i = (j : Int) ∧ lk t j = true := by
  unfold memK ints
  rw [List.mem_map]
  constructor
  · rintro ⟨j, hj, rfl⟩
    obtain ⟨h1, h2⟩ := List.mem_filter.1 hj
    exact ⟨j, List.mem_range.1 h1, rfl, h2⟩
  · rintro ⟨j, hj, rfl, hl⟩
    exact ⟨j, List.mem_filter.2 ⟨List.mem_range.2 hj, hl⟩, rfl⟩
theorem may_chk {u : List TN} {m : Nat} (h : Rt.May u m) : chkB u = true := by
  refine chkB_may.2 ?_
  rw [may_n h.mn]
  exact h
theorem memL_may {u : List TN} {m : Nat} (h : Rt.May u m) : memL u = memK u m := by
  unfold memL
  rw [may_chk h, may_n h.mn]; rfl
/-- Of a tree that may be. -/
theorem th_in {t : List TN} {n : Nat} {i : Int} (h : Rt.May t n) : (i ∈ memL t → thI t i = 0) ∧ (i ∉ memL t → thI t i = 4) := by
  have hn := may_n h.mn
  have ht : thI t i = bif decide (i < 0) || decide ((n : Int) ≤ i) || !lk t i.toNat then 4 else 0 := by
    unfold thI; rw [may_chk h, hn]; rfl
  rw [memL_may h]
  constructor
  · intro hi
    obtain ⟨j, hj, rfl, hl⟩ := mem_memK.1 hi
    rw [ht, decide_eq_false (by omega), decide_eq_false (by omega), Int.toNat_natCast, hl]; rfl
  · intro hi
    rw [ht]
    cases e : (decide (i < 0) || decide ((n : Int) ≤ i) || !lk t i.toNat) with
    | true => rfl
    | false =>
      rw [Bool.or_eq_false_iff, Bool.or_eq_false_iff] at e
      have h1 := of_decide_eq_false e.1.1
      have h2 := of_decide_eq_false e.1.2
      exact absurd (mem_memK.2 ⟨i.toNat, by omega, by omega, by simpa using e.2⟩) hi
theorem upd_in {t : List TN} {n : Nat} {l : TN} {i : Int} (h : Rt.May t n) (hl : leafB l = true) : (i ∈ memL t → updE t i l = 0) ∧ (i ∉ memL t → updE t i l = 4) := by
  unfold updE
  rw [hl]
  exact th_in h
theorem mem_two {t : List TN} {n j : Nat} (hj : j < n) (hl : lk t j = true) : 1 < (memK t n).length ↔ ∃ q, q < n ∧ q ≠ j ∧ lk t q = true := by
  have hnd : ((List.range n).filter (lk t)).Nodup := List.Pairwise.filter _ List.nodup_range
  have hlen : (memK t n).length = ((List.range n).filter (lk t)).length := by unfold memK; rw [ints_len]
  rw [hlen]
  constructor
  · intro h
    by_cases hq : ∃ q, q < n ∧ q ≠ j ∧ lk t q = true
    · exact hq
    · have hsub : (List.range n).filter (lk t) ⊆ [j] := fun q hm => by
        obtain ⟨h1, h2⟩ := List.mem_filter.1 hm
        by_cases c : q = j
        · rw [c]; exact List.mem_singleton.2 rfl
        · exact absurd ⟨q, List.mem_range.1 h1, c, h2⟩ hq
      have := List.Nodup.length_le_of_subset hnd hsub
      simp at this
      omega
  · rintro ⟨q, h1, h2, h3⟩
    have hsub : [j, q] ⊆ (List.range n).filter (lk t) := fun x hx => by
      rcases List.mem_cons.1 hx with rfl | hx
      · exact List.mem_filter.2 ⟨List.mem_range.2 hj, hl⟩
      · rw [List.mem_singleton.1 hx]
        exact List.mem_filter.2 ⟨List.mem_range.2 h1, h3⟩
    have hd2 : [j, q].Nodup := by
      rw [List.nodup_cons]
      exact ⟨fun h => h2 (List.mem_singleton.1 h).symm, List.Pairwise.cons (fun x h => absurd h List.not_mem_nil) List.Pairwise.nil⟩
    have := List.Nodup.length_le_of_subset hd2 hsub
    simp at this
    omega
theorem rem_in {t : List TN} {n : Nat} {i : Int} (h : Rt.May t n) : (i ∈ memL t → remE t i = bif decide (1 < (memL t).length) then 0 else 1) ∧ (i ∉ memL t → remE t i = 4) := by
  constructor
  · intro hi
    have hth := (th_in h).1 hi
    rw [memL_may h] at hi ⊢
    obtain ⟨j, hj, rfl, hl⟩ := mem_memK.1 hi
    have hE : remE t j = errI (someB (blkT t j) 0 n) := by
      unfold remE; rw [decide_eq_true hth, may_n h.mn]; rfl
    have hs : someB (blkT t j) 0 n = decide (1 < (memK t n).length) := by
      rw [Bool.eq_iff_iff, decide_eq_true_iff, mem_two hj hl, someB_true]
      have hlk : ∀ q, lk (blkT t j) q = true ↔ (q ≠ j ∧ lk t q = true) := fun q => by
        have he := updG_even (j := q) (l := tn0) h.mn hj
        unfold lk blkT
        rw [he]
        by_cases c : q = j
        · rw [if_pos c]
          constructor
          · intro h; cases h
          · intro h; exact absurd c h.1
        · rw [if_neg c]
          exact ⟨fun h => ⟨c, h⟩, fun h => h.2⟩
      constructor
      · rintro ⟨q, _, h1, h2⟩
        obtain ⟨h3, h4⟩ := (hlk q).1 h2
        exact ⟨q, h1, h3, h4⟩
      · rintro ⟨q, h1, h2, h3⟩
        exact ⟨q, Nat.zero_le _, h1, (hlk q).2 ⟨h2, h3⟩⟩
    rw [hE, hs]
    unfold errI
    cases decide (1 < (memK t n).length) <;> rfl
  · intro hi
    have hth := (th_in h).2 hi
    unfold remE
    rw [hth]; rfl
/-- What the statement asks of a tree that Add has answered. -/
structure AddSays (t : List TN) (l : TN) : Prop where
  chk : chkB (addT t l) = true
  free : addI t l ∉ memL t
  others : ∀ j : Nat, (j : Int) ≠ addI t l → nd t (2 * j) = nd (addT t l) (2 * j)
  at' : ∃ k : Nat, addI t l = (k : Int) ∧ 2 * k < (addT t l).length ∧ nd (addT t l) (2 * k) = l
theorem add_says {t : List TN} {l : TN} (h : addE t l = 0) : AddSays t l := by
  obtain ⟨i, n, m, hi, ha⟩ := add_ok h
  have hb := fulls_bd ha.may.mn.hn
  refine ⟨may_chk ha.may, ?_, fun j hj => ?_, i, hi, by have := ha.may.mn.len; have := ha.lt; omega, ha.leaf⟩
  · rw [memL_may ha.was, hi]
    intro hm
    obtain ⟨j, hj, e, hl⟩ := mem_memK.1 hm
    rw [← show i = j by omega, ha.free] at hl
    cases hl
  · rw [hi] at hj
    exact (ha.others j (by omega)).symm
structure RemSays (t : List TN) (i : Int) : Prop where
  chk : chkB (remT t i) = true
  others : ∀ j : Nat, (j : Int) ≠ i → nd t (2 * j) = nd (remT t i) (2 * j)
  gone : i ∉ memL (remT t i)
theorem rem_says {t : List TN} {i : Int} (h : remE t i = 0) : RemSays t i := by
  obtain ⟨j, n, m, rfl, hr⟩ := rem_ok h
  refine ⟨may_chk hr.may, fun q hq => (hr.others q (by omega)).symm, ?_⟩
  rw [memL_may hr.may]
  intro hm
  obtain ⟨q, _, e, hl⟩ := mem_memK.1 hm
  rw [← show j = q by omega, hr.gone] at hl
  cases hl
structure UpdSays (t : List TN) (i : Int) (l : TN) : Prop where
  chk : chkB (updT t i l) = true
  others : ∀ j : Nat, (j : Int) ≠ i → nd t (2 * j) = nd (updT t i l) (2 * j)
  at' : ∃ k : Nat, i = (k : Int) ∧ 2 * k < (updT t i l).length ∧ nd (updT t i l) (2 * k) = l
theorem upd_says {t : List TN} {i : Int} {l : TN} (h : updE t i l = 0) : UpdSays t i l := by
  obtain ⟨j, n, rfl, hu⟩ := upd_ok h
  have hb := fulls_bd hu.may.mn.hn
  exact ⟨may_chk hu.may, fun q hq => (hu.others q (by omega)).symm, j, rfl, by have := hu.may.mn.len; have := hu.lt; omega, hu.leaf⟩
theorem fitM {u : List TN} (h : chkB u = true) : u.length ≤ 600 := by
  have hm := (chkB_may.1 h).mn
  have := hm.len
  have := fulls_bd hm.hn
  omega
end Go.Proofs.YtlmpejfkpidbeaaDoor
end
