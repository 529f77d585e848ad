/- Walks: levels. -/
import Derived.Test.YtlohedmpcjpaeaaDoorMthA
import Derived.Shelf.Abstract
set_option linter.unusedSimpArgs false
set_option linter.unusedVariables false
namespace Go.Proofs.YtlohedmpcjpaeaaDoor
open Go.RowKit
def dbTab : List Nat := [0, 1, 56, 2, 57, 49, 28, 3, 61, 58, 42, 50, 38, 29, 17, 4, 62, 47, 59, 36, 45, 43, 51, 22, 53, 39, 33, 30, 24, 18, 12, 5, 63, 55, 48, 27, 60, 41, 37, 16, 46, 35, 44, 21, 52, 32, 23, 11, 54, 26, 40, 15, 34, 20, 31, 10, 25, 14, 19, 9, 13, 8, 7, 6]
structure Tabs (w : World) : Prop where
  at' : ∀ j, j < 64 → w.cell? ⟨1, j, none⟩ = some (.int .u8 (dbTab.getD j 0 : Nat))
theorem Tabs.kept {w w' : World} (h : Tabs w) (k : Kept w w') : Tabs w' := ⟨fun j hj => by
  have := h.at' j hj
  rw [Below.cell k (World.block_lt_of_cell? _ _ this)]
  exact this⟩
def dbIx (x : Nat) : Nat := 2 ^ Mth.lvl x * 285870213051353865 % 18446744073709551616 / 288230376151711744
theorem tz_key {x : Nat} (hx : x < 511) : IntKind.u64.wrap (bits BinOp.and IntKind.u64 (18446744073709551615 - (x : Int)) (IntKind.u64.wrap (-(18446744073709551615 - (x : Int)))) * 285870213051353865) / 288230376151711744 = (dbIx x : Int) ∧ dbIx x < 64 ∧ dbTab.getD (dbIx x) 0 = Mth.lvl x ∧ (bits BinOp.xor IntKind.u64 IntKind.u64.max (x : Int)) = 18446744073709551615 - (x : Int) := by
  have h : (List.range 511).all (fun x => (IntKind.u64.wrap (bits BinOp.and IntKind.u64 (18446744073709551615 - (x : Int)) (IntKind.u64.wrap (-(18446744073709551615 - (x : Int)))) * 285870213051353865) / 288230376151711744 == (dbIx x : Int)) && Nat.blt (dbIx x) 64 && Nat.beq (dbTab.getD (dbIx x) 0) (Mth.lvl x) && (bits BinOp.xor IntKind.u64 IntKind.u64.max (x : Int) == 18446744073709551615 - (x : Int))) = true := by decide +kernel
  have := List.all_eq_true.1 h x (List.mem_range.2 hx)
  rw [Bool.and_eq_true, Bool.and_eq_true, Bool.and_eq_true] at this
  exact ⟨eq_of_beq this.1.1.1, Nat.le_of_ble_eq_true this.1.1.2, Nat.eq_of_beq_eq_true this.1.2, eq_of_beq this.2⟩
set_option maxHeartbeats 1000000 in
theorem tz64_core (u : Int) (k idx : Nat) (w : World) (hx0 : (u == 0) = false)
    (key : IntKind.u64.wrap (bits BinOp.and IntKind.u64 u (IntKind.u64.wrap (-u)) * 285870213051353865) / 288230376151711744 = (idx : Int))
    (hi : idx < 64) (hk : k < 64) (hcell : w.cell? ⟨1, idx, none⟩ = some (.int .u8 k)) :
    Calls Tryd.prog 70 #[.int .u64 u] w fun e w' => e = .returned (.int .i64 k) ∧ w = w' := by
  go_enter Tryd.func70, Tryd.ntmps70
  go_wp2_with (simp only [key])
  go_ret
  exact ⟨rfl, rfl⟩
theorem lvl_le {x : Nat} (hx : x < 511) : Mth.lvl x ≤ 8 := by
  have h : (List.range 511).all (fun x => Nat.ble (Mth.lvl x) 8) = true := by decide +kernel
  exact Nat.le_of_ble_eq_true (List.all_eq_true.1 h x (List.mem_range.2 hx))
theorem tz64_any (x : Nat) (hx : x < 511) (w : World) (ht : Tabs w) : Calls Tryd.prog 70 #[.int .u64 (18446744073709551615 - (x : Int))] w fun e w' => e = .returned (.int .i64 (Mth.lvl x : Nat)) ∧ w = w' := by
  obtain ⟨key, hi, htab, _⟩ := tz_key hx
  have hcell := ht.at' _ hi
  rw [htab] at hcell
  exact tz64_core _ _ _ w (by rw [beq_eq_false_iff_ne]; omega) key hi (by have := lvl_le hx; omega) hcell
theorem tz_any (x : Nat) (hx : x < 511) (w : World) (ht : Tabs w) : Calls Tryd.prog 66 #[.int .u64 (18446744073709551615 - (x : Int))] w fun e w' => e = .returned (.int .i64 (Mth.lvl x : Nat)) ∧ w = w' := by
  have HT := Lib.hid (tz64_any x hx w ht)
  have h1 : 0 ≤ 18446744073709551615 - (x : Int) := by omega
  have h2 : 18446744073709551615 - (x : Int) ≤ 18446744073709551615 := by omega
  generalize 18446744073709551615 - (x : Int) = u at HT h1 h2
  go_enter Tryd.func66, Tryd.ntmps66
  go_wp2_with (go_at_call 70; refine HT.out.mono ?_; rintro e w' ⟨rfl, rfl⟩)
  go_ret
  exact ⟨rfl, rfl⟩
theorem level_any (x : Nat) (hx : x < 511) (w : World) (ht : Tabs w) : Calls Tryd.prog 42 #[.int .i64 x] w fun e w' => e = .returned (.int .i64 (Mth.lvl x : Nat)) ∧ w = w' := by
  have h0 := tz_any x hx w ht
  rw [← (tz_key hx).2.2.2] at h0
  have HT := Lib.hid h0
  clear h0
  have hs : IntKind.u64.signed = false := rfl
  have hx1 : (x : Int) ≤ 510 := by omega
  have hx0 : (0 : Int) ≤ (x : Int) := by omega
  clear hx
  go_enter Tryd.func42, Tryd.ntmps42
  go_wp2_with (go_at_call 66; refine HT.out.mono ?_; rintro e w' ⟨rfl, rfl⟩)
  go_ret
  exact ⟨rfl, rfl⟩
/-- A node of any tree: as a natural number. -/
theorem in_nat {x n : Int} (h : inB x n = true) : ∃ m k : Nat, x = m ∧ n = k ∧ k ∈ Mth.fulls ∧ m < 2 * k - 1 ∧ m < 511 := by
  obtain ⟨h1, h2, h3⟩ := inB_true h
  obtain ⟨h4, h5, h6⟩ := treeB_true h1
  exact ⟨x.toNat, n.toNat, by omega, by omega, h6, by omega, by omega⟩
theorem any_nat {x : Int} (h : inB x 256 = true) : ∃ m : Nat, x = m ∧ m < 511 := by
  obtain ⟨m, k, h1, h2, h3, h4, h5⟩ := in_nat h
  exact ⟨m, h1, h5⟩
theorem in_any {m : Nat} (h : m < 511) : inB (m : Int) 256 = true := inB_mk (by decide +kernel) (by omega) (by omega)
theorem nat_in {m k : Nat} (hk : k ∈ Mth.fulls) (h : m < 2 * k - 1) : inB (m : Int) (k : Int) = true := inB_mk (treeB_mk hk) (by omega) (by omega)
theorem fulls_bd {k : Nat} (hk : k ∈ Mth.fulls) : 1 ≤ k ∧ k ≤ 256 := by
  have : ∀ m ∈ Mth.fulls, 1 ≤ m ∧ m ≤ 256 := by decide +kernel
  exact this k hk
/-- x is a node that is no leaf. -/
def kidB (x : Int) : Bool := inB x 256 && decide (0 < Mth.lvl x.toNat)
theorem kidB_nat {m : Nat} (h : m < 511) : kidB (m : Int) = decide (0 < Mth.lvl m) := by
  unfold kidB
  rw [in_any h]
  rfl
theorem hasChildren_any (x : Int) (w : World) (hx : I64 x) (ht : Tabs w) : Calls Tryd.prog 43 #[.int .i64 x] w fun e w' => e = .returned (.bool (kidB x)) ∧ w = w' := by
  have HA := Lib.hid (fun w => anywhere_any x w hx)
  cases hi : inB x 256 with
  | false =>
    have HR := Shut.mk (show kidB x = false by unfold kidB; rw [hi]; rfl)
    rw [hi] at HA
    clear hi
    go_enter Tryd.func43, Tryd.ntmps43
    go_wp2_with (go_at_call 40; refine (HA.out _).mono ?_; rintro e w' ⟨rfl, rfl⟩)
    go_ret
    exact ⟨by rw [HR.out]; rfl, rfl⟩
  | true =>
    obtain ⟨m, rfl, hm⟩ := any_nat hi
    have HL := Lib.hid (level_any m hm w ht)
    have HR := Shut.mk (kidB_nat hm)
    rw [hi] at HA
    clear hi
    generalize Mth.lvl m = l at HL HR
    generalize hb : decide (0 < l) = b at HR
    go_enter Tryd.func43, Tryd.ntmps43
    go_wp2_with (first | (go_at_call 40; refine (HA.out _).mono ?_; rintro e w' ⟨rfl, rfl⟩) | (go_at_call 42; refine HL.out.mono ?_; rintro e w' ⟨rfl, rfl⟩))
    go_ret
    exact ⟨by rw [HR.out]; rfl, rfl⟩
theorem nine {p : Nat → Bool} (h : (List.range 9).all p = true) {l : Nat} (hl : l ≤ 8) : p l = true := List.all_eq_true.1 h l (List.mem_range.2 (by omega))
theorem reach_num {l : Nat} (hl : l ≤ 8) : wrap64 (wrap64 (2 ^ l) - 1) = ((2 ^ l - 1 : Nat) : Int) := eq_of_beq (nine (p := fun l => wrap64 (wrap64 (2 ^ l) - 1) == ((2 ^ l - 1 : Nat) : Int)) (by decide +kernel) hl)
theorem reach_any (x : Nat) (hx : x < 511) (w : World) (ht : Tabs w) : Calls Tryd.prog 52 #[.int .i64 x] w fun e w' => e = .returned (.int .i64 ((2 ^ Mth.lvl x - 1 : Nat) : Int)) ∧ w = w' := by
  have HL := Lib.hid (level_any x hx w ht)
  have hl := lvl_le hx
  generalize Mth.lvl x = l at HL hl
  have HN := Shut.mk (reach_num hl)
  have hl0 : (0 : Int) ≤ (l : Int) := by omega
  have hl1 : (l : Int) ≤ 8 := by omega
  go_enter Tryd.func52, Tryd.ntmps52
  go_wp2_with (go_at_call 42; refine HL.out.mono ?_; rintro e w' ⟨rfl, rfl⟩)
  go_ret
  exact ⟨by rw [← HN.out]; rfl, rfl⟩
theorem step_num {l : Nat} (hl : l ≤ 8) : wrap64 (2 ^ (l - 1)) = ((2 ^ (l - 1) : Nat) : Int) := eq_of_beq (nine (p := fun l => wrap64 (2 ^ (l - 1)) == ((2 ^ (l - 1) : Nat) : Int)) (by decide +kernel) hl)
theorem step_any (x : Nat) (hx : x < 511) (hp : 0 < Mth.lvl x) (w : World) (ht : Tabs w) : Calls Tryd.prog 45 #[.int .i64 x] w fun e w' => e = .returned (.int .i64 ((2 ^ (Mth.lvl x - 1) : Nat) : Int)) ∧ w = w' := by
  have HL := Lib.hid (level_any x hx w ht)
  have hl := lvl_le hx
  generalize Mth.lvl x = l at HL hl hp
  have HN := Shut.mk (step_num hl)
  have hl0 : (1 : Int) ≤ (l : Int) := by omega
  have hl1 : (l : Int) ≤ 8 := by omega
  go_enter Tryd.func45, Tryd.ntmps45
  go_wp2_with (go_at_call 42; refine HL.out.mono ?_; rintro e w' ⟨rfl, rfl⟩)
  go_ret
  exact ⟨by rw [← HN.out]; rfl, rfl⟩
theorem par_num {x : Nat} (hx : x < 511) : bits BinOp.andNot IntKind.i64 (bits BinOp.or IntKind.i64 (x : Int) (wrap64 (2 ^ Mth.lvl x))) (wrap64 (2 ^ (Mth.lvl x + 1))) = (Mth.par x : Nat) ∧ 2 * (Mth.par x : Int) - (x : Int) = (Mth.sib x : Nat) ∧ Mth.par x < 1024 := by
  have h : (List.range 511).all (fun x => (bits BinOp.andNot IntKind.i64 (bits BinOp.or IntKind.i64 (x : Int) (wrap64 (2 ^ Mth.lvl x))) (wrap64 (2 ^ (Mth.lvl x + 1))) == ((Mth.par x : Nat) : Int)) && (2 * (Mth.par x : Int) - (x : Int) == ((Mth.sib x : Nat) : Int)) && Nat.blt (Mth.par x) 1024) = true := by decide +kernel
  have := List.all_eq_true.1 h x (List.mem_range.2 hx)
  rw [Bool.and_eq_true, Bool.and_eq_true] at this
  exact ⟨eq_of_beq this.1.1, eq_of_beq this.1.2, Nat.le_of_ble_eq_true this.2⟩
theorem parent_any (x : Nat) (hx : x < 511) (w : World) (ht : Tabs w) : Calls Tryd.prog 55 #[.int .i64 x] w fun e w' => e = .returned (.int .i64 (Mth.par x : Nat)) ∧ Kept w w' := by
  have HL := Lib.hid (level_any x hx w ht)
  have hl := lvl_le hx
  have hn := (par_num hx).1
  generalize Mth.lvl x = l at HL hl hn
  have HN := Shut.mk hn
  clear hn
  have hl0 : (0 : Int) ≤ (l : Int) := by omega
  have hl1 : (l : Int) ≤ 8 := by omega
  go_enter Tryd.func55, Tryd.ntmps55
  go_wp2_with (go_at_call 42; refine HL.out.mono ?_; rintro e w' ⟨rfl, rfl⟩)
  go_quiet (fail)
  go_wp2
  go_ret
  exact ⟨by rw [← HN.out]; rfl, (Kept.refl _).drewN _⟩
theorem sibling_any (x : Nat) (hx : x < 511) (w : World) (ht : Tabs w) : Calls Tryd.prog 58 #[.int .i64 x] w fun e w' => e = .returned (.int .i64 (Mth.sib x : Nat)) ∧ Kept w w' := by
  have HL := Lib.hid (parent_any x hx w ht)
  have HN := Shut.mk (par_num hx).2.1
  have h1 : (Mth.par x : Int) < 1024 := by have := (par_num hx).2.2; omega
  generalize Mth.par x = p at HL HN h1
  have h0 : (0 : Int) ≤ (p : Int) := by omega
  have hx0 : (0 : Int) ≤ (x : Int) := by omega
  have hx1 : (x : Int) ≤ 510 := by omega
  go_enter Tryd.func58, Tryd.ntmps58
  go_wp2_with (go_at_call 55; refine HL.out.mono ?_; rintro e w' ⟨rfl, hk⟩)
  go_ret
  exact ⟨by rw [← HN.out]; rfl, hk⟩

def pk (b : Bool) (v : Int) : Int := bif b then v else 0
def er (b : Bool) : Int := bif b then 0 else 1
/-! ## told -/
theorem told_no (f : Value) (w : World) : Calls Tryd.prog 33 #[.bool false, f] w fun e w' => e = .returned (.tuple #[.int .i64 0, .int .i64 1]) ∧ w = w' := by
  go_enter Tryd.func33, Tryd.ntmps33
  go_wp2
  go_ret2
  exact ⟨rfl, rfl⟩
theorem told_yes {g : Nat} {caps : Array Value} {w : World} {P : Value → World → Prop} (eg : ∀ args w, (callFunc g args).run Tryd.prog w = .ok (.enter g args) w) (h : Calls Tryd.prog g caps w fun e w' => ∃ v, e = .returned v ∧ P v w') :
    Calls Tryd.prog 33 #[.bool true, .func (.func g) #[] caps] w fun e w' => ∃ v, e = .returned (.tuple #[v, .int .i64 0]) ∧ P v w' := by
  have H := Lib.hid h
  clear h
  go_enter Tryd.func33, Tryd.ntmps33
  go_wp2_with fail
  refine H.out.mono ?_
  rintro e w' ⟨v, rfl, hQ⟩
  go_wp2
  go_ret2
  exact ⟨v, rfl, hQ⟩
theorem told_val {g : Nat} {caps : Array Value} {w : World} {v : Value} {Q : World → Prop} (eg : ∀ args w, (callFunc g args).run Tryd.prog w = .ok (.enter g args) w) (h : Calls Tryd.prog g caps w fun e w' => e = .returned v ∧ Q w') :
    Calls Tryd.prog 33 #[.bool true, .func (.func g) #[] caps] w fun e w' => e = .returned (.tuple #[v, .int .i64 0]) ∧ Q w' := by
  refine (told_yes (P := fun u w' => u = v ∧ Q w') eg (h.mono fun e w' ⟨he, hq⟩ => ⟨v, he, rfl, hq⟩)).mono ?_
  rintro e w' ⟨u, rfl, rfl, hq⟩
  exact ⟨rfl, hq⟩
theorem told_noL (f : Value) (w : World) : Calls Tryd.prog 59 #[.bool false, f] w fun e w' => e = .returned (.tuple #[.slice none 0 0, .int .i64 1]) ∧ w = w' := by
  go_enter Tryd.func59, Tryd.ntmps59
  go_wp2
  go_ret2
  exact ⟨rfl, rfl⟩
theorem told_yesL {g : Nat} {caps : Array Value} {w : World} {P : Value → World → Prop} (eg : ∀ args w, (callFunc g args).run Tryd.prog w = .ok (.enter g args) w) (h : Calls Tryd.prog g caps w fun e w' => ∃ v, e = .returned v ∧ P v w') :
    Calls Tryd.prog 59 #[.bool true, .func (.func g) #[] caps] w fun e w' => ∃ v, e = .returned (.tuple #[v, .int .i64 0]) ∧ P v w' := by
  have H := Lib.hid h
  clear h
  go_enter Tryd.func59, Tryd.ntmps59
  go_wp2_with fail
  refine H.out.mono ?_
  rintro e w' ⟨v, rfl, hQ⟩
  go_wp2
  go_ret2
  exact ⟨v, rfl, hQ⟩
theorem told_valL {g : Nat} {caps : Array Value} {w : World} {v : Value} {Q : World → Prop} (eg : ∀ args w, (callFunc g args).run Tryd.prog w = .ok (.enter g args) w) (h : Calls Tryd.prog g caps w fun e w' => e = .returned v ∧ Q w') :
    Calls Tryd.prog 59 #[.bool true, .func (.func g) #[] caps] w fun e w' => e = .returned (.tuple #[v, .int .i64 0]) ∧ Q w' := by
  refine (told_yesL (P := fun u w' => u = v ∧ Q w') eg (h.mono fun e w' ⟨he, hq⟩ => ⟨v, he, rfl, hq⟩)).mono ?_
  rintro e w' ⟨u, rfl, rfl, hq⟩
  exact ⟨rfl, hq⟩
theorem cell_box (w : World) (v : Value) (e : TypeId) : (w.alloc (.cells #[v] e)).cell? ⟨w.heap.size, 0, none⟩ = some v := by
  simp
theorem told_no2 (f : Value) (w : World) : Calls Tryd.prog 50 #[.bool false, f] w fun e w' => e = .returned (.tuple #[.agg #[.int .i64 0, .int .i64 0], .int .i64 1]) ∧ Kept w w' := by
  go_enter Tryd.func50, Tryd.ntmps50
  go_wp2
  exact bodyPost_ret (v := .tuple #[.agg #[.int .i64 0, .int .i64 0], .int .i64 1]) (by simp [results, Tryd.results50, go_sem]) rfl ⟨rfl, ((Kept.refl _).alloc _).alloc _⟩
theorem told_yes2 {g : Nat} {caps : Array Value} {w : World} {a b : Int} (eg : ∀ args w, (callFunc g args).run Tryd.prog w = .ok (.enter g args) w) (h : ∀ w1, Kept w w1 → Calls Tryd.prog g caps w1 fun e w' => e = .returned (.agg #[.int .i64 a, .int .i64 b]) ∧ Kept w1 w') :
    Calls Tryd.prog 50 #[.bool true, .func (.func g) #[] caps] w fun e w' => e = .returned (.tuple #[.agg #[.int .i64 a, .int .i64 b], .int .i64 0]) ∧ Kept w w' := by
  have HC := Lib.hid (h (w.alloc (.cells #[.int .i64 0, .int .i64 0] 44)) ((Kept.refl w).alloc _))
  have hb0 : Blk (w.alloc (.cells #[.int .i64 0, .int .i64 0] 44)) w.heap.size 44 [.int .i64 0, .int .i64 0] := Blk.new w [.int .i64 0, .int .i64 0] _
  have hk0 : Kept w (w.alloc (.cells #[.int .i64 0, .int .i64 0] 44)) := (Kept.refl w).alloc _
  clear h
  go_enter Tryd.func50, Tryd.ntmps50
  go_wp2_with fail
  refine HC.out.mono ?_
  rintro e w' ⟨rfl, hk⟩
  have hb := hb0.kept hk
  have c0 := hb.cell 0
  have c1 := hb.cell 1
  have f0 := hb.frozen 0
  have f1 := hb.frozen 1
  simp only [List.getElem?_cons_zero, List.getElem?_cons_succ] at c0 c1
  have hK := hk0.trans hk
  have HB := Shut.mk hb
  have HK := Shut.mk (show ∀ v1 v2, Kept w ((w'.setCell ⟨w.heap.size, 0, none⟩ v1).setCell ⟨w.heap.size, 1, none⟩ v2) from fun _ _ => (hK.setCell (Nat.le_refl _) _).setCell (Nat.le_refl _) _)
  clear hb0 hb hk hk0 hK
  generalize w.heap.size = B at c0 c1 f0 f1 HB HK
  go_wp2
  have hb2 := (HB.out.set 0 (.int .i64 a)).set 1 (.int .i64 b)
  have d0 := hb2.cell 0
  have d1 := hb2.cell 1
  simp only [List.set_cons_zero, List.set_cons_succ, List.getElem?_cons_zero, List.getElem?_cons_succ] at d0 d1
  exact bodyPost_ret (v := .tuple #[.agg #[.int .i64 a, .int .i64 b], .int .i64 0]) (by simp [results, Tryd.results50, go_sem, d0, d1]) rfl ⟨rfl, HK.out _ _⟩
end Go.Proofs.YtlohedmpcjpaeaaDoor
