/- Texts of one proof, put together: SortI, RsX, RsL. -/
import Derived.Test.YtekmdklobejbeaaDoorMg01
import Derived.Test.YtekmdklobejbeaaDoorShelf
import Derived.Lib.SortBridge
import Derived.Deep.AppendLies
import Derived.Test.YtekmdklobejbeaaDoorMg06
import Derived.Test.YtekmdklobejbeaaDoorMg02
import Derived.BigQuiet
section
/- Numbers are cloned, sorted, looked up (the library's calls). -/
set_option linter.unusedSimpArgs false
set_option linter.unusedVariables false
namespace Go.Proofs.YtekmdklobejbeaaDoor
open Go.RowKit

theorem clone_any {w : World} {v : Value} {zs : List Int} (h : RdI w v zs) (hl : zs.length ≤ 10000000000) :
    Calls Tryd.prog 38 #[v] w fun e w' => ∃ v', e = .returned v' ∧ OwnI w.heap.size w' v' zs ∧ Kept w w' := by
  by_cases hp : 0 < zs.length
  · obtain ⟨b, off, cap, rfl, hc, hm, hb, hcell⟩ := h.addr hp
    refine (Tryd.slices_Clone_int b off zs.length cap zs w (Nat.le_refl _) (by omega) hcell).mono ?_
    rintro e w' ⟨v', rfl, ho, _, hk⟩
    exact ⟨v', rfl, by rw [List.take_length] at ho; exact ho, hk⟩
  · obtain rfl : zs = [] := List.eq_nil_of_length_eq_zero (by omega)
    obtain ⟨a, cap, rfl, h1, h2, h3⟩ := h.len
    cases a with
    | none =>
      refine (Tryd.slices_Clone_int_nil _ _ w).mono ?_
      rintro e w' ⟨rfl, rfl⟩
      exact ⟨_, rfl, OwnI.nil _ _, Kept.refl _⟩
    | some a =>
      refine (Tryd.slices_Clone_int_zero a cap w).mono ?_
      rintro e w' ⟨v', rfl, ho, _, hk⟩
      exact ⟨v', rfl, ho, hk⟩

def sortI (zs : List Int) : List Int := zs.mergeSort fun x y => decide (x ≤ y)
theorem sortI_perm (zs : List Int) : (sortI zs).Perm zs := List.mergeSort_perm _ _
theorem sortI_sorted {zs : List Int} (h : zs.Nodup) : (sortI zs).Pairwise (· < ·) := by
  have h1 : (sortI zs).Pairwise fun x y => decide (x ≤ y) = true := List.pairwise_mergeSort (fun a b c h1 h2 => by simp at *; omega) (fun a b => by simp; omega) zs
  have h2 : (sortI zs).Nodup := (sortI_perm zs).nodup_iff.2 h
  have h3 := h1.and h2
  exact h3.imp fun {a b} h => by
    obtain ⟨p, q⟩ := h
    simp at p
    omega

theorem grow_kept (w : World) (os : Array Obj) : Kept w (Sort.grow w os) :=
  ⟨rfl, rfl, rfl, by show w.heap.size ≤ (w.heap ++ os).size; rw [Array.size_append]; omega, fun j hj => by show (w.heap ++ os)[j]? = w.heap[j]?; rw [Array.getElem?_append_left hj]⟩

theorem sort_any {B : Nat} {w : World} {v : Value} {zs : List Int} (h : OwnI B w v zs) (hl : zs.length ≤ 10000000000) :
    Calls Tryd.prog 39 #[v] w fun e w' => e = .returned (.tuple #[]) ∧ RdI w' v (sortI zs) ∧ Turn (Blks v) w w' := by
  have hsl : (sortI zs).length = zs.length := (sortI_perm zs).length_eq
  by_cases hp : 0 < zs.length
  · obtain ⟨g, cap, rfl, _, hg⟩ := World.ownsRow.form h hp
    have hcell : ∀ j, j < zs.length → w.cell? ⟨g, 0 + j, none⟩ = some (.int .i64 (zs.getD j 0)) := fun j hj => by
      have := World.ownsRow.cells h rfl j (.int .i64 (zs.getD j 0)) (by simp [List.getD, List.getElem?_eq_getElem hj])
      rwa [Addr.add_lit] at this
    have hH : Sort.Holds (Value.int .i64) w g 0 zs.toArray := by
      intro j hj
      have hj' : j < zs.length := by simpa using hj
      refine ⟨?_, ?_⟩
      · rw [hcell j hj']
        simp [List.getD, List.getElem?_eq_getElem hj', getElem!_pos, hj']
      · obtain ⟨cur, hc⟩ := Ownv.obj h (b := g) rfl
        simp [World.frozen?, hc]
    refine (Tryd.slices_Sort_int g 0 cap zs w hH hg (by omega)).mono ?_
    rintro e w' ⟨rfl, q, os, rfl⟩
    rw [show (zs.mergeSort fun x y => decide (x ≤ y)) = sortI zs from rfl, Lib.sorted_world (Value.int .i64) w g 0 q zs.toArray (sortI zs) os hH (by simp [hsl])]
    have hc2 := Lib.cells_sorted_ints (W := w) (b := g) (off := 0) (n := zs.length) (q := q) (zs := zs) (ys := sortI zs) (os := os) (Nat.le_refl _) hsl hcell
    obtain ⟨_, _, hv, _, hcap, hcm, _⟩ := Ownv.rdv h
    simp only [Value.slice.injEq] at hv
    refine ⟨rfl, ?_, ?_⟩
    · unfold RdI
      rw [hsl]
      refine ⟨some ⟨g, 0, none⟩, cap, rfl, by simp [hsl], by omega, by omega, (fun e => by cases e), fun ad had j u hj => ?_⟩
      cases had
      have hj' : j < (sortI zs).length := by
        have := (List.getElem?_eq_some_iff.1 hj).1
        simpa using this
      have := hc2 j (by rw [List.length_append]; omega)
      rw [Addr.add_lit, this, ← hj]
      simp [List.getD, List.getElem?_append_left hj', List.getElem?_eq_getElem hj']
    · have t1 : Turn (Blks (.slice (some ⟨g, 0, none⟩) zs.length cap)) w ((w.drewN q).setCells g 0 ((sortI zs).map (Value.int .i64))) :=
        (((Kept.refl w).drewN q).turn _).trans ((turn_setCells (w.drewN q) g 0 _).mono fun b hb => by subst hb; rfl) (fun x hx => .inl hx)
      exact t1.kept (grow_kept _ _)
  · obtain rfl : zs = [] := List.eq_nil_of_length_eq_zero (by omega)
    obtain ⟨a, cap, rfl, h1, h2, h3⟩ := (OwnI.rd h).len
    refine (Tryd.slices_Sort_int_none a cap w).mono ?_
    rintro e w' ⟨rfl, rfl⟩
    exact ⟨rfl, by simpa [sortI] using OwnI.rd h, Turn.refl _ _⟩

theorem sortI_le (zs : List Int) : (sortI zs).Pairwise (· ≤ ·) := by
  have h1 : (sortI zs).Pairwise fun x y => decide (x ≤ y) = true := List.pairwise_mergeSort (fun a b c h1 h2 => by simp at *; omega) (fun a b => by simp; omega) zs
  exact h1.imp fun {a b} h => of_decide_eq_true h
theorem sortI_mem {zs : List Int} {x : Int} : x ∈ sortI zs ↔ x ∈ zs := (sortI_perm zs).mem_iff
/-- Numbers in order are looked up. -/
theorem pbsL_any {W : World} {v : Value} {zs : List Int} (h : RdI W v zs) (hs : zs.Pairwise (· ≤ ·)) (hl : zs.length ≤ 100000) (x : Int) :
    Calls Tryd.prog 40 #[v, .int .i64 x] W fun e w' => e = .returned (.tuple #[.int .i64 (zs.countP (· < x) : Nat), .bool (decide (x ∈ zs))]) ∧ Kept W w' := by
  by_cases h0 : zs = []
  · subst h0
    obtain ⟨a, c, rfl, _, _, _⟩ := h.len
    refine (Tryd.slices_BinarySearch_int_empty a c x W).mono fun e w' ⟨he, hw⟩ => ⟨?_, ?_⟩
    · rw [he]; simp
    · rw [hw]; exact Kept.refl _
  · obtain ⟨b, off, c, rfl, h1, h2, h3, hc⟩ := h.addr (List.length_pos_iff.2 h0)
    refine (Tryd.slices_BinarySearch_int b off zs.length c zs x W (Nat.le_refl _) (by omega) hc (by rw [List.take_length]; exact hs)).mono fun e w' ⟨he, hw⟩ => ⟨?_, ?_⟩
    · rw [he, List.take_length]
      simp [List.contains_eq_mem]
    · obtain ⟨q, rfl⟩ := hw
      exact (Kept.refl _).drewN q
end Go.Proofs.YtekmdklobejbeaaDoor
end

section
/- Walk of the program's Except. -/
set_option linter.unusedSimpArgs false
set_option linter.unusedVariables false
namespace Go.Proofs.YtekmdklobejbeaaDoor
open Go.RowKit
open Rt

/-- The number is no leaf's of these. -/
def keepP (ls : List Int) (x : Int) : Bool := !((x % 2 == 0) && decide (x / 2 ∈ ls))
theorem filter_take {p : Int → Bool} {l : List Int} {k : Nat} (h : k < l.length) : (l.take (k + 1)).filter p = (l.take k).filter p ++ (bif p (l.getD k 0) then [l.getD k 0] else []) := by
  rw [List.take_succ_eq_append_getElem h, List.filter_append, show l.getD k 0 = l[k] by rw [List.getD_eq_getElem?_getD, List.getElem?_eq_getElem h]; rfl]
  cases e : p l[k] with
  | true => rw [List.filter_cons_of_pos e]; rfl
  | false => rw [List.filter_cons_of_neg (by rw [e]; decide)]; rfl
set_option maxHeartbeats 16000000 in
set_option maxRecDepth 100000 in
theorem PExcept_any {w : World} {lv mv : Value} {l ls : List Int} (hl : RdI w lv l) (hm : RdI w mv ls) (hb : ∀ a ∈ l, ∃ z : Nat, a = (z : Int) ∧ z ≤ 511) (hll : l.length ≤ 1000) (hml : ls.length ≤ 1000) :
    Calls Tryd.prog 19 #[lv, mv] w (MemPost w (l.filter (keepP ls))) := by
  have HC := Lib.hid (clone_any hm (by omega))
  obtain ⟨la, lc, rfl, _, _, _⟩ := hl.len
  obtain ⟨ma, mc, rfl, _, _, _⟩ := hm.len
  have HML := Shut.mk hml
  have HLL := Shut.mk hll
  have HB := Shut.mk hb
  have l63 : (l.length : Int) ≤ 1000 := by omega
  clear hb hm
  go_enter Tryd.func19, Tryd.ntmps19
  go_wp2_with fail
  (with_reducible refine HC.out.mono ?_); rintro e w1 ⟨v1, rfl, o1, k1⟩
  have HSo := Lib.hid (sort_any o1 (by have := HML.out; omega))
  have HTk : Shut (∀ w2, Turn (Blks v1) w1 w2 → Kept w w2) := ⟨fun w2 t => Turn.keptOf k1 t (fun b hb => (Ownv.lt o1 hb).2)⟩
  clear o1
  go_wp2_with fail
  (with_reducible refine HSo.out.mono ?_); rintro e w2 ⟨rfl, r2, t2⟩
  have k2 := HTk.out _ t2
  have HBs := Lib.hid (fun W (k : Kept w2 W) (x : Int) => pbsL_any (r2.kept k) (sortI_le ls) (by have := (sortI_perm ls).length_eq; have := HML.out; omega) x)
  have hl2 := hl.kept k2
  clear hl r2 t2 HSo HC
  go_wp2
  go_loopw [6, 17] (fun o c wr => ∃ k : Nat, k ≤ l.length ∧ c = .int .i64 k ∧ (∃ v, v = o ∧ OwnI w2.heap.size wr v ((l.take k).filter (keepP ls))) ∧ Kept w2 wr) (fun _ c _ => l.length - (intOf c).toNat)
  case atStart => exact ⟨0, Nat.zero_le _, rfl, ⟨_, rfl, OwnI.nil _ _⟩, Kept.refl _⟩
  case round =>
    obtain ⟨k, hk0, rfl, ⟨v, rfl, ho⟩, hkw⟩ := hrel
    by_cases hlt : k < l.length
    · obtain ⟨rb, ro, rc, hrv, _, _, hrb, hcl⟩ := hl2.addr (by omega)
      simp only [Value.slice.injEq] at hrv
      obtain ⟨rfl, _, rfl⟩ := hrv
      have hcw := (hkw.cell (p := ⟨rb, ro + k, none⟩) hrb).trans (hcl k hlt)
      clear hcl
      obtain ⟨z, hz1, hz2⟩ := HB.out _ (getD_memI hlt)
      have HF := Shut.mk (filter_take (p := keepP ls) hlt)
      have HLn := Shut.mk (show ((l.take k).filter (keepP ls)).length ≤ 1000 from by
        have := List.length_filter_le (keepP ls) (l.take k)
        rw [List.length_take] at this
        have := HLL.out
        omega)
      rw [hz1] at HF hcw
      have HBz := Lib.hid (HBs.out _ hkw ((z : Int) / 2))
      have HD : Shut (decide ((z : Int) / 2 ∈ sortI ls) = decide ((z : Int) / 2 ∈ ls)) := ⟨decide_eq_decide.2 sortI_mem⟩
      rw [HD.out] at HBz
      have HK := Shut.mk (show keepP ls (z : Int) = !(((z : Int) % 2 == 0) && decide ((z : Int) / 2 ∈ ls)) from rfl)
      have k0 : (0 : Int) ≤ (k : Int) := by omega
      have k1' : (k : Int) < (l.length : Int) := by omega
      have HLT := Shut.mk hlt
      generalize hfs : (l.take k).filter (keepP ls) = fs at ho HF HLn
      generalize decide ((z : Int) / 2 ∈ ls) = b at HBz HK
      generalize (List.countP (fun x => decide (x < (z : Int) / 2)) (sortI ls)) = cp at HBz
      clear hfs hz1 HD hlt
      by_cases hodd : (z : Int) % 2 = 0
      · have h1 : ((z : Int) % 2 != 0) = false := by rw [hodd]; rfl
        have h2 : ((z : Int) % 2 == 0) = true := by rw [hodd]; rfl
        rw [h2] at HK
        clear hodd h2
        cases b with
        | true =>
          rw [HK.out] at HF
          go_wp2_with fail
          (with_reducible refine HBz.out.mono ?_); rintro e w4 ⟨rfl, q4⟩
          have ho := Ownv.kept ho q4
          go_wp2
          go_roundw
          case rel => exact ⟨k + 1, HLT.out, by go_num, ⟨v, rfl, by rw [HF.out]; show OwnI _ _ _ (fs ++ []); rw [List.append_nil]; exact ho⟩, hkw.trans q4⟩
          case measure => have := HLT.out; simp [intOf]; omega
        | false =>
          rw [HK.out] at HF
          go_wp2_with fail
          (with_reducible refine HBz.out.mono ?_); rintro e w4 ⟨rfl, q4⟩
          have k4 := hkw.trans q4
          have k5 := k4.alloc (.cells #[.int .i64 (z : Int)] 3)
          have o5 := Ownv.kept (Ownv.kept ho q4) ((Kept.refl w4).alloc (.cells #[.int .i64 (z : Int)] 3))
          have hsz := k4.size
          have hll : fs.length + 1 ≤ 10000000000 := by have := HLn.out; omega
          go_wp2_with (at_builtin; refine go_appi w2.heap.size v fs rfl o5 _ [(z : Int)] rfl (OwnI.rd (OwnI.lit1 w4 _)) hll (by simp; omega) ?_; intro v6 w6 o6 t6 l6; have k6 : Kept w2 w6 := Turn.keptOf k5 t6 (fun b hb => (Ownv.lt o5 hb).2))
          go_roundw
          case rel => exact ⟨k + 1, HLT.out, by go_num, ⟨v6, rfl, by rw [HF.out]; exact o6⟩, k6⟩
          case measure => have := HLT.out; simp [intOf]; omega
      · have h1 : ((z : Int) % 2 != 0) = true := by rw [bne_iff_ne]; exact hodd
        have h2 : ((z : Int) % 2 == 0) = false := by rw [beq_eq_false_iff_ne]; exact hodd
        rw [h2] at HK
        rw [HK.out] at HF
        clear hodd h2
        go_wp2_with fail
        (with_reducible refine HBz.out.mono ?_); rintro e w4 ⟨rfl, q4⟩
        have k4 := hkw.trans q4
        have k5 := k4.alloc (.cells #[.int .i64 (z : Int)] 3)
        have o5 := Ownv.kept (Ownv.kept ho q4) ((Kept.refl w4).alloc (.cells #[.int .i64 (z : Int)] 3))
        have hsz := k4.size
        have hll : fs.length + 1 ≤ 10000000000 := by have := HLn.out; omega
        go_wp2_with (at_builtin; refine go_appi w2.heap.size v fs rfl o5 _ [(z : Int)] rfl (OwnI.rd (OwnI.lit1 w4 _)) hll (by simp; omega) ?_; intro v6 w6 o6 t6 l6; have k6 : Kept w2 w6 := Turn.keptOf k5 t6 (fun b hb => (Ownv.lt o5 hb).2))
        go_roundw
        case rel => exact ⟨k + 1, HLT.out, by go_num, ⟨v6, rfl, by rw [HF.out]; exact o6⟩, k6⟩
        case measure => have := HLT.out; simp [intOf]; omega
    · have e : k = l.length := by omega
      have k9 : ¬ (k : Int) < (l.length : Int) := by omega
      rw [e, List.take_length] at ho
      clear e
      go_wp2
      go_ret
      exact ⟨_, rfl, Ownv.mono ho k2.size, k2.trans hkw⟩
end Go.Proofs.YtekmdklobejbeaaDoor
end

section
/- The walk of the statement ResolveAlone. -/
set_option linter.unusedSimpArgs false
set_option linter.unusedVariables false
namespace Go.Proofs.YtekmdklobejbeaaDoor
open Go.RowKit
open Rt

theorem RdI.pre {w : World} {g o c n : Nat} {us : List Int} (h : RdI w (.slice (some ⟨g, o, none⟩) n c) us) (k : Nat) (hk : k ≤ us.length) : RdI w (.slice (some ⟨g, o, none⟩) k c) (us.take k) := by
  obtain ⟨a, cap, hv, hl, hc, hm, hno, hcell⟩ := h
  simp only [Value.slice.injEq] at hv
  obtain ⟨rfl, _, rfl⟩ := hv
  have hlen : (us.take k).length = k := by rw [List.length_take]; omega
  unfold RdI
  rw [hlen]
  refine ⟨_, _, rfl, by simp [hlen]; omega, by omega, hm, hno, fun ad had j u hj => hcell ad had j u ?_⟩
  have hjk : j < k := by
    have := (List.getElem?_eq_some_iff.1 hj).1
    simp at this; omega
  rw [← hj]
  simp [List.getElem?_take, hjk]
theorem nodup_pre {l : List Int} (h : l.Nodup) {k : Nat} (hk : k < l.length) : l.getD k 0 ∉ l.take k := by
  intro hm
  obtain ⟨j, hj, he⟩ := List.mem_iff_getElem.1 hm
  rw [List.length_take] at hj
  rw [List.getElem_take, List.getD_eq_getElem?_getD, List.getElem?_eq_getElem hk, Option.getD_some] at he
  exact (List.pairwise_iff_getElem.1 (List.nodup_iff_pairwise_ne.1 h)) j k (by omega) hk (by omega) he
theorem filter_at {p : Int → Bool} {l : List Int} {k : Nat} (h : k < l.length) (hp : p (l.getD k 0) = true) :
    ((l.take k).filter p).length < (l.filter p).length ∧ (l.filter p).getD ((l.take k).filter p).length 0 = l.getD k 0 := by
  have e : l.filter p = (l.take k).filter p ++ (l.getD k 0 :: (l.drop (k + 1)).filter p) := by
    conv => lhs; rw [← List.take_append_drop (k + 1) l]
    rw [List.filter_append, filter_take h, hp, List.append_assoc]; rfl
  rw [e]
  refine ⟨by simp, ?_⟩
  rw [List.getD_eq_getElem?_getD, List.getElem?_append_right (Nat.le_refl _), Nat.sub_self]; rfl
set_option maxHeartbeats 32000000 in
set_option maxRecDepth 100000 in
theorem alone_any {tv mv : Value} {t : List TN} {ls : List Int} {w : World} (ht : RdTs w tv t) (hok : ∀ d ∈ t, TnOk d) {x : Int} (hx : I64 x) (hm : RdI w mv ls) (hmo : ∀ z ∈ ls, I64 z) (hT : Tabs w) :
    Calls Tryd.prog 5 #[tv, .int .i64 x, mv] w fun e w' => e = .returned (.bool true) ∧ Kept w w' := by
  have HL := Lib.hid (live08_any w hT)
  have HF := Lib.hid (fun W (k : Kept w W) => few08_any (ht.kept k))
  have HPR := Lib.hid (fun (h : FewT8 t) W (k : Kept w W) => PResolution_any (ht.kept k) hok (few8_fit h).1 (few8_fit h).2 (hT.kept k) x hx)
  have HInL := Lib.hid (fun W (k : Kept w W) (n : Int) (hn : I64 n) => inR_any (hm.kept k) hn)
  have HEx := Lib.hid (fun (W : World) (k : Kept w W) (lv : Value) (l : List Int) (hl : RdI W lv l) (hb : ∀ a ∈ l, ∃ z : Nat, a = (z : Int) ∧ z ≤ 511) (h1 : l.length ≤ 1000) (h2 : ls.length ≤ 1000) => PExcept_any hl (hm.kept k) hb h1 h2)
  have HT := Lib.hid ht
  obtain ⟨ta, tc, rfl, _, t9, _⟩ := ht.len
  obtain ⟨ma, mc, rfl, _, m9, _⟩ := hm.len
  unfold OwnPost at HPR
  unfold FewPost8 at HF
  unfold MemPost at HEx
  have ls63 : (ls.length : Int) ≤ 9223372036854775807 := by unfold maxLen at m9; omega
  clear ht hok hT hm hmo
  go_enter Tryd.func5, Tryd.ntmps5
  go_wp2_with fail
  (with_reducible refine HL.out.mono ?_); rintro e w1 ⟨rfl, k1⟩
  go_wp2_with fail
  (with_reducible refine (HF.out _ k1).mono ?_); rintro e w2 ⟨r, rfl, hr, q2⟩
  have k2 := k1.trans q2
  cases r with
  | false =>
    clear hr
    go_wp2
    go_ret
    exact ⟨rfl, k2⟩
  | true =>
    have HFW := Shut.mk (hr rfl)
    clear hr
    by_cases h100 : (100 : Int) < (ls.length : Int)
    · go_wp2
      go_ret
      exact ⟨rfl, k2⟩
    · have HPR2 := Lib.hid (HPR.out HFW.out _ k2)
      clear HPR
      cases ho : okN t x with
      | false =>
        rw [ho] at HPR2
        clear ho
        go_wp2_with fail
        (with_reducible refine HPR2.out.mono ?_); rintro e w3 ⟨v3, rfl, o3, q3⟩
        obtain ⟨a3, c3, rfl, _, _, _⟩ := (OwnI.rd o3).len
        simp only [er_false]
        clear o3
        go_wp2
        go_ret
        exact ⟨rfl, k2.trans q3⟩
      | true =>
        rw [ho] at HPR2
        have hck := (okN_iff.1 ho).1
        obtain ⟨y, rfl, hy⟩ := okN_nat ho
        have m := chk_mayN hck
        have hlen := m.len
        have hbd := fulls_bd m.hn
        have HIn : Shut (∀ a ∈ res t y, ∃ z : Nat, a = (z : Int) ∧ z < t.length ∧ z ≤ 511 ∧ (nd t z).kd ≠ 0 ∧ Mth.underB z y = true) := ⟨fun a ha => by
          obtain ⟨z, q⟩ := res_at m (show y < 2 * ((t.length + 1) / 2) - 1 by omega) ha
          have := q.lt
          exact ⟨z, q.is, by omega, by omega, q.there, q.under⟩⟩
        have HLe : Shut ((res t y).length ≤ 511) := ⟨res_len m (by omega)⟩
        have HNd : Shut ((res t y).Nodup) := ⟨res_nd m (by omega)⟩
        have HUn : Hid (∀ z : Nat, z < t.length → Mth.underB z y = true → ∀ W, Calls Tryd.prog 16 #[.int .i64 (z : Int), .int .i64 (y : Int)] W fun e w' => e = .returned (.bool true) ∧ W = w') := Lib.hid (fun z hz hu W => by
          have h := runder_any z y (by omega) (by omega) W
          rw [hu] at h
          exact h)
        rw [Int.toNat_natCast] at HPR2
        have y511 : (y : Int) ≤ 511 := by omega
        clear ho hck m hlen hbd hx
        generalize res t y = l at *
        go_wp2_with fail
        (with_reducible refine HPR2.out.mono ?_); rintro e w3 ⟨v3, rfl, o3, q3⟩
        have k3 := k2.trans q3
        have r3 : RdI w3 v3 l := OwnI.rd o3
        clear o3
        obtain ⟨a3, c3, rfl, lc3, mc3, _⟩ := r3.len
        have l63 : ((l.length : Nat) : Int) ≤ 511 := by have := HLe.out; omega
        simp only [er_true]
        go_wp2
        go_loopw [42] (fun c wr => ∃ k : Nat, k ≤ l.length ∧ c = .int .i64 k ∧ Kept w3 wr) (fun c _ => l.length - (intOf c).toNat)
        case atStart => exact ⟨0, Nat.zero_le _, rfl, Kept.refl _⟩
        case round =>
          obtain ⟨k, hk0, rfl, hkw⟩ := hrel
          by_cases hlt : k < l.length
          · obtain ⟨rb, ro, rc, hrv, _, _, hrb, hcl⟩ := r3.addr (by omega)
            simp only [Value.slice.injEq] at hrv
            obtain ⟨rfl, _, rfl⟩ := hrv
            have hcw := (hkw.cell (p := ⟨rb, ro + k, none⟩) hrb).trans (hcl k hlt)
            clear hcl
            obtain ⟨z, hz1, hz2, hz3, hz4, hz5⟩ := HIn.out _ (getD_memI hlt)
            have hnp := nodup_pre HNd.out hlt
            have rp := r3.pre k (by omega)
            have HIp := Lib.hid (fun W (q : Kept w3 W) => inR_any (rp.kept q) (n := (z : Int)) ⟨by omega, by omega⟩)
            rw [hz1] at hcw hnp
            rw [decide_eq_false hnp] at HIp
            have HU := Lib.hid (HUn.out z hz2 hz5)
            obtain ⟨tb, to, tc2, la, lc, htv, hat, hun⟩ := HT.out.at (k := z) hz2
            simp only [Value.slice.injEq] at htv
            obtain ⟨rfl, -, rfl⟩ := htv
            obtain ⟨g0, g1, g2, g3, g4, g5⟩ := hat _ (k3.trans hkw)
            have hkd : ((nd t z).kd == 0) = false := by rw [beq_eq_false_iff_ne]; exact hz4
            have k0 : (0 : Int) ≤ (k : Int) := by omega
            have k1' : (k : Int) < (l.length : Int) := by omega
            have z0 : (0 : Int) ≤ (z : Int) := by omega
            have z1 : (z : Int) < (t.length : Int) := by omega
            have HLT := Shut.mk hlt
            clear hlt hz1 hnp rp hat hun hz2 hz3 hz4 hz5 g1 g2 g3 g4 g5
            generalize (nd t z).kd = kd at *
            go_wp2_with fail
            (with_reducible refine (HIp.out _ hkw).mono ?_); rintro e w4 ⟨rfl, rfl⟩
            go_wp2_with fail
            (with_reducible refine (HU.out _).mono ?_); rintro e w5 ⟨rfl, rfl⟩
            go_wp2
            go_roundw
            case rel => exact ⟨k + 1, HLT.out, by go_num, hkw⟩
            case measure => have := HLT.out; simp [intOf]; omega
          · have k9 : ¬ (k : Int) < (l.length : Int) := by omega
            have kw := k3.trans hkw
            have r3' := r3.kept hkw
            have HE := Lib.hid (HEx.out _ kw _ _ r3' (fun a ha => by obtain ⟨z, e, _, h, _⟩ := HIn.out a ha; exact ⟨z, e, h⟩) (by have := HLe.out; omega) (by omega))
            have HIn2 : Shut (∀ a ∈ l, ∃ z : Nat, a = (z : Int) ∧ z ≤ 511) := ⟨fun a ha => by obtain ⟨z, e, _, h, _⟩ := HIn.out a ha; exact ⟨z, e, h⟩⟩
            clear HIn HUn HNd r3
            go_wp2_with fail
            (with_reducible refine HE.out.mono ?_); rintro e w4 ⟨v4, rfl, o4, q4⟩
            have k4 := kw.trans q4
            have r4 : RdI w4 v4 (l.filter (keepP ls)) := OwnI.rd o4
            have r3 := r3'.kept q4
            clear o4 r3' HE
            obtain ⟨a4, c4, rfl, lc4, mc4, _⟩ := r4.len
            have HFl := Shut.mk (show (l.filter (keepP ls)).length ≤ 511 from by have := List.length_filter_le (keepP ls) l; omega)
            have HFA := Shut.mk (fun j (hj : j < l.length) (hp : keepP ls (l.getD j 0) = true) => filter_at hj hp)
            have HFT := Shut.mk (fun j (hj : j < l.length) => filter_take (p := keepP ls) hj)
            have HAll := Shut.mk (show (l.take l.length).filter (keepP ls) = l.filter (keepP ls) by rw [List.take_length])
            generalize hms : l.filter (keepP ls) = ms at *
            have f63 : (ms.length : Int) ≤ 511 := by have := HFl.out; omega
            clear hms
            go_wp2
            go_loopw [13, 82] (fun q c wr => ∃ j : Nat, j ≤ l.length ∧ c = .int .i64 j ∧ q = .int .i64 ((((l.take j).filter (keepP ls)).length : Nat) : Int) ∧ Kept w4 wr) (fun _ c _ => l.length - (intOf c).toNat)
            case atStart => exact ⟨0, Nat.zero_le _, rfl, rfl, Kept.refl _⟩
            case round =>
              obtain ⟨j, hj0, rfl, rfl, hkw2⟩ := hrel
              by_cases hlt : j < l.length
              · obtain ⟨sb, so, sc, hsv, _, _, hsb, hcs⟩ := r3.addr (by omega)
                simp only [Value.slice.injEq] at hsv
                obtain ⟨rfl, _, rfl⟩ := hsv
                have hcw := (hkw2.cell (p := ⟨sb, so + j, none⟩) hsb).trans (hcs j hlt)
                clear hcs
                obtain ⟨z, hz1, hz2⟩ := HIn2.out _ (getD_memI hlt)
                have HA := Shut.mk (HFA.out j hlt)
                have HT2 := Shut.mk (HFT.out j hlt)
                rw [hz1] at hcw HA HT2
                have HK := Shut.mk (show keepP ls (z : Int) = !(((z : Int) % 2 == 0) && decide ((z : Int) / 2 ∈ ls)) from rfl)
                have HIz := Lib.hid (fun W (k : Kept w W) => HInL.out W k ((z : Int) / 2) ⟨by omega, by omega⟩)
                have j0 : (0 : Int) ≤ (j : Int) := by omega
                have j1 : (j : Int) < (l.length : Int) := by omega
                have HLT := Shut.mk hlt
                have HFB := Shut.mk (show ((l.take j).filter (keepP ls)).length ≤ 511 from by
                  have := List.length_filter_le (keepP ls) (l.take j)
                  rw [List.length_take] at this; omega)
                have z511 : (z : Int) ≤ 511 := by omega
                have z0 : (0 : Int) ≤ (z : Int) := by omega
                generalize (l.take j).filter (keepP ls) = fs at *
                clear hlt hz1
                by_cases hin : keepP ls (z : Int) = true
                · rw [hin] at HT2
                  obtain ⟨h1, h2⟩ := HA.out hin
                  obtain ⟨mb, mo, mc2, hmv, _, _, hmb, hcm⟩ := r4.addr (by omega)
                  simp only [Value.slice.injEq] at hmv
                  obtain ⟨rfl, _, rfl⟩ := hmv
                  have hcm2 := (hkw2.cell (p := ⟨mb, mo + fs.length, none⟩) hmb).trans (hcm fs.length h1)
                  rw [h2] at hcm2
                  have HT3 := Shut.mk (show (fs ++ [(z : Int)]).length = fs.length + 1 by simp)
                  have HT4 : Shut ((List.filter (keepP ls) (List.take (j + 1) l)).length = fs.length + 1) := ⟨by rw [HT2.out]; exact HT3.out⟩
                  have f0 : (0 : Int) ≤ (fs.length : Int) := by omega
                  have f1 : (fs.length : Int) < (ms.length : Int) := by omega
                  have f2 : ¬ (ms.length : Int) ≤ (fs.length : Int) := by omega
                  generalize fs.length = fl at *
                  clear hcm h1 h2
                  by_cases hev : (z : Int) % 2 = 0
                  · have h3 : ((z : Int) % 2 == 0) = true := by rw [hev]; rfl
                    have h4 : decide ((z : Int) / 2 ∈ ls) = false := by
                      have := HK.out
                      rw [hin, h3, Bool.true_and] at this
                      cases e : decide ((z : Int) / 2 ∈ ls) with
                      | false => rfl
                      | true => rw [e] at this; cases this
                    rw [h4] at HIz
                    clear hev h4 hin
                    go_wp2_with fail
                    (with_reducible refine (HIz.out _ (k4.trans hkw2)).mono ?_); rintro e w5 ⟨rfl, rfl⟩
                    go_wp2
                    go_roundw
                    case rel => exact ⟨j + 1, HLT.out, by go_num, by rw [HT4.out]; go_num, hkw2⟩
                    case measure => have := HLT.out; simp [intOf]; omega
                  · have h3 : ((z : Int) % 2 == 0) = false := by rw [beq_eq_false_iff_ne]; exact hev
                    clear hev hin
                    go_wp2
                    go_roundw
                    case rel => exact ⟨j + 1, HLT.out, by go_num, by rw [HT4.out]; go_num, hkw2⟩
                    case measure => have := HLT.out; simp [intOf]; omega
                · have hin := not_true hin
                  have hb := HK.out
                  rw [hin] at hb HT2
                  have h3 : ((z : Int) % 2 == 0) = true := by
                    cases e : ((z : Int) % 2 == 0) with
                    | true => rfl
                    | false => rw [e] at hb; cases hb
                  have h4 : decide ((z : Int) / 2 ∈ ls) = true := by
                    cases e : decide ((z : Int) / 2 ∈ ls) with
                    | true => rfl
                    | false => rw [e, Bool.and_false] at hb; cases hb
                  rw [h4] at HIz
                  have HT4 : Shut ((List.filter (keepP ls) (List.take (j + 1) l)).length = fs.length) := ⟨by rw [HT2.out]; simp⟩
                  generalize fs.length = fl at *
                  clear hb h4 hin HA
                  go_wp2_with fail
                  (with_reducible refine (HIz.out _ (k4.trans hkw2)).mono ?_); rintro e w5 ⟨rfl, rfl⟩
                  go_wp2
                  go_roundw
                  case rel => exact ⟨j + 1, HLT.out, by go_num, by rw [HT4.out], hkw2⟩
                  case measure => have := HLT.out; simp [intOf]; omega
              · have j9 : ¬ (j : Int) < (l.length : Int) := by omega
                have HJ := Shut.mk (show j = l.length by omega)
                rw [HJ.out, HAll.out]
                clear HJ
                go_wp2
                go_ret
                exact ⟨rfl, k4.trans hkw2⟩
end Go.Proofs.YtekmdklobejbeaaDoor
end
