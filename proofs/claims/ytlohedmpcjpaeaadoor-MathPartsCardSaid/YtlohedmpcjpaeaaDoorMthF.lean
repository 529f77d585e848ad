/- Walks: climb, Path, Copath. -/
import Derived.Test.YtlohedmpcjpaeaaDoorMthE
set_option linter.unusedSimpArgs false
set_option linter.unusedVariables false
namespace Go.Proofs.YtlohedmpcjpaeaaDoor
open Go.RowKit

/-- What 't' says of x and of each node above it, i of them. -/
def cl (t : Nat → Nat) (x i : Nat) : List Int := (List.range i).map fun j => ((t (Mth.itr j x) : Nat) : Int)
theorem cl_len (t : Nat → Nat) (x i : Nat) : (cl t x i).length = i := by simp [cl]
theorem cl_succ (t : Nat → Nat) (x i : Nat) : cl t x (i + 1) = cl t x i ++ [((t (Mth.itr i x) : Nat) : Int)] := by
  unfold cl
  rw [List.range_succ, List.map_append]; rfl
def slen : Value → Nat
  | .slice _ n _ => n
  | _ => 0
def ClimbPost (w : World) (l : List Int) (e : Ending) (w' : World) : Prop := ∃ v, e = .returned v ∧ RdI w' v l ∧ Kept w w'
theorem lvl_top {n : Nat} (hn : n ∈ Mth.fulls) : Mth.lvl (n - 1) ≤ 8 := by
  have : ∀ m ∈ Mth.fulls, Mth.lvl (m - 1) ≤ 8 := by decide +kernel
  exact this n hn
set_option maxHeartbeats 1000000 in
theorem climb_any (t : Nat → Nat) (g : Nat) (eg : ∀ args w, (callFunc g args).run Tryd.prog w = .ok (.enter g args) w)
    (hG : ∀ (y : Nat) (W : World), y < 511 → Tabs W → Calls Tryd.prog g #[.int .i64 (y : Int)] W fun e w' => e = .returned (.int .i64 (t y : Nat)) ∧ Kept W w')
    (x n : Nat) (hn : n ∈ Mth.fulls) (hx : x < 2 * n - 1) (w : World) (ht : Tabs w) :
    Calls Tryd.prog 62 #[.int .i64 x, .int .i64 n, .func (.func g) #[] #[]] w (ClimbPost w (cl t x (Mth.lvl (n - 1) - Mth.lvl x))) := by
  have hp := Mth.path_of hn hx
  have hbd := fulls_bd hn
  have hl8 := lvl_top hn
  have HR := Lib.hid (fun W => root_any (n : Int) W (by omega) (by omega))
  have HG := Lib.hid hG
  clear hG
  have hlast := hp.last
  have hL8 : Mth.lvl (n - 1) - Mth.lvl x ≤ 8 := by omega
  have hat := hp.at'
  generalize Mth.lvl (n - 1) - Mth.lvl x = L at hlast hat hL8 ⊢
  have HLast := Shut.mk hlast
  have HAt := Shut.mk hat
  have HL := Shut.mk hL8
  clear hlast hat hp hL8
  have hn1 : (1 : Int) ≤ (n : Int) := by omega
  have hn2 : (n : Int) ≤ 256 := by omega
  go_enter Tryd.func62, Tryd.ntmps62
  go_wp2
  go_loopw [0, 7] (fun y l wr => ∃ i : Nat, i ≤ L ∧ y = .int .i64 (Mth.itr i x : Nat) ∧ (∃ v, v = l ∧ OwnI w.heap.size wr v (cl t x i) ∧ slen v = i) ∧ Kept w wr) (fun _ l _ => L - slen l)
  case atStart => exact ⟨0, Nat.zero_le _, rfl, ⟨_, rfl, OwnI.nil _ _, rfl⟩, Kept.refl _⟩
  case round =>
    obtain ⟨i, hi, rfl, ⟨v, rfl, ho, hs⟩, hk⟩ := hrel
    have HS := Shut.mk hs
    clear hs
    by_cases hlt : i < L
    · obtain ⟨_, _, a3, a4, _⟩ := HAt.out i hlt
      have hm : Mth.itr i x < 511 := by omega
      have HSucc := Shut.mk (Mth.itr_succ i x)
      have HCl := Shut.mk (cl_succ t x i)
      have HTy := Lib.hid (fun W k => HG.out (Mth.itr i x) W hm (ht.kept (Kept.trans hk k)))
      have HPy := Lib.hid (fun W (k : Kept w W) => parent_any (Mth.itr i x) hm W (ht.kept k))
      have hne : ((Mth.itr i x : Int) != (n : Int) - 1) = true := by simp; omega
      generalize Mth.itr i x = y at HSucc HCl HTy HPy hne
      generalize t y = ty at HCl HTy
      clear a3 a4 hm
      go_wp2_with (go_at_call 39; refine (HR.out _).mono ?_; rintro e w' ⟨rfl, rfl⟩)
      refine (HTy.out _ (Kept.refl _)).mono ?_
      rintro e w2 ⟨rfl, hk2⟩
      have hsz := (hk.trans hk2).size
      have hk2a := (hk.trans hk2).alloc (.cells #[.int .i64 (ty : Int)] 3)
      have o2 := Ownv.kept (Ownv.kept ho hk2) ((Kept.refl w2).alloc (.cells #[.int .i64 (ty : Int)] 3))
      have hlen : (cl t x i).length + 1 ≤ 10000000000 := by rw [cl_len]; have := HL.out; omega
      go_wp2_with (at_builtin; refine go_appi w.heap.size v (cl t x i) rfl o2 _ [(ty : Int)] rfl (OwnI.rd (OwnI.lit1 w2 _)) hlen (by simp; omega) ?_; intro v6 w6 o6 t6 l6; have k6 : Kept w w6 := Turn.keptOf hk2a t6 (fun b hb => (Ownv.lt o2 hb).2))
      refine (HPy.out _ k6).mono ?_
      rintro e w7 ⟨rfl, hk7⟩
      go_wp2
      go_roundw
      case rel => exact ⟨i + 1, hlt, by rw [HSucc.out], ⟨v6, rfl, by rw [HCl.out]; exact Ownv.kept o6 hk7, by
        obtain ⟨a6, c6, rfl, _⟩ := (OwnI.rd o6).len
        show (cl t x i ++ [(ty : Int)]).length = i + 1
        rw [List.length_append, cl_len]; rfl⟩, k6.trans hk7⟩
      case measure =>
        obtain ⟨a6, c6, rfl, _⟩ := (OwnI.rd o6).len
        have := HS.out
        show L - (cl t x i ++ [(ty : Int)]).length < L - slen v
        rw [List.length_append, cl_len, this]
        simp
        omega
    · have e : i = L := by omega
      have hlst := HLast.out
      rw [← e] at hlst
      have hne : ((Mth.itr i x : Int) != (n : Int) - 1) = false := by simp; omega
      have HE := Shut.mk e
      clear e hlst hlt
      generalize Mth.itr i x = y at hne
      go_wp2_with (go_at_call 39; refine (HR.out _).mono ?_; rintro e w' ⟨rfl, rfl⟩)
      go_ret
      exact ⟨_, rfl, by rw [← HE.out]; exact OwnI.rd ho, hk⟩
def ints (l : List Nat) : List Int := l.map fun y : Nat => (y : Int)
theorem cl_of (t : Nat → Nat) (x L : Nat) (l : List Nat) (hl : l.length = L) (h : ∀ i, i < L → l.getD i 0 = t (Mth.itr i x)) : cl t x L = ints l := by
  refine List.ext_getElem (by simp [cl, ints, hl]) fun i h1 h2 => ?_
  have hi : i < L := by simpa [cl] using h1
  have := h i hi
  rw [List.getD_eq_getElem?_getD, List.getElem?_eq_getElem (by omega), Option.getD_some] at this
  simp only [cl, ints, List.getElem_map, List.getElem_range, this]
theorem cl_path {x n : Nat} (hn : n ∈ Mth.fulls) (hx : x < 2 * n - 1) : cl Mth.par x (Mth.lvl (n - 1) - Mth.lvl x) = ints (Mth.path x n) := by
  have hp := Mth.path_of hn hx
  exact cl_of _ _ _ _ hp.len fun i hi => ((hp.at' i hi).1).trans (Mth.itr_succ i x)
theorem cl_copath {x n : Nat} (hn : n ∈ Mth.fulls) (hx : x < 2 * n - 1) : cl Mth.sib x (Mth.lvl (n - 1) - Mth.lvl x) = ints (Mth.copath x n) := by
  have hp := Mth.path_of hn hx
  exact cl_of _ _ _ _ hp.clen fun i hi => (hp.at' i hi).2.1
/-- What a call leaves that answers numbers, or an error. -/
def ListPost (w : World) (b : Bool) (l : List Int) (e : Ending) (w' : World) : Prop := ∃ v, e = .returned (.tuple #[v, .int .i64 (er b)]) ∧ RdI w' v (bif b then l else []) ∧ Kept w w'
theorem Path1_any (b c : Nat) (x n : Nat) (hn : n ∈ Mth.fulls) (hx : x < 2 * n - 1) (w : World) (hb : w.cell? ⟨b, 0, none⟩ = some (.int .i64 x)) (hc : w.cell? ⟨c, 0, none⟩ = some (.int .i64 n)) (ht : Tabs w) :
    Calls Tryd.prog 61 #[.pointer (some ⟨b, 0, none⟩), .pointer (some ⟨c, 0, none⟩)] w (ClimbPost w (ints (Mth.path x n))) := by
  have HC := Lib.hid (climb_any Mth.par 55 (enters_of Tryd.func55 (by kernel_rfl) rfl) (fun y W h t => parent_any y h W t) x n hn hx w ht)
  rw [cl_path hn hx] at HC
  go_enter Tryd.func61, Tryd.ntmps61
  go_wp2_with fail
  refine HC.out.mono ?_
  rintro e w' ⟨v, rfl, hr, hk⟩
  go_wp2
  go_ret
  exact ⟨_, rfl, hr, hk⟩
theorem Path_any (x n : Int) (w : World) (hx : I64 x) (hn : I64 n) (ht : Tabs w) : Calls Tryd.prog 27 #[.int .i64 x, .int .i64 n] w (ListPost w (inB x n) (ints (Mth.path x.toNat n.toNat))) := by
  have HA := Lib.hid (fun w => within_any x n w hx hn)
  have hk0 : Kept w ((w.alloc (.cells #[.int .i64 x] 3)).alloc (.cells #[.int .i64 n] 3)) := ((Kept.refl w).alloc _).alloc _
  have ht1 := ht.kept hk0
  cases hi : inB x n with
  | false =>
    rw [hi] at HA
    clear hi
    go_enter Tryd.func27, Tryd.ntmps27
    go_wp2_with (first | (go_at_call 60; refine (HA.out _).mono ?_; rintro e w' ⟨rfl, rfl⟩) | (go_at_call 59; refine (told_noL _ _).mono ?_; rintro e w' ⟨rfl, rfl⟩))
    go_ret2
    exact ⟨_, rfl, RdI.nil _, hk0⟩
  | true =>
    obtain ⟨m, k, hm, hkk, hkf, h4, h5⟩ := in_nat hi
    subst hm hkk
    have hb : ((w.alloc (.cells #[.int .i64 (m : Int)] 3)).alloc (.cells #[.int .i64 (k : Int)] 3)).cell? ⟨w.heap.size, 0, none⟩ = some (.int .i64 m) := by
      rw [Below.cell (p := ⟨w.heap.size, 0, none⟩) ((Kept.refl _).alloc _) (by simp)]; exact cell_box _ _ _
    have hc : ((w.alloc (.cells #[.int .i64 (m : Int)] 3)).alloc (.cells #[.int .i64 (k : Int)] 3)).cell? ⟨w.heap.size + 1, 0, none⟩ = some (.int .i64 k) := by
      have := cell_box (w.alloc (.cells #[.int .i64 (m : Int)] 3)) (.int .i64 (k : Int)) 3
      rwa [alloc_size] at this
    have HT := Lib.hid (told_yesL (P := fun v w' => RdI w' v (ints (Mth.path m k)) ∧ Kept _ w') (enters_of Tryd.func61 (by kernel_rfl) rfl) (Path1_any w.heap.size (w.heap.size + 1) m k hkf h4 _ hb hc ht1))
    rw [hi] at HA
    clear hi hb hc
    go_enter Tryd.func27, Tryd.ntmps27
    go_wp2_with (first | (go_at_call 60; refine (HA.out _).mono ?_; rintro e w' ⟨rfl, rfl⟩) | (go_at_call 59; refine HT.out.mono ?_; rintro e w' ⟨v, rfl, hr, hk⟩))
    go_ret2
    exact ⟨_, rfl, hr, hk0.trans hk⟩
theorem Copath1_any (b c : Nat) (x n : Nat) (hn : n ∈ Mth.fulls) (hx : x < 2 * n - 1) (w : World) (hb : w.cell? ⟨b, 0, none⟩ = some (.int .i64 x)) (hc : w.cell? ⟨c, 0, none⟩ = some (.int .i64 n)) (ht : Tabs w) :
    Calls Tryd.prog 63 #[.pointer (some ⟨b, 0, none⟩), .pointer (some ⟨c, 0, none⟩)] w (ClimbPost w (ints (Mth.copath x n))) := by
  have HC := Lib.hid (climb_any Mth.sib 58 (enters_of Tryd.func58 (by kernel_rfl) rfl) (fun y W h t => sibling_any y h W t) x n hn hx w ht)
  rw [cl_copath hn hx] at HC
  go_enter Tryd.func63, Tryd.ntmps63
  go_wp2_with fail
  refine HC.out.mono ?_
  rintro e w' ⟨v, rfl, hr, hk⟩
  go_wp2
  go_ret
  exact ⟨_, rfl, hr, hk⟩
theorem Copath_any (x n : Int) (w : World) (hx : I64 x) (hn : I64 n) (ht : Tabs w) : Calls Tryd.prog 29 #[.int .i64 x, .int .i64 n] w (ListPost w (inB x n) (ints (Mth.copath x.toNat n.toNat))) := by
  have HA := Lib.hid (fun w => within_any x n w hx hn)
  have hk0 : Kept w ((w.alloc (.cells #[.int .i64 x] 3)).alloc (.cells #[.int .i64 n] 3)) := ((Kept.refl w).alloc _).alloc _
  have ht1 := ht.kept hk0
  cases hi : inB x n with
  | false =>
    rw [hi] at HA
    clear hi
    go_enter Tryd.func29, Tryd.ntmps29
    go_wp2_with (first | (go_at_call 60; refine (HA.out _).mono ?_; rintro e w' ⟨rfl, rfl⟩) | (go_at_call 59; refine (told_noL _ _).mono ?_; rintro e w' ⟨rfl, rfl⟩))
    go_ret2
    exact ⟨_, rfl, RdI.nil _, hk0⟩
  | true =>
    obtain ⟨m, k, hm, hkk, hkf, h4, h5⟩ := in_nat hi
    subst hm hkk
    have hb : ((w.alloc (.cells #[.int .i64 (m : Int)] 3)).alloc (.cells #[.int .i64 (k : Int)] 3)).cell? ⟨w.heap.size, 0, none⟩ = some (.int .i64 m) := by
      rw [Below.cell (p := ⟨w.heap.size, 0, none⟩) ((Kept.refl _).alloc _) (by simp)]; exact cell_box _ _ _
    have hc : ((w.alloc (.cells #[.int .i64 (m : Int)] 3)).alloc (.cells #[.int .i64 (k : Int)] 3)).cell? ⟨w.heap.size + 1, 0, none⟩ = some (.int .i64 k) := by
      have := cell_box (w.alloc (.cells #[.int .i64 (m : Int)] 3)) (.int .i64 (k : Int)) 3
      rwa [alloc_size] at this
    have HT := Lib.hid (told_yesL (P := fun v w' => RdI w' v (ints (Mth.copath m k)) ∧ Kept _ w') (enters_of Tryd.func63 (by kernel_rfl) rfl) (Copath1_any w.heap.size (w.heap.size + 1) m k hkf h4 _ hb hc ht1))
    rw [hi] at HA
    clear hi hb hc
    go_enter Tryd.func29, Tryd.ntmps29
    go_wp2_with (first | (go_at_call 60; refine (HA.out _).mono ?_; rintro e w' ⟨rfl, rfl⟩) | (go_at_call 59; refine HT.out.mono ?_; rintro e w' ⟨v, rfl, hr, hk⟩))
    go_ret2
    exact ⟨_, rfl, hr, hk0.trans hk⟩
end Go.Proofs.YtlohedmpcjpaeaaDoor
