/- Walks of package pad: Pad, and the document's answer. -/
import Derived.Test.YtgdpdjofhidllaaPadA
import Derived.Outline
set_option linter.unusedSimpArgs false
set_option linter.unusedVariables false
namespace Go.Proofs.Ytgdpdjofhidllaa
open Go.RowKit

theorem pad_row (zs : List Int) (h : (zs.length : Int) < 65536) :
    (splice (List.replicate (bk zs.length).toNat (Value.int .u8 0)) 0 (zs.map (Value.int .u8))).set zs.length (.int .u8 128) = (padS zs).map (Value.int .u8) := by
  have h1 := bk_gt h
  have h2 := bk_le zs.length
  obtain ⟨k, hk⟩ : ∃ k, (bk zs.length).toNat = zs.length + (k + 1) := ⟨(bk zs.length).toNat - zs.length - 1, by omega⟩
  unfold splice padS
  rw [hk]
  simp only [List.take_zero, List.nil_append, List.length_map, Nat.zero_add, List.drop_replicate, Nat.add_sub_cancel_left, List.map_append, List.map_cons, List.map_replicate]
  rw [List.set_append_right _ _ (by simp)]
  simp only [List.length_map, Nat.sub_self, List.replicate_succ, List.set_cons_zero, Nat.add_sub_cancel]

theorem Own.blkz {B : Nat} {w : World} {g n : Nat} {e : TypeId} (h : Own B e w (.slice (some ⟨g, 0, none⟩) n n) (List.replicate n 0)) : Blk w g e (List.replicate n (Value.int .u8 0)) := by
  unfold Own at h
  rw [List.length_replicate, List.map_replicate] at h
  exact h.blk.1

theorem Blk.there {w : World} {g n i : Nat} {e : TypeId} {xs : List Value} (h : Blk w g e xs) (hn : xs.length = n) (hi : i < n) : ∃ o, w.cell? ⟨g, i, none⟩ = some o := by
  rw [h.cell i]; exact ⟨_, List.getElem?_eq_getElem (by omega)⟩

set_option maxRecDepth 100000 in
theorem pad_ok (v : Value) (zs : List Int) (w : World) (hr : Rd w v zs) (hl : (zs.length : Int) < 65536) :
    Calls Try.prog 9 #[v] w fun e w' => ∃ v', e = .returned (.tuple #[v', .int .i64 0]) ∧ Own w.heap.size 5 w' v' (padS zs) ∧ Kept w w' := by
  have HR := Lib.hid hr
  have HC := Lib.hid (bucket_ok zs.length w (by omega) hl)
  obtain ⟨a, cap, rfl, h1, h2, h3⟩ := hr.len
  have hg := bk_gt hl
  have hb := bk_le zs.length
  have HP := Lib.hid (pad_row zs hl)
  have HL := Lib.hid (padS_length hl)
  obtain ⟨n, hn⟩ : ∃ n : Nat, bk zs.length = n := ⟨(bk zs.length).toNat, by omega⟩
  rw [hn] at hg hb HC HP HL
  have HN := Lib.hid hn; clear hn
  have HBB := Lib.hid hb; clear hb
  have HLL := Lib.hid hl; clear hl
  have hgn : zs.length < n := by omega
  have HSL := Lib.hid (show (splice (List.replicate n (Value.int .u8 0)) 0 (zs.map (Value.int .u8))).length = n by rw [length_splice _ _ _ (by simp; omega)]; simp)
  clear hr
  go_enter Try.func9, Try.ntmps9
  go_wp2_with fail
  refine HC.out.mono ?_
  rintro e w1 ⟨rfl, rfl⟩
  go_wp2_with (first | (at_make; refine go_mkf n rfl rfl ?_ ?_; rotate_right; intro w1 ho1 hk1; have HB1 := Lib.hid (Own.blkz ho1); clear ho1; have hr1 := HR.out.kept hk1) | ((with_reducible show wpList _ _ _ (⟨some 20, _, _, _, _, _⟩ :: _) _ _); refine go_copyb (s := .tmp 18) (x := .tmp 19) w.heap.size w.heap.size n (List.replicate n (Value.int .u8 0)) rfl HB1.out (Nat.le_refl _) List.length_replicate (.slice a zs.length cap) zs rfl hr1 (Nat.le_of_lt hgn) ?_; intro w2 hb2 hk2; have hfz := hb2.out.frozen zs.length; have HF := Lib.hid (hb2.out.set zs.length (.int .u8 128)); obtain ⟨old, hold⟩ := hb2.out.there HSL.out hgn))
  · go_ret2
    refine ⟨_, rfl, ?_, (hk1.trans' hk2).setCell (Nat.le_refl _) _⟩
    have h3 := HF.out
    rw [show (n : Nat) = ((n : Int)).toNat by omega, HP.out] at h3
    exact h3.own (Nat.le_refl _) (by have := HL.out; omega) (by have := HL.out; have := HBB.out; unfold maxLen; omega)
  · have := HBB.out; omega

theorem pad_bad (v : Value) (zs : List Int) (w : World) (hr : Rd w v zs) (hl : 65536 ≤ (zs.length : Int)) :
    Calls Try.prog 9 #[v] w fun e w' => e = .returned (.tuple #[.slice none 0 0, .int .i64 2]) ∧ w = w' := by
  have HC := Lib.hid (bucket_big zs.length w hl)
  obtain ⟨a, cap, rfl, h1, h2, h3⟩ := hr.len
  clear hr
  go_enter Try.func9, Try.ntmps9
  go_wp2_with fail
  refine HC.out.mono ?_
  rintro e w1 ⟨rfl, rfl⟩
  go_wp2_with fail
  go_ret2
  exact ⟨rfl, rfl⟩

theorem rpad_bad (v : Value) (zs : List Int) (w : World) (hr : Rd w v zs) (hl : 65536 ≤ (zs.length : Int)) :
    Calls Try.prog 10 #[v] w fun e w' => e = .returned (.tuple #[.slice none 0 0, .int .i64 2]) ∧ w = w' := by
  have HC := Lib.hid (rbucket_big zs.length w hl)
  obtain ⟨a, cap, rfl, h1, h2, h3⟩ := hr.len
  clear hr
  go_enter Try.func10, Try.ntmps10
  go_wp2_with fail
  refine HC.out.mono ?_
  rintro e w1 ⟨rfl, rfl⟩
  go_wp2_with fail
  go_ret2
  exact ⟨rfl, rfl⟩

def PadRest (zs : List Int) (k : Nat) : List Int := zs ++ 128 :: List.replicate k 0
theorem padRest_length (zs : List Int) (k : Nat) : (PadRest zs k).length = zs.length + 1 + k := by unfold PadRest; simp; omega
theorem padRest_snoc (zs : List Int) (k : Nat) : PadRest zs k ++ [0] = PadRest zs (k + 1) := by unfold PadRest; simp [List.replicate_succ']
def lenV : Value → Nat
  | .slice _ n _ => n
  | _ => 0

set_option maxRecDepth 100000 in
theorem rpad_ok (v : Value) (zs : List Int) (w : World) (hr : Rd w v zs) (hl : (zs.length : Int) < 65536) :
    Calls Try.prog 10 #[v] w fun e w' => ∃ v', e = .returned (.tuple #[v', .int .i64 0]) ∧ Own w.heap.size 5 w' v' (padS zs) ∧ Kept w w' := by
  have HR := Lib.hid hr
  have HC := Lib.hid (rbucket_ok zs.length w (by omega) hl)
  obtain ⟨a, cap, rfl, h1, h2, h3⟩ := hr.len
  have hg := bk_gt hl
  have hb := bk_le zs.length
  have HP := Lib.hid (show padS zs = zs ++ 128 :: List.replicate ((bk zs.length).toNat - zs.length - 1) 0 from rfl)
  obtain ⟨n, hn⟩ : ∃ n : Nat, bk zs.length = n := ⟨(bk zs.length).toNat, by omega⟩
  rw [hn] at hg hb HC HP
  have HN := Lib.hid hn; clear hn
  have HBB := Lib.hid hb; clear hb
  have HLL := Lib.hid hl; clear hl
  have hgn : zs.length < n := by omega
  clear hr
  go_enter Try.func10, Try.ntmps10
  go_wp2_with fail
  refine HC.out.mono ?_
  rintro e w1 ⟨rfl, rfl⟩
  go_wp2_with (first | (at_builtin; refine go_appb w.heap.size (.slice none 0 0) [] rfl (Own.nil _ _ _) _ zs rfl HR.out ?_ ?_ ?_; rotate_right; intro v1 w1 ho1 hb1; have HO1 := Lib.hid ho1; clear ho1; have HL1 := Lib.hid (Own.rd (Own.lit (w := w1) [128] (by simp)))) | (at_builtin; refine go_appb w.heap.size v1 zs rfl (HO1.out.kept ((Kept.refl w1).alloc _)) _ [128] rfl HL1.out ?_ ?_ ?_; rotate_right; intro v2 w2 ho2 hb2))
  · simp only [List.nil_append] at HO1
    go_loopw [6] (fun v wr => ∃ k : Nat, zs.length + 1 + k ≤ n ∧ Own w.heap.size 5 wr v (PadRest zs k) ∧ Below w.heap.size w wr) (fun v _ => n - lenV v)
    case atStart => exact ⟨0, by omega, ho2, hb1.trans ((Below.alloc (Below.refl _ _) hb1.size _).trans hb2)⟩
    case round =>
      obtain ⟨k, hk, hov, hbw⟩ := hrel
      have HO := Lib.hid hov
      obtain ⟨av, cv, rfl, q1, q2, q3⟩ := hov.rd.len
      clear hov
      have hpl := padRest_length zs k
      obtain ⟨m, hm⟩ : ∃ m, m = (PadRest zs k).length := ⟨_, rfl⟩
      rw [← hm] at HO q1 ⊢
      have hme : m = zs.length + 1 + k := by rw [hm, hpl]
      have hmk : m ≤ n := by omega
      have HPL := Lib.hid hpl; clear hpl
      have HME := Lib.hid hme
      have HM := Lib.hid hm; clear hm
      have HK := Lib.hid hk; clear hk
      have HQ2 := Lib.hid q2; clear q2
      by_cases hlt : m < n
      all_goals clear hme
      · have HL3 := Lib.hid (Own.rd (Own.lit (w := wr) [0] (by simp)))
        go_wp2_with (at_builtin; refine go_appb w.heap.size (.slice av m cv) (PadRest zs k) rfl (HO.out.kept ((Kept.refl wr).alloc _)) _ [0] rfl HL3.out ?_ ?_ ?_; rotate_right; intro v3 w3 ho3 hb3)
        · go_roundw
          case rel =>
            rw [padRest_snoc] at ho3
            exact ⟨k + 1, by have := HME.out; omega, ho3, hbw.trans ((Below.alloc (Below.refl _ _) hbw.size _).trans hb3)⟩
          case measure =>
            obtain ⟨av3, cv3, rfl, _, _, _⟩ := ho3.rd.len
            have := padRest_length zs (k + 1)
            rw [padRest_snoc]
            have := HME.out
            simp [lenV]; omega
        · rw [HPL.out]; simp only [List.length_cons, List.length_nil]; have := HBB.out; have := HK.out; omega
        · have := hbw.size; simp; omega
      · go_wp2_with fail
        go_ret2
        refine ⟨_, rfl, ?_, hbw⟩
        rw [HP.out, show ((n : Int)).toNat - zs.length - 1 = k by have := HK.out; have := HME.out; omega]
        exact HO.out
  · simp only [List.length_cons, List.length_nil]; have := HBB.out; omega
  · have := hb1.size; simp; omega
  · simp only [List.length_nil]; have := HBB.out; omega
  · exact Nat.le_refl _
end Go.Proofs.Ytgdpdjofhidllaa
