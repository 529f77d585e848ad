/- Walks of package wire: options are read. -/
import Derived.Test.YthjjmadfdfjjdaaWireD
import Derived.Outline
set_option linter.unusedSimpArgs false
set_option linter.unusedVariables false
namespace Go.Proofs.Ythjjmadfdfjjdaa
open Go.RowKit

theorem By.drop {zs : List Int} (h : By zs) (k : Nat) : By (zs.drop k) := fun z hz => h z (List.mem_of_mem_drop hz)
theorem By.take {zs : List Int} (h : By zs) (k : Nat) : By (zs.take k) := fun z hz => h z (List.mem_of_mem_take hz)

theorem takeOpt_0 (v : Value) (zs : List Int) (w : World) (h : Rd w v zs) (hp : zs.length = 0) :
    Calls Try.prog 24 #[v] w fun x w' => x = .returned (.tuple #[.slice none 0 0, .bool false, .int .i64 0, .int .i64 10]) ∧ Kept w w' := by
  obtain ⟨a, cap, rfl, h1, h2, h3⟩ := h.len
  rw [hp]
  clear hp
  go_enter Try.func24, Try.ntmps24
  go_wp2
  ((try simp only [Exit.inBlock, Exit.then]); refine bodyPost_ret (results4 rfl _ _ _) rfl ?_)
  exact ⟨rfl, Kept.refl _⟩

theorem takeOpt_none (v : Value) (zs : List Int) (w : World) (h : Rd w v zs) (hp : 0 < zs.length) (h0 : zs.getD 0 0 = 0) :
    Calls Try.prog 24 #[v] w fun x w' => x = .returned (.tuple #[.slice none 0 0, .bool false, .int .i64 1, .int .i64 0]) ∧ Kept w w' := by
  obtain ⟨b, off, cap, rfl, hc, hm, hbw, hcell⟩ := h.addr hp
  have c0 := hcell 0 hp
  have HX := Lib.hid hcell; clear hcell
  rw [h0] at c0
  simp only [Nat.add_zero] at c0
  have HXX := Lib.hid h0; clear h0
  have hne : ((zs.length : Int) == 0) = false := by rw [beq_eq_false_iff_ne]; omega
  unfold maxLen at hm
  go_enter Try.func24, Try.ntmps24
  go_wp2
  ((try simp only [Exit.inBlock, Exit.then]); refine bodyPost_ret (results4 rfl _ _ _) rfl ?_)
  exact ⟨rfl, Kept.refl _⟩

theorem takeOpt_bad (v : Value) (zs : List Int) (w : World) (h : Rd w v zs) (hp : 0 < zs.length) (h0 : zs.getD 0 0 ≠ 0) (h1 : zs.getD 0 0 ≠ 1) :
    Calls Try.prog 24 #[v] w fun x w' => x = .returned (.tuple #[.slice none 0 0, .bool false, .int .i64 0, .int .i64 11]) ∧ Kept w w' := by
  obtain ⟨b, off, cap, rfl, hc, hm, hbw, hcell⟩ := h.addr hp
  have c0 := hcell 0 hp
  have HX := Lib.hid hcell; clear hcell
  generalize zs.getD 0 0 = x0 at *
  simp only [Nat.add_zero] at c0
  have h0' : (x0 == 0) = false := by rw [beq_eq_false_iff_ne]; exact h0
  have h1' : (x0 == 1) = false := by rw [beq_eq_false_iff_ne]; exact h1
  clear h0 h1
  have hne : ((zs.length : Int) == 0) = false := by rw [beq_eq_false_iff_ne]; omega
  unfold maxLen at hm
  go_enter Try.func24, Try.ntmps24
  go_wp2
  ((try simp only [Exit.inBlock, Exit.then]); refine bodyPost_ret (results4 rfl _ _ _) rfl ?_)
  exact ⟨rfl, Kept.refl _⟩

theorem takeOpt_err (v : Value) (zs : List Int) (w : World) (h : Rd w v zs) (hb : By zs) (hp : 0 < zs.length) (h0 : zs.getD 0 0 = 1) (e : Int)
    (hne : e ≠ 0) (HC : ∀ v1 w, Rd w v1 (zs.drop 1) → Calls Try.prog 33 #[v1] w fun x w' => x = .returned (.tuple #[.slice none 0 0, .int .i64 0, .int .i64 e]) ∧ Kept w w') :
    Calls Try.prog 24 #[v] w fun x w' => x = .returned (.tuple #[.slice none 0 0, .bool false, .int .i64 0, .int .i64 e]) ∧ Kept w w' := by
  have hr := h
  obtain ⟨b, off, cap, rfl, hc, hm, hbw, hcell⟩ := h.addr hp
  have c0 := hcell 0 hp
  have HX := Lib.hid hcell; clear hcell
  rw [h0] at c0
  simp only [Nat.add_zero] at c0
  have HXX := Lib.hid h0; clear h0
  have hne0 : ((zs.length : Int) == 0) = false := by rw [beq_eq_false_iff_ne]; omega
  have hne' : (e != 0) = true := by rw [bne_iff_ne]; exact hne
  clear hne
  unfold maxLen at hm
  have HD := Lib.hid HC; clear HC
  go_enter Try.func24, Try.ntmps24
  go_wp2_with (first | ((with_reducible refine go_cut_1 _ zs ?_ hr ?_ hp ?_); rfl; rfl; intro v' hv') | (go_at_call 33; refine (HD.out _ _ hv').mono ?_; rintro e w1 ⟨rfl, hk⟩))
  ((try simp only [Exit.inBlock, Exit.then]); refine bodyPost_ret (results4 rfl _ _ _) rfl ?_)
  exact ⟨rfl, hk⟩

theorem takeOpt_ok (v : Value) (zs : List Int) (w : World) (h : Rd w v zs) (hb : By zs) (hp : 0 < zs.length) (h0 : zs.getD 0 0 = 1) (n k : Int) (ht : takeI (zs.drop 1) = (n, k, 0)) (hs : n ≤ (zs.drop 1).length - k) (hl : zs.length ≤ 2147483648) :
    Calls Try.prog 24 #[v] w fun x w' => ∃ v', x = .returned (.tuple #[v', .bool true, .int .i64 (1 + (k + n)), .int .i64 0]) ∧ Own w.heap.size 5 w' v' (((zs.drop 1).take (k + n).toNat).drop k.toNat) ∧ Kept w w' := by
  have hr := h
  obtain ⟨p1, p2, p3, p4⟩ := takeI_ok (hb.drop 1) (by rw [ht])
  rw [ht] at p1 p2 p3 p4
  dsimp only at p1 p2 p3 p4
  have hln : ((zs.drop 1).length : Int) ≤ 2147483648 := by simp; omega
  have HC : ∀ v1 w, Rd w v1 (zs.drop 1) → _ := fun v1 w hr1 => takeBytes_ok v1 (zs.drop 1) w hr1 (hb.drop 1) n k ht hs (by omega)
  obtain ⟨b, off, cap, rfl, hc, hm, hbw, hcell⟩ := h.addr hp
  have c0 := hcell 0 hp
  have HX := Lib.hid hcell; clear hcell
  rw [h0] at c0
  simp only [Nat.add_zero] at c0
  have HXX := Lib.hid h0; clear h0
  have hne0 : ((zs.length : Int) == 0) = false := by rw [beq_eq_false_iff_ne]; omega
  unfold maxLen at hm
  have HD := Lib.hid HC; clear HC
  clear ht
  go_enter Try.func24, Try.ntmps24
  go_wp2_with (first | ((with_reducible refine go_cut_1 _ zs ?_ hr ?_ hp ?_); rfl; rfl; intro v' hv') | (go_at_call 33; refine (HD.out _ _ hv').mono ?_; rintro e w1 ⟨v1, rfl, ho, hk⟩))
  ((try simp only [Exit.inBlock, Exit.then]); refine bodyPost_ret (results4 rfl _ _ _) rfl ?_)
  exact ⟨_, rfl, ho, hk⟩
end Go.Proofs.Ythjjmadfdfjjdaa
