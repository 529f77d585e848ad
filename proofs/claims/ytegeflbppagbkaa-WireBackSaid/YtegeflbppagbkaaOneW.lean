/- The walk of the statement on what is read. -/
import Derived.Test.YtegeflbppagbkaaOneP
set_option linter.unusedSimpArgs false
set_option linter.unusedVariables false
namespace Go.Proofs.Ytegeflbppagbkaa
open Go.RowKit

theorem split_look (v : Value) (zs : List Int) (w : World) (e : Int) (hne : e ≠ 0)
    (HL : ∀ w, Rd w v zs → Calls Try.prog 15 #[v] w fun x w' => x = .returned (.tuple #[.slice none 0 0, .int .i64 0, .int .i64 e]) ∧ Kept w w') (h : Rd w v zs) :
    Calls Try.prog 7 #[v] w fun x w' => x = .returned (.tuple #[.slice none 0 0, .int .i64 0, .int .i64 e]) ∧ Kept w w' := by
  have HC := Lib.hid (HL w h)
  have hn : (e != 0) = true := by rw [bne_iff_ne]; exact hne
  clear HL hne
  go_enter Try.func7, Try.ntmps7
  go_wp2_with (go_at_call 15; refine HC.out.mono ?_; rintro e w1 ⟨rfl, hk1⟩)
  go_ret3
  exact ⟨rfl, hk1⟩

/-- wire.Split, of whatever bytes. -/
def SplitGives (zs : List Int) (w : World) (x : Ending) (w' : World) : Prop :=
  (∃ e : Int, e ≠ 0 ∧ x = .returned (.tuple #[.slice none 0 0, .int .i64 0, .int .i64 e])) ∨
  (∃ (v' : Value) (yss : List (List Int)) (n k : Int), takeI zs = (n, k, 0) ∧ n ≤ zs.length - k ∧ (zs.take (k + n).toNat).drop k.toNat = vecs yss ∧ x = .returned (.tuple #[v', .int .i64 (k + n), .int .i64 0]) ∧ Rds w' v' yss)

theorem split_any (v : Value) (zs : List Int) (w : World) (h : Rd w v zs) (hb : By zs) (hl : zs.length ≤ 2147483648) :
    Calls Try.prog 7 #[v] w fun x w' => SplitGives zs w x w' ∧ Kept w w' := by
  by_cases h1 : (takeI zs).2.2 = 0
  · obtain ⟨n, k, ht⟩ : ∃ n k, takeI zs = (n, k, 0) := ⟨(takeI zs).1, (takeI zs).2.1, by rw [← h1]⟩
    by_cases h2 : zs.length - k < n
    · exact (split_look v zs w 10 (by omega) (fun w hr => look_short v zs w hr hb n k ht h2) h).mono fun x w' ⟨hx, hk⟩ => ⟨.inl ⟨10, by omega, hx⟩, hk⟩
    · obtain ⟨yss, tail, hy, htl⟩ := parse _ _ (Nat.le_refl _) ((hb.take (k + n).toNat).drop k.toNat)
      rcases htl with rfl | ⟨hne, hbad⟩
      · rw [List.append_nil] at hy
        exact (split_ok v zs w h hb hl n k ht (by omega) yss hy).mono fun x w' ⟨v', hx, hr, hk⟩ => ⟨.inr ⟨v', yss, n, k, ht, by omega, hy, hx, hr⟩, hk⟩
      · have hbt : By tail := by
          have := (hb.take (k + n).toNat).drop k.toNat
          rw [hy] at this
          exact this.right
        obtain ⟨e, he, HT⟩ := takeBytes_bad tail hbt hbad
        exact (split_bad v zs w h hb hl n k ht (by omega) yss tail hne e he HT hy).mono fun x w' ⟨hx, hk⟩ => ⟨.inl ⟨11, by omega, hx⟩, hk⟩
  · exact (split_look v zs w _ h1 (fun w hr => look_err v zs w hr hb _ rfl h1) h).mono fun x w' ⟨hx, hk⟩ => ⟨.inl ⟨_, h1, hx⟩, hk⟩

/-- wire.TakeOpt, of whatever bytes. -/
def OptGives (zs : List Int) (w : World) (x : Ending) (w' : World) : Prop :=
  (∃ e : Int, e ≠ 0 ∧ x = .returned (.tuple #[.slice none 0 0, .bool false, .int .i64 0, .int .i64 e])) ∨
  (0 < zs.length ∧ zs.getD 0 0 = 0 ∧ x = .returned (.tuple #[.slice none 0 0, .bool false, .int .i64 1, .int .i64 0])) ∨
  (∃ (v' : Value) (n k : Int), 0 < zs.length ∧ zs.getD 0 0 = 1 ∧ takeI (zs.drop 1) = (n, k, 0) ∧ n ≤ (zs.drop 1).length - k ∧ x = .returned (.tuple #[v', .bool true, .int .i64 (1 + (k + n)), .int .i64 0]) ∧
    Own w.heap.size 5 w' v' (((zs.drop 1).take (k + n).toNat).drop k.toNat))

/-- The cut b[:k], and what it says. -/
theorem cutk {w : World} {a : Option Addr} {cap : Nat} {zs : List Int} (h : Rd w (.slice a zs.length cap) zs) {k : Int} (h1 : 1 ≤ k) (h2 : k ≤ zs.length) :
    a ≠ none ∧ Rd w (.slice a k.toNat cap) (zs.take k.toNat) := by
  have hc := h.cut (lo := 0) (hi := k.toNat) (by omega) (by omega)
  unfold sliced at hc
  rw [List.drop_zero] at hc
  simp only [Nat.zero_mul, Nat.sub_zero] at hc
  obtain ⟨b, off, c, hv, _⟩ := h.addr (by omega)
  simp only [Value.slice.injEq] at hv
  rw [hv.1] at hc ⊢
  have e0 : (if cap = 0 then some (⟨b, off, none⟩ : Addr) else (some (⟨b, off, none⟩ : Addr)).map (·.add 0)) = some ⟨b, off, none⟩ := by split <;> simp [Addr.add]
  rw [e0] at hc
  exact ⟨by simp, hc⟩

end Go.Proofs.Ytegeflbppagbkaa
