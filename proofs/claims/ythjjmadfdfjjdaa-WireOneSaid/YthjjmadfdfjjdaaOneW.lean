/- The walk of the statement on what is read. -/
import Derived.Test.YthjjmadfdfjjdaaOneP
set_option linter.unusedSimpArgs false
set_option linter.unusedVariables false
namespace Go.Proofs.Ythjjmadfdfjjdaa
open Go.RowKit

theorem split_look (v : Value) (zs : List Int) (w : World) (e : Int) (hne : e ≠ 0)
    (HL : ∀ w, Rd w v zs → Calls Try.prog 32 #[v] w fun x w' => x = .returned (.tuple #[.slice none 0 0, .int .i64 0, .int .i64 e]) ∧ Kept w w') (h : Rd w v zs) :
    Calls Try.prog 21 #[v] w fun x w' => x = .returned (.tuple #[.slice none 0 0, .int .i64 0, .int .i64 e]) ∧ Kept w w' := by
  have HC := Lib.hid (HL w h)
  have hn : (e != 0) = true := by rw [bne_iff_ne]; exact hne
  clear HL hne
  go_enter Try.func21, Try.ntmps21
  go_wp2_with (go_at_call 32; refine HC.out.mono ?_; rintro e w1 ⟨rfl, hk1⟩)
  go_ret3
  exact ⟨rfl, hk1⟩

/-- wire.Split, of whatever bytes. -/
def SplitGives (zs : List Int) (w : World) (x : Ending) (w' : World) : Prop :=
  (∃ e : Int, e ≠ 0 ∧ x = .returned (.tuple #[.slice none 0 0, .int .i64 0, .int .i64 e])) ∨
  (∃ (v' : Value) (yss : List (List Int)) (n k : Int), takeI zs = (n, k, 0) ∧ n ≤ zs.length - k ∧ (zs.take (k + n).toNat).drop k.toNat = vecs yss ∧ x = .returned (.tuple #[v', .int .i64 (k + n), .int .i64 0]) ∧ Rds w' v' yss)

theorem split_any (v : Value) (zs : List Int) (w : World) (h : Rd w v zs) (hb : By zs) (hl : zs.length ≤ 2147483648) :
    Calls Try.prog 21 #[v] w fun x w' => SplitGives zs w x w' ∧ Kept w w' := by
  by_cases h1 : (takeI zs).2.2 = 0
  · obtain ⟨n, k, ht⟩ : ∃ n k, takeI zs = (n, k, 0) := ⟨(takeI zs).1, (takeI zs).2.1, by rw [← h1]⟩
    by_cases h2 : zs.length - k < n
    · exact (split_look v zs w 10 (by omega) (fun w hr => look_short v zs w hr hb n k ht h2) h).mono fun x w' ⟨hx, hk⟩ => ⟨.inl ⟨10, by omega, hx⟩, hk⟩
    · obtain ⟨yss, tail, hy, htl⟩ := parse _ _ (Nat.le_refl _) ((hb.take (k + n).toNat).drop k.toNat)
      rcases htl with rfl | ⟨hne, hbad⟩
      · rw [List.append_nil] at hy
        exact (split_ok v zs w h hb hl n k ht (by omega) yss hy).mono fun x w' ⟨v', hx, hr, hk⟩ => ⟨.inr ⟨v', yss, n, k, ht, by omega, hy, hx, hr⟩, hk⟩
      · have hbt : By tail := by
          have := (hb.take (k + n).toNat).drop k.toNat
          rw [hy] at this
          exact this.right
        obtain ⟨e, he, HT⟩ := takeBytes_bad tail hbt hbad
        exact (split_bad v zs w h hb hl n k ht (by omega) yss tail hne e he HT hy).mono fun x w' ⟨hx, hk⟩ => ⟨.inl ⟨11, by omega, hx⟩, hk⟩
  · exact (split_look v zs w _ h1 (fun w hr => look_err v zs w hr hb _ rfl h1) h).mono fun x w' ⟨hx, hk⟩ => ⟨.inl ⟨_, h1, hx⟩, hk⟩

/-- wire.TakeOpt, of whatever bytes. -/
def OptGives (zs : List Int) (w : World) (x : Ending) (w' : World) : Prop :=
  (∃ e : Int, e ≠ 0 ∧ x = .returned (.tuple #[.slice none 0 0, .bool false, .int .i64 0, .int .i64 e])) ∨
  (0 < zs.length ∧ zs.getD 0 0 = 0 ∧ x = .returned (.tuple #[.slice none 0 0, .bool false, .int .i64 1, .int .i64 0])) ∨
  (∃ (v' : Value) (n k : Int), 0 < zs.length ∧ zs.getD 0 0 = 1 ∧ takeI (zs.drop 1) = (n, k, 0) ∧ n ≤ (zs.drop 1).length - k ∧ x = .returned (.tuple #[v', .bool true, .int .i64 (1 + (k + n)), .int .i64 0]) ∧
    Own w.heap.size 5 w' v' (((zs.drop 1).take (k + n).toNat).drop k.toNat))

theorem takeOpt_any (v : Value) (zs : List Int) (w : World) (h : Rd w v zs) (hb : By zs) (hl : zs.length ≤ 2147483648) :
    Calls Try.prog 24 #[v] w fun x w' => OptGives zs w x w' ∧ Kept w w' := by
  by_cases h0 : zs.length = 0
  · exact (takeOpt_0 v zs w h h0).mono fun x w' ⟨hx, hk⟩ => ⟨.inl ⟨10, by omega, hx⟩, hk⟩
  by_cases c0 : zs.getD 0 0 = 0
  · exact (takeOpt_none v zs w h (by omega) c0).mono fun x w' ⟨hx, hk⟩ => ⟨.inr (.inl ⟨by omega, c0, hx⟩), hk⟩
  by_cases c1 : zs.getD 0 0 = 1
  · by_cases h1 : (takeI (zs.drop 1)).2.2 = 0
    · obtain ⟨n, k, ht⟩ : ∃ n k, takeI (zs.drop 1) = (n, k, 0) := ⟨(takeI (zs.drop 1)).1, (takeI (zs.drop 1)).2.1, by rw [← h1]⟩
      by_cases h2 : (zs.drop 1).length - k < n
      · exact (takeOpt_err v zs w h hb (by omega) c1 10 (by omega) (fun v1 w hr => takeBytes_short v1 _ w hr (hb.drop 1) n k ht h2)).mono fun x w' ⟨hx, hk⟩ => ⟨.inl ⟨10, by omega, hx⟩, hk⟩
      · exact (takeOpt_ok v zs w h hb (by omega) c1 n k ht (by omega) hl).mono fun x w' ⟨v', hx, ho, hk⟩ => ⟨.inr (.inr ⟨v', n, k, by omega, c1, ht, by omega, hx, ho⟩), hk⟩
    · exact (takeOpt_err v zs w h hb (by omega) c1 _ h1 (fun v1 w hr => takeBytes_err v1 _ w hr (hb.drop 1) _ rfl h1)).mono fun x w' ⟨hx, hk⟩ => ⟨.inl ⟨_, h1, hx⟩, hk⟩
  · exact (takeOpt_bad v zs w h (by omega) c0 c1).mono fun x w' ⟨hx, hk⟩ => ⟨.inl ⟨11, by omega, hx⟩, hk⟩

/-- The cut b[:k], and what it says. -/
theorem cutk {w : World} {a : Option Addr} {cap : Nat} {zs : List Int} (h : Rd w (.slice a zs.length cap) zs) {k : Int} (h1 : 1 ≤ k) (h2 : k ≤ zs.length) :
    a ≠ none ∧ Rd w (.slice a k.toNat cap) (zs.take k.toNat) := by
  have hc := h.cut (lo := 0) (hi := k.toNat) (by omega) (by omega)
  unfold sliced at hc
  rw [List.drop_zero] at hc
  simp only [Nat.zero_mul, Nat.sub_zero] at hc
  obtain ⟨b, off, c, hv, _⟩ := h.addr (by omega)
  simp only [Value.slice.injEq] at hv
  rw [hv.1] at hc ⊢
  have e0 : (if cap = 0 then some (⟨b, off, none⟩ : Addr) else (some (⟨b, off, none⟩ : Addr)).map (·.add 0)) = some ⟨b, off, none⟩ := by split <;> simp [Addr.add]
  rw [e0] at hc
  exact ⟨by simp, hc⟩

set_option maxRecDepth 100000 in
set_option maxHeartbeats 4000000 in
theorem one_big (v : Value) (zs : List Int) (w : World) (h : Rd w v zs) (hb : By zs) (hl : (zs.length : Int) ≤ 140737488351232) (hg : 100000 ≤ (zs.length : Int)) :
    Calls Try.prog 5 #[v] w fun e w' => e = .returned (.bool true) ∧ Kept w w' := by
  have hr := h
  obtain ⟨a, cap, rfl, h1, h2, h3⟩ := h.len
  have HR := Lib.hid hr
  have HBG := Lib.hid (fun w1 (hk : Kept w w1) => big_any _ [zs] _ (Rds.lit1 26 (hr.kept hk)) (by rw [lsum_one]; omega))
  have e0 : decide (100000 < lsum bigN [zs]) = true := by rw [lsum_one]; simp; omega
  rw [e0] at HBG
  clear e0 hr
  go_enter Try.func5, Try.ntmps5
  go_wp2_with fail
  refine (live_any _).mono ?_
  rintro e w0 ⟨rfl, hk0⟩
  go_wp2_with fail
  refine (HBG.out _ hk0).mono ?_
  rintro e w1 ⟨rfl, rfl⟩
  have hk1 := hk0.alloc (.cells #[Value.slice a zs.length cap] 26)
  clear HBG
  go_wp2_with fail
  go_ret
  exact ⟨rfl, hk1⟩

set_option maxRecDepth 100000 in
set_option maxHeartbeats 4000000 in
theorem one_small_err (v : Value) (zs : List Int) (w : World) (h : Rd w v zs) (hb : By zs) (hg : (zs.length : Int) < 100000) (n k e : Int) (htk : takeI zs = (n, k, e)) (he : e ≠ 0) :
    Calls Try.prog 5 #[v] w fun e w' => e = .returned (.bool true) ∧ Kept w w' := by
  have hr := h
  obtain ⟨a, cap, rfl, h1, h2, h3⟩ := h.len
  have HR := Lib.hid hr
  have HBG := Lib.hid (fun w1 (hk : Kept w w1) => big_any _ [zs] _ (Rds.lit1 26 (hr.kept hk)) (by rw [lsum_one]; omega))
  have e0 : decide (100000 < lsum bigN [zs]) = false := by rw [lsum_one]; simp; omega
  rw [e0] at HBG
  clear e0 hr
  go_enter Try.func5, Try.ntmps5
  go_wp2_with fail
  refine (live_any _).mono ?_
  rintro e w0 ⟨rfl, hk0⟩
  go_wp2_with fail
  refine (HBG.out _ hk0).mono ?_
  rintro e w1 ⟨rfl, rfl⟩
  have hk1 := hk0.alloc (.cells #[Value.slice a zs.length cap] 26)
  clear HBG
  have HB := Lib.hid hb
  have HC1 := takeInt_any _ zs _ (HR.out.kept hk1) hb
  rw [htk] at HC1
  have HC1 := Lib.hid HC1
  go_wp2_with fail
  refine HC1.out.mono ?_
  rintro e w2 ⟨rfl, hk2⟩
  have hk12 := hk1.trans hk2
  have hne : (e == 0) = false := by rw [beq_eq_false_iff_ne]; exact he
  clear htk he HC1
  go_wp2_with fail
  refine (split_any _ zs _ (HR.out.kept hk12) HB.out (by omega)).mono ?_
  rintro e w5 ⟨hsp, hk5⟩
  have hks := hk12.trans hk5
  rcases hsp with ⟨e, hne, rfl⟩ | ⟨v5, yss, n5, k5, ht5, hs5, hy5, rfl, hr5⟩
  · have hne' : (e == 0) = false := by rw [beq_eq_false_iff_ne]; exact hne
    clear hne
    go_wp2_with fail
    refine (takeOpt_any _ zs _ (HR.out.kept hks) HB.out (by omega)).mono ?_
    rintro e w7 ⟨hop, hk7⟩
    have hkt := hks.trans hk7
    rcases hop with ⟨e, hne, rfl⟩ | ⟨hl0, hz0, rfl⟩ | ⟨v7, n7, k7, hl0, hz0, ht7, hs7, rfl, ho7⟩
    · have hne' : (e != 0) = true := by rw [bne_iff_ne]; exact hne
      clear hne
      go_wp2_with fail
      go_ret
      exact ⟨rfl, hkt⟩
    · have hL := opt_none (.slice none 0 0) w7
      go_wp2_with fail
      refine hL.mono ?_
      rintro e w8 ⟨v8, rfl, ho8, hk8⟩
      have hkz := hkt.trans hk8
      obtain ⟨hna, hcut⟩ := cutk (HR.out.kept hkz) (k := 1) (by omega) (by omega)
      have e1 : zs.take (1 : Int).toNat = [0] := by
        obtain ⟨x, r, rfl⟩ := list1 zs hl0
        have : x = 0 := hz0
        subst this; rfl
      rw [e1, show (1 : Int).toNat = 1 from rfl] at hcut
      have hs1 := strs hcut
      have hs8 := strs ho8.rd
      have hcz : ¬ cap = 0 := by omega
      clear hcut ho8 e1 hz0
      generalize strOfNums [0] = s1 at *
      have d1 : decide ((1 : Int) ≤ (zs.length : Int)) = true := decide_eq_true (by omega)
      have d2 : decide (1 ≤ zs.length) = true := decide_eq_true (by omega)
      have d3 : decide (0 < zs.length) = true := decide_eq_true (by omega)
      have q4 : (1 : Int) ≤ (cap : Int) := by omega
      have q5 : 1 ≤ cap := by omega
      have q6 : 0 < cap := by omega
      (try (obtain ⟨ad, rfl⟩ : ∃ ad, a = some ad := by cases a with | none => exact absurd rfl hna | some x => exact ⟨x, rfl⟩))
      go_wp2_with fail
      go_quiet (fail)
      go_wp2_with fail
      go_ret
      exact ⟨rfl, hkz.drewN _⟩
    · obtain ⟨p1, p2, p3, p4⟩ : 0 ≤ n7 ∧ n7 < 1073741824 ∧ 1 ≤ k7 ∧ k7 ≤ (zs.drop 1).length := by
        have := takeI_ok (HB.out.drop 1) (by rw [ht7])
        rw [ht7] at this
        exact this
      have hdl : ((zs.drop 1).length : Int) = zs.length - 1 := by rw [List.length_drop]; omega
      have hv7 := vecB_take (HB.out.drop 1) ht7 hs7
      have hpl : ((((zs.drop 1).take (k7 + n7).toNat).drop k7.toNat).length : Int) < 1073741824 := by
        simp only [List.length_drop, List.length_take]; omega
      have hL := Lib.hid (opt_ok v7 _ w7 ho7.rd hpl)
      rw [hv7] at hL
      have e1 : zs.take (1 + (k7 + n7)).toNat = 1 :: (zs.drop 1).take (k7 + n7).toNat := by
        obtain ⟨x, r, rfl⟩ := list1 zs hl0
        have : x = 1 := hz0
        subst this
        have e2 : (1 + (k7 + n7)).toNat = (k7 + n7).toNat + 1 := by omega
        rw [e2]; rfl
      clear hv7 hpl ho7 ht7 hz0
      have q1 : 1 ≤ 1 + (k7 + n7) := by omega
      have q2 : 1 + (k7 + n7) ≤ zs.length := by omega
      go_wp2_with fail
      refine hL.out.mono ?_
      rintro e w8 ⟨v8, rfl, ho8, hk8⟩
      have hkz := hkt.trans hk8
      obtain ⟨hna, hcut⟩ := cutk (HR.out.kept hkz) q1 q2
      rw [← e1] at ho8
      have hs1 := strs hcut
      have hs8 := strs ho8.rd
      have hcz : ¬ cap = 0 := by omega
      clear hcut ho8 e1 hdl
      generalize strOfNums (zs.take (1 + (k7 + n7)).toNat) = s1 at *
      generalize 1 + (k7 + n7) = kk at *
      have d1 : decide (1 ≤ kk) = true := decide_eq_true q1
      have d2 : decide (kk ≤ (zs.length : Int)) = true := decide_eq_true q2
      have q3 : 0 ≤ kk := by omega
      have q4 : kk ≤ (cap : Int) := by omega
      (try (obtain ⟨ad, rfl⟩ : ∃ ad, a = some ad := by cases a with | none => exact absurd rfl hna | some x => exact ⟨x, rfl⟩))
      go_wp2_with fail
      go_quiet (fail)
      go_wp2_with fail
      go_ret
      exact ⟨rfl, hkz.drewN _⟩
  · obtain ⟨p1, p2, p3, p4⟩ : 0 ≤ n5 ∧ n5 < 1073741824 ∧ 1 ≤ k5 ∧ k5 ≤ zs.length := by
      have := takeI_ok HB.out (by rw [ht5])
      rw [ht5] at this
      exact this
    have hv5 := vecB_take HB.out ht5 hs5
    have hn5 : lsum vsz yss = n5 := by
      rw [← vecs_length, ← hy5, List.length_drop, List.length_take]; omega
    have hJ := Lib.hid (join_ok v5 yss w5 hr5 (by rw [hn5]; exact p2))
    rw [← hy5, hv5] at hJ
    clear hv5 hn5 hy5 ht5 hr5
    have q1 : 1 ≤ k5 + n5 := by omega
    have q2 : k5 + n5 ≤ zs.length := by omega
    generalize k5 + n5 = kk5 at *
    go_wp2_with fail
    refine hJ.out.mono ?_
    rintro e w6 ⟨v6, rfl, ho6, hk6⟩
    have hkj := hks.trans hk6
    obtain ⟨hna5, hcut⟩ := cutk (HR.out.kept hkj) q1 q2
    have hs5' := strs hcut
    have hs6 := strs ho6.rd
    have hcz5 : ¬ cap = 0 := by omega
    clear hcut ho6 hJ
    generalize strOfNums (zs.take kk5.toNat) = s5 at *
    have d5 : decide (kk5 < 1) = false := decide_eq_false (by omega)
    have d6 : decide ((zs.length : Int) < kk5) = false := decide_eq_false (by omega)
    have q3 : 0 ≤ kk5 := by omega
    have q4 : kk5 ≤ (cap : Int) := by omega
    (try (obtain ⟨ad, rfl⟩ : ∃ ad, a = some ad := by cases a with | none => exact absurd rfl hna5 | some x => exact ⟨x, rfl⟩))
    clear hna5
    go_wp2_with fail
    go_quiet (fail)
    have hkj' := Lib.hid (fun n => hkj.drewN n)
    go_wp2_with fail
    refine (takeOpt_any _ zs _ (HR.out.kept (hkj'.out _)) HB.out (by omega)).mono ?_
    rintro e w7 ⟨hop, hk7⟩
    have hkt := (hkj'.out _).trans hk7
    rcases hop with ⟨e, hne, rfl⟩ | ⟨hl0, hz0, rfl⟩ | ⟨v7, n7, k7, hl0, hz0, ht7, hs7, rfl, ho7⟩
    · have hne' : (e != 0) = true := by rw [bne_iff_ne]; exact hne
      clear hne
      go_wp2_with fail
      go_ret
      exact ⟨rfl, hkt⟩
    · have hL := opt_none (.slice none 0 0) w7
      go_wp2_with fail
      refine hL.mono ?_
      rintro e w8 ⟨v8, rfl, ho8, hk8⟩
      have hkz := hkt.trans hk8
      obtain ⟨hna, hcut⟩ := cutk (HR.out.kept hkz) (k := 1) (by omega) (by omega)
      have e1 : zs.take (1 : Int).toNat = [0] := by
        obtain ⟨x, r, rfl⟩ := list1 zs hl0
        have : x = 0 := hz0
        subst this; rfl
      rw [e1, show (1 : Int).toNat = 1 from rfl] at hcut
      have hs1 := strs hcut
      have hs8 := strs ho8.rd
      have hcz : ¬ cap = 0 := by omega
      clear hcut ho8 e1 hz0
      generalize strOfNums [0] = s1 at *
      have d1 : decide ((1 : Int) ≤ (zs.length : Int)) = true := decide_eq_true (by omega)
      have d2 : decide (1 ≤ zs.length) = true := decide_eq_true (by omega)
      have d3 : decide (0 < zs.length) = true := decide_eq_true (by omega)
      have q4 : (1 : Int) ≤ (cap : Int) := by omega
      have q5 : 1 ≤ cap := by omega
      have q6 : 0 < cap := by omega
      (try (obtain ⟨ad, rfl⟩ : ∃ ad, a = some ad := by cases a with | none => exact absurd rfl hna | some x => exact ⟨x, rfl⟩))
      go_wp2_with fail
      go_quiet (fail)
      go_wp2_with fail
      go_ret
      exact ⟨rfl, hkz.drewN _⟩
    · obtain ⟨p1, p2, p3, p4⟩ : 0 ≤ n7 ∧ n7 < 1073741824 ∧ 1 ≤ k7 ∧ k7 ≤ (zs.drop 1).length := by
        have := takeI_ok (HB.out.drop 1) (by rw [ht7])
        rw [ht7] at this
        exact this
      have hdl : ((zs.drop 1).length : Int) = zs.length - 1 := by rw [List.length_drop]; omega
      have hv7 := vecB_take (HB.out.drop 1) ht7 hs7
      have hpl : ((((zs.drop 1).take (k7 + n7).toNat).drop k7.toNat).length : Int) < 1073741824 := by
        simp only [List.length_drop, List.length_take]; omega
      have hL := Lib.hid (opt_ok v7 _ w7 ho7.rd hpl)
      rw [hv7] at hL
      have e1 : zs.take (1 + (k7 + n7)).toNat = 1 :: (zs.drop 1).take (k7 + n7).toNat := by
        obtain ⟨x, r, rfl⟩ := list1 zs hl0
        have : x = 1 := hz0
        subst this
        have e2 : (1 + (k7 + n7)).toNat = (k7 + n7).toNat + 1 := by omega
        rw [e2]; rfl
      clear hv7 hpl ho7 ht7 hz0
      have q1 : 1 ≤ 1 + (k7 + n7) := by omega
      have q2 : 1 + (k7 + n7) ≤ zs.length := by omega
      go_wp2_with fail
      refine hL.out.mono ?_
      rintro e w8 ⟨v8, rfl, ho8, hk8⟩
      have hkz := hkt.trans hk8
      obtain ⟨hna, hcut⟩ := cutk (HR.out.kept hkz) q1 q2
      rw [← e1] at ho8
      have hs1 := strs hcut
      have hs8 := strs ho8.rd
      have hcz : ¬ cap = 0 := by omega
      clear hcut ho8 e1 hdl
      generalize strOfNums (zs.take (1 + (k7 + n7)).toNat) = s1 at *
      generalize 1 + (k7 + n7) = kk at *
      have d1 : decide (1 ≤ kk) = true := decide_eq_true q1
      have d2 : decide (kk ≤ (zs.length : Int)) = true := decide_eq_true q2
      have q3 : 0 ≤ kk := by omega
      have q4 : kk ≤ (cap : Int) := by omega
      (try (obtain ⟨ad, rfl⟩ : ∃ ad, a = some ad := by cases a with | none => exact absurd rfl hna | some x => exact ⟨x, rfl⟩))
      go_wp2_with fail
      go_quiet (fail)
      go_wp2_with fail
      go_ret
      exact ⟨rfl, hkz.drewN _⟩

set_option maxRecDepth 100000 in
set_option maxHeartbeats 4000000 in
theorem one_small_ok (v : Value) (zs : List Int) (w : World) (h : Rd w v zs) (hb : By zs) (hg : (zs.length : Int) < 100000) (n k e : Int) (htk : takeI zs = (n, k, e)) (he : e = 0) :
    Calls Try.prog 5 #[v] w fun e w' => e = .returned (.bool true) ∧ Kept w w' := by
  have hr := h
  obtain ⟨a, cap, rfl, h1, h2, h3⟩ := h.len
  have HR := Lib.hid hr
  have HBG := Lib.hid (fun w1 (hk : Kept w w1) => big_any _ [zs] _ (Rds.lit1 26 (hr.kept hk)) (by rw [lsum_one]; omega))
  have e0 : decide (100000 < lsum bigN [zs]) = false := by rw [lsum_one]; simp; omega
  rw [e0] at HBG
  clear e0 hr
  go_enter Try.func5, Try.ntmps5
  go_wp2_with fail
  refine (live_any _).mono ?_
  rintro e w0 ⟨rfl, hk0⟩
  go_wp2_with fail
  refine (HBG.out _ hk0).mono ?_
  rintro e w1 ⟨rfl, rfl⟩
  have hk1 := hk0.alloc (.cells #[Value.slice a zs.length cap] 26)
  clear HBG
  have HB := Lib.hid hb
  have HC1 := takeInt_any _ zs _ (HR.out.kept hk1) hb
  rw [htk] at HC1
  have HC1 := Lib.hid HC1
  go_wp2_with fail
  refine HC1.out.mono ?_
  rintro e w2 ⟨rfl, hk2⟩
  have hk12 := hk1.trans hk2
  subst he
  have hheq : ((0 : Int) == 0) = true := rfl
  obtain ⟨p1, p2, p3, p4⟩ : 0 ≤ n ∧ n < 1073741824 ∧ 1 ≤ k ∧ k ≤ zs.length := by
    have := takeI_ok HB.out (by rw [htk])
    rw [htk] at this
    exact this
  have hib := ib_takeI HB.out htk
  have HI := Lib.hid (fun w => int_ok n w p1 p2)
  rw [hib] at HI
  clear htk hib HC1
  go_wp2_with fail
  refine (HI.out _).mono ?_
  rintro e w3 ⟨v3, rfl, ho3, hk3⟩
  have hki := hk12.trans hk3
  obtain ⟨hna0, hcut⟩ := cutk (HR.out.kept hki) p3 p4
  have hs0 := strs hcut
  have hs3 := strs ho3.rd
  have hcz0 : ¬ cap = 0 := by omega
  clear hcut ho3 HI
  generalize strOfNums (zs.take k.toNat) = s0 at *
  have d7 : decide (k < 1) = false := decide_eq_false (by omega)
  have d8 : decide ((zs.length : Int) < k) = false := decide_eq_false (by omega)
  have q7 : 0 ≤ k := by omega
  have q8 : k ≤ (cap : Int) := by omega
  (try (obtain ⟨ad, rfl⟩ : ∃ ad, a = some ad := by cases a with | none => exact absurd rfl hna0 | some x => exact ⟨x, rfl⟩))
  clear hna0
  go_wp2_with fail
  go_quiet (fail)
  have hki' := Lib.hid (fun n => hki.drewN n)
  go_wp2_with fail
  refine (split_any _ zs _ (HR.out.kept (hki'.out _)) HB.out (by omega)).mono ?_
  rintro e w5 ⟨hsp, hk5⟩
  have hks := (hki'.out _).trans hk5
  rcases hsp with ⟨e, hne, rfl⟩ | ⟨v5, yss, n5, k5, ht5, hs5, hy5, rfl, hr5⟩
  · have hne' : (e == 0) = false := by rw [beq_eq_false_iff_ne]; exact hne
    clear hne
    go_wp2_with fail
    refine (takeOpt_any _ zs _ (HR.out.kept hks) HB.out (by omega)).mono ?_
    rintro e w7 ⟨hop, hk7⟩
    have hkt := hks.trans hk7
    rcases hop with ⟨e, hne, rfl⟩ | ⟨hl0, hz0, rfl⟩ | ⟨v7, n7, k7, hl0, hz0, ht7, hs7, rfl, ho7⟩
    · have hne' : (e != 0) = true := by rw [bne_iff_ne]; exact hne
      clear hne
      go_wp2_with fail
      go_ret
      exact ⟨rfl, hkt⟩
    · have hL := opt_none (.slice none 0 0) w7
      go_wp2_with fail
      refine hL.mono ?_
      rintro e w8 ⟨v8, rfl, ho8, hk8⟩
      have hkz := hkt.trans hk8
      obtain ⟨hna, hcut⟩ := cutk (HR.out.kept hkz) (k := 1) (by omega) (by omega)
      have e1 : zs.take (1 : Int).toNat = [0] := by
        obtain ⟨x, r, rfl⟩ := list1 zs hl0
        have : x = 0 := hz0
        subst this; rfl
      rw [e1, show (1 : Int).toNat = 1 from rfl] at hcut
      have hs1 := strs hcut
      have hs8 := strs ho8.rd
      have hcz : ¬ cap = 0 := by omega
      clear hcut ho8 e1 hz0
      generalize strOfNums [0] = s1 at *
      have d1 : decide ((1 : Int) ≤ (zs.length : Int)) = true := decide_eq_true (by omega)
      have d2 : decide (1 ≤ zs.length) = true := decide_eq_true (by omega)
      have d3 : decide (0 < zs.length) = true := decide_eq_true (by omega)
      have q4 : (1 : Int) ≤ (cap : Int) := by omega
      have q5 : 1 ≤ cap := by omega
      have q6 : 0 < cap := by omega
      (try (obtain ⟨ad, rfl⟩ : ∃ ad, a = some ad := by cases a with | none => exact absurd rfl hna | some x => exact ⟨x, rfl⟩))
      go_wp2_with fail
      go_quiet (fail)
      go_wp2_with fail
      go_ret
      exact ⟨rfl, hkz.drewN _⟩
    · obtain ⟨p1, p2, p3, p4⟩ : 0 ≤ n7 ∧ n7 < 1073741824 ∧ 1 ≤ k7 ∧ k7 ≤ (zs.drop 1).length := by
        have := takeI_ok (HB.out.drop 1) (by rw [ht7])
        rw [ht7] at this
        exact this
      have hdl : ((zs.drop 1).length : Int) = zs.length - 1 := by rw [List.length_drop]; omega
      have hv7 := vecB_take (HB.out.drop 1) ht7 hs7
      have hpl : ((((zs.drop 1).take (k7 + n7).toNat).drop k7.toNat).length : Int) < 1073741824 := by
        simp only [List.length_drop, List.length_take]; omega
      have hL := Lib.hid (opt_ok v7 _ w7 ho7.rd hpl)
      rw [hv7] at hL
      have e1 : zs.take (1 + (k7 + n7)).toNat = 1 :: (zs.drop 1).take (k7 + n7).toNat := by
        obtain ⟨x, r, rfl⟩ := list1 zs hl0
        have : x = 1 := hz0
        subst this
        have e2 : (1 + (k7 + n7)).toNat = (k7 + n7).toNat + 1 := by omega
        rw [e2]; rfl
      clear hv7 hpl ho7 ht7 hz0
      have q1 : 1 ≤ 1 + (k7 + n7) := by omega
      have q2 : 1 + (k7 + n7) ≤ zs.length := by omega
      go_wp2_with fail
      refine hL.out.mono ?_
      rintro e w8 ⟨v8, rfl, ho8, hk8⟩
      have hkz := hkt.trans hk8
      obtain ⟨hna, hcut⟩ := cutk (HR.out.kept hkz) q1 q2
      rw [← e1] at ho8
      have hs1 := strs hcut
      have hs8 := strs ho8.rd
      have hcz : ¬ cap = 0 := by omega
      clear hcut ho8 e1 hdl
      generalize strOfNums (zs.take (1 + (k7 + n7)).toNat) = s1 at *
      generalize 1 + (k7 + n7) = kk at *
      have d1 : decide (1 ≤ kk) = true := decide_eq_true q1
      have d2 : decide (kk ≤ (zs.length : Int)) = true := decide_eq_true q2
      have q3 : 0 ≤ kk := by omega
      have q4 : kk ≤ (cap : Int) := by omega
      (try (obtain ⟨ad, rfl⟩ : ∃ ad, a = some ad := by cases a with | none => exact absurd rfl hna | some x => exact ⟨x, rfl⟩))
      go_wp2_with fail
      go_quiet (fail)
      go_wp2_with fail
      go_ret
      exact ⟨rfl, hkz.drewN _⟩
  · obtain ⟨p1, p2, p3, p4⟩ : 0 ≤ n5 ∧ n5 < 1073741824 ∧ 1 ≤ k5 ∧ k5 ≤ zs.length := by
      have := takeI_ok HB.out (by rw [ht5])
      rw [ht5] at this
      exact this
    have hv5 := vecB_take HB.out ht5 hs5
    have hn5 : lsum vsz yss = n5 := by
      rw [← vecs_length, ← hy5, List.length_drop, List.length_take]; omega
    have hJ := Lib.hid (join_ok v5 yss w5 hr5 (by rw [hn5]; exact p2))
    rw [← hy5, hv5] at hJ
    clear hv5 hn5 hy5 ht5 hr5
    have q1 : 1 ≤ k5 + n5 := by omega
    have q2 : k5 + n5 ≤ zs.length := by omega
    generalize k5 + n5 = kk5 at *
    go_wp2_with fail
    refine hJ.out.mono ?_
    rintro e w6 ⟨v6, rfl, ho6, hk6⟩
    have hkj := hks.trans hk6
    obtain ⟨hna5, hcut⟩ := cutk (HR.out.kept hkj) q1 q2
    have hs5' := strs hcut
    have hs6 := strs ho6.rd
    have hcz5 : ¬ cap = 0 := by omega
    clear hcut ho6 hJ
    generalize strOfNums (zs.take kk5.toNat) = s5 at *
    have d5 : decide (kk5 < 1) = false := decide_eq_false (by omega)
    have d6 : decide ((zs.length : Int) < kk5) = false := decide_eq_false (by omega)
    have q3 : 0 ≤ kk5 := by omega
    have q4 : kk5 ≤ (cap : Int) := by omega
    (try (obtain ⟨ad, rfl⟩ : ∃ ad, a = some ad := by cases a with | none => exact absurd rfl hna5 | some x => exact ⟨x, rfl⟩))
    clear hna5
    go_wp2_with fail
    go_quiet (fail)
    have hkj' := Lib.hid (fun n => hkj.drewN n)
    go_wp2_with fail
    refine (takeOpt_any _ zs _ (HR.out.kept (hkj'.out _)) HB.out (by omega)).mono ?_
    rintro e w7 ⟨hop, hk7⟩
    have hkt := (hkj'.out _).trans hk7
    rcases hop with ⟨e, hne, rfl⟩ | ⟨hl0, hz0, rfl⟩ | ⟨v7, n7, k7, hl0, hz0, ht7, hs7, rfl, ho7⟩
    · have hne' : (e != 0) = true := by rw [bne_iff_ne]; exact hne
      clear hne
      go_wp2_with fail
      go_ret
      exact ⟨rfl, hkt⟩
    · have hL := opt_none (.slice none 0 0) w7
      go_wp2_with fail
      refine hL.mono ?_
      rintro e w8 ⟨v8, rfl, ho8, hk8⟩
      have hkz := hkt.trans hk8
      obtain ⟨hna, hcut⟩ := cutk (HR.out.kept hkz) (k := 1) (by omega) (by omega)
      have e1 : zs.take (1 : Int).toNat = [0] := by
        obtain ⟨x, r, rfl⟩ := list1 zs hl0
        have : x = 0 := hz0
        subst this; rfl
      rw [e1, show (1 : Int).toNat = 1 from rfl] at hcut
      have hs1 := strs hcut
      have hs8 := strs ho8.rd
      have hcz : ¬ cap = 0 := by omega
      clear hcut ho8 e1 hz0
      generalize strOfNums [0] = s1 at *
      have d1 : decide ((1 : Int) ≤ (zs.length : Int)) = true := decide_eq_true (by omega)
      have d2 : decide (1 ≤ zs.length) = true := decide_eq_true (by omega)
      have d3 : decide (0 < zs.length) = true := decide_eq_true (by omega)
      have q4 : (1 : Int) ≤ (cap : Int) := by omega
      have q5 : 1 ≤ cap := by omega
      have q6 : 0 < cap := by omega
      (try (obtain ⟨ad, rfl⟩ : ∃ ad, a = some ad := by cases a with | none => exact absurd rfl hna | some x => exact ⟨x, rfl⟩))
      go_wp2_with fail
      go_quiet (fail)
      go_wp2_with fail
      go_ret
      exact ⟨rfl, hkz.drewN _⟩
    · obtain ⟨p1, p2, p3, p4⟩ : 0 ≤ n7 ∧ n7 < 1073741824 ∧ 1 ≤ k7 ∧ k7 ≤ (zs.drop 1).length := by
        have := takeI_ok (HB.out.drop 1) (by rw [ht7])
        rw [ht7] at this
        exact this
      have hdl : ((zs.drop 1).length : Int) = zs.length - 1 := by rw [List.length_drop]; omega
      have hv7 := vecB_take (HB.out.drop 1) ht7 hs7
      have hpl : ((((zs.drop 1).take (k7 + n7).toNat).drop k7.toNat).length : Int) < 1073741824 := by
        simp only [List.length_drop, List.length_take]; omega
      have hL := Lib.hid (opt_ok v7 _ w7 ho7.rd hpl)
      rw [hv7] at hL
      have e1 : zs.take (1 + (k7 + n7)).toNat = 1 :: (zs.drop 1).take (k7 + n7).toNat := by
        obtain ⟨x, r, rfl⟩ := list1 zs hl0
        have : x = 1 := hz0
        subst this
        have e2 : (1 + (k7 + n7)).toNat = (k7 + n7).toNat + 1 := by omega
        rw [e2]; rfl
      clear hv7 hpl ho7 ht7 hz0
      have q1 : 1 ≤ 1 + (k7 + n7) := by omega
      have q2 : 1 + (k7 + n7) ≤ zs.length := by omega
      go_wp2_with fail
      refine hL.out.mono ?_
      rintro e w8 ⟨v8, rfl, ho8, hk8⟩
      have hkz := hkt.trans hk8
      obtain ⟨hna, hcut⟩ := cutk (HR.out.kept hkz) q1 q2
      rw [← e1] at ho8
      have hs1 := strs hcut
      have hs8 := strs ho8.rd
      have hcz : ¬ cap = 0 := by omega
      clear hcut ho8 e1 hdl
      generalize strOfNums (zs.take (1 + (k7 + n7)).toNat) = s1 at *
      generalize 1 + (k7 + n7) = kk at *
      have d1 : decide (1 ≤ kk) = true := decide_eq_true q1
      have d2 : decide (kk ≤ (zs.length : Int)) = true := decide_eq_true q2
      have q3 : 0 ≤ kk := by omega
      have q4 : kk ≤ (cap : Int) := by omega
      (try (obtain ⟨ad, rfl⟩ : ∃ ad, a = some ad := by cases a with | none => exact absurd rfl hna | some x => exact ⟨x, rfl⟩))
      go_wp2_with fail
      go_quiet (fail)
      go_wp2_with fail
      go_ret
      exact ⟨rfl, hkz.drewN _⟩

theorem one_walk {W : World} (v : Value) (zs : List Int) (h : Rd W v zs) (hb : By zs) (hl : zs.length ≤ 140737488351232) (w : World) (hw : W = w) :
    Calls Try.prog 5 #[v] w fun e w' => e = .returned (.bool true) ∧ Kept w w' := by
  subst hw
  by_cases hg : (zs.length : Int) < 100000
  · by_cases he : (takeI zs).2.2 = 0
    · exact one_small_ok v zs W h hb hg _ _ _ rfl he
    · exact one_small_err v zs W h hb hg _ _ _ rfl he
  · exact one_big v zs W h hb (by omega) (by omega)
end Go.Proofs.Ythjjmadfdfjjdaa
