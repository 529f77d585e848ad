/- Texts of one proof, put together: TsJa. -/
import Derived.Test.YtdjfdobcjakmhaaDoorMg14
section
/- The walk of TranscriptApart. -/
set_option linter.unusedSimpArgs false
set_option linter.unusedVariables false
namespace Go.Proofs.YtdjfdobcjakmhaaDoor
open Go.RowKit Go.Maps

theorem Tryd.infoMsg : (Tryd.prog.info? 50).map (fun i => (i.zero, i.size, i.bytes)) = some (some (.agg #[.int .i64 0, .int .i64 0, .int .i64 0]), 3, 24) := by kernel_rfl
theorem mflat_one (l : List Msg) : ∀ u ∈ mflat l, u.oneCell' = true := by
  induction l with
  | nil => intro u hu; cases hu
  | cons m l ih =>
    intro u hu
    rcases List.mem_append.1 hu with h | h
    · simp only [mcs, List.mem_cons, List.not_mem_nil, or_false] at h
      rcases h with rfl | rfl | rfl <;> rfl
    · exact ih u h
def OwnMs (B : Nat) (w : World) (v : Value) (l : List Msg) : Prop := Ownv B 50 3 w v l.length (mflat l)
theorem OwnMs.rd {B : Nat} {w : World} {v : Value} {l : List Msg} (h : OwnMs B w v l) : RdMs w v l := Ownv.rdv h
theorem OwnMs.nil (B : Nat) (w : World) : OwnMs B w (.slice none 0 0) [] := World.ownsRow_nil w B _ 3
theorem go_app_msg {w : World} {ops : Array Oper} {rest : List Oper} {a : Act} {Q : Exit → Act → World → Prop} {d : Option Tmp} {ty : TypeId} {ps : String} {af : Array Edge} {s x : Operand}
    (B : Nat) (v : Value) (l : List Msg) (hs : a.eval s = v) (ho : OwnMs B w v l) (u : Value) (m : List Msg) (hx : a.eval x = u) (hr : RdMs w u m)
    (hl : l.length + m.length ≤ 10000) (hB : B ≤ w.heap.size)
    (hK : ∀ v' w', OwnMs B w' v' (l ++ m) → Turn (Blks v) w w' → (∀ b, Blks v' b → Blks v b ∨ w.heap.size ≤ b) → wpList Tryd.prog ops Q rest (a.put d v') w') :
    wpList Tryd.prog ops Q (⟨d, .call { callee := .builtin .append, args := #[s, x], argTypes := #[49, 49] }, ty, ps, af, none⟩ :: rest) a w := by
  obtain ⟨i0, hi, hz0, hz1, hz2⟩ := info_parts Tryd.infoMsg
  refine go_app_at B 50 3 24 i0 _ Tryd.underlying49 hi hz0 hz1 hz2 rfl (by decide) v l.length (mflat l) hs ho u m.length (mflat m) hx hr (mflat_one m) (by unfold maxLen; omega) (by omega) hB ?_
  intro v' w' ho' hg hloc
  refine hK v' w' ?_ hg hloc
  unfold OwnMs
  rw [List.length_append, mflat_append]
  exact ho'
theorem atom_inj {a b : Int} (h : atomT a = atomT b) : a = b := by
  simp only [atomT, Tr.mk.injEq] at h
  exact h.2.1
/-- Places of two chains: the same hash, just if all is the same up to there. -/
theorem cf_step {start : Int} {l m : List Msg} {i : Nat} {A : Bool} (hA : A = true ↔ stT atomT (atomT start) l i = stT atomT (atomT start) m i) :
    ((A && ((l.getD i msg0).content == (m.getD i msg0).content) && ((l.getD i msg0).sig == (m.getD i msg0).sig)) = true ↔ cfT atomT (atomT start) l i = cfT atomT (atomT start) m i) := by
  rw [cfT_iff, Bool.and_eq_true, Bool.and_eq_true, beq_iff_eq, beq_iff_eq, hA, and_assoc]
  constructor
  · rintro ⟨a, b, c⟩
    exact ⟨a, by rw [b], by rw [c]⟩
  · rintro ⟨a, b, c⟩
    exact ⟨a, atom_inj b, atom_inj c⟩
theorem st_step {start : Int} {l m : List Msg} {i : Nat} {H : Bool} (hH : H = true ↔ cfT atomT (atomT start) l i = cfT atomT (atomT start) m i) :
    ((H && ((l.getD i msg0).secret == (m.getD i msg0).secret)) = true ↔ stT atomT (atomT start) l (i + 1) = stT atomT (atomT start) m (i + 1)) := by
  rw [stT_iff, Bool.and_eq_true, beq_iff_eq, hH]
  constructor
  · rintro ⟨a, b⟩
    exact ⟨a, by rw [b]⟩
  · rintro ⟨a, b⟩
    exact ⟨a, atom_inj b⟩
theorem cf_same {es : List Nd} (hg : Good es) {T U : Tr} {x y : Int} (hx : Den T es x) (hy : Den U es y) {H : Bool} (hH : H = true ↔ T = U) : (x == y) = H := by
  by_cases h : x = y
  · subst h
    rw [beq_self_eq_true, eq_comm, hH, ← hx.2, ← hy.2]
  · rw [beq_eq_false_iff_ne.2 h]
    cases H with
    | false => rfl
    | true => exact absurd (by have := hH.1 rfl; subst this; exact hx.same hg hy) h
set_option maxHeartbeats 16000000 in
set_option maxRecDepth 100000 in
theorem apart12_walk {w : World} {start : Int} (is : I64 start) {v : Value} {l : List Msg} (hv : RdMs w v l) (im : ∀ m ∈ l, I64 m.content ∧ I64 m.sig ∧ I64 m.secret) {u : Value} {m : List Msg} (hu : RdMs w u m) (jm : ∀ x ∈ m, I64 x.content ∧ I64 x.sig ∧ I64 x.secret) (ht : Tabs w) (hte : TabsE w) :
    Calls Tryd.prog 5 #[.int .i64 start, v, u] w fun e w' => e = .returned (.bool true) ∧ Kept w w' := by
  have HT := Lib.hid ht
  have HTE := Lib.hid hte
  have HV := Lib.hid hv
  have HU := Lib.hid hu
  have IM := Shut.mk im
  have JM := Shut.mk jm
  have IS := Shut.mk is
  obtain ⟨va, vc, rfl, v1, v2, v3⟩ := hv.len
  obtain ⟨ua, uc, rfl, u1, u2, u3⟩ := hu.len
  have l63 : ((l.length : Nat) : Int) ≤ 9223372036854775807 := by unfold maxLen at v2; omega
  have m63 : ((m.length : Nat) : Int) ≤ 9223372036854775807 := by unfold maxLen at u2; omega
  clear ht hte hv im is v1 hu jm u1 v2 v3 u2 u3
  by_cases h40 : l.length ≤ 40
  · have d40 : ¬ (40 : Int) < (l.length : Int) := by omega
    have d40' : decide ((40 : Int) < (l.length : Int)) = false := decide_eq_false (by omega)
    have H40 := Shut.mk h40
    clear h40
    by_cases g40 : m.length ≤ 40
    · have e40 : ¬ (40 : Int) < (m.length : Int) := by omega
      have e40' : decide ((40 : Int) < (m.length : Int)) = false := decide_eq_false (by omega)
      have G40 := Shut.mk g40
      clear g40
      go_enter Tryd.func5, Tryd.ntmps5
      go_wp2_with fail
      (with_reducible refine (live12_any HT.out HTE.out).mono ?_); rintro e w1 ⟨rfl, k1⟩
      have ks : Kept w1 (w1.alloc (.cells #[.int .i64 start] 3)) := (Kept.refl w1).alloc _
      have HB := Lib.hid (beyond_any (RdI.sl1 w1 start) 10)
      go_wp2_with fail
      generalize w1.alloc (.cells #[.int .i64 start] 3) = w1' at *
      (with_reducible refine HB.out.mono ?_); rintro e w2 ⟨b1, rfl, hb1, k2⟩
      have K2 := Lib.hid ((k1.trans ks).trans k2)
      clear HB k1 ks k2
      cases b1 with
      | true =>
        clear hb1
        go_wp2
        go_ret
        exact ⟨rfl, K2.out⟩
      | false =>
        have NS := Shut.mk (hb1 rfl)
        clear hb1
        have hv2 := HV.out.kept K2.out
        have hu2 := HU.out.kept K2.out
        have hlm := Shut.mk (And.intro H40.out G40.out)
        obtain ⟨n, hn⟩ : ∃ n : List Msg, n = [] ++ l ++ m := ⟨_, rfl⟩
        have HNM := Shut.mk hn
        clear hn
        go_wp2_with (first
          | (at_builtin; refine go_app_msg 0 (.slice none 0 0) [] rfl (OwnMs.nil 0 w2) _ l rfl hv2 (by have := hlm.out; simp; omega) (Nat.zero_le _) ?_; intro v3 w3 o3 t3 l3; have hu3 : RdMs w3 (.slice ua m.length uc) m := hu2.kept (Turn.keptOf (Kept.refl w2) t3 (fun b hb => by cases hb)))
          | (at_builtin; refine go_app_msg 0 v3 ([] ++ l) rfl o3 _ m rfl hu3 (by have := hlm.out; simp; omega) (Nat.zero_le _) ?_; intro v4 w4 o4 t4 l4; have o4' : OwnMs 0 w4 v4 n := (by rw [HNM.out]; exact o4); obtain ⟨qa, qc, rfl, _, _, _⟩ := (OwnMs.rd o4').len))
        have R4 := Lib.hid (OwnMs.rd o4')
        have kk4 : Kept w2 w4 := Turn.keptOf (Turn.keptOf (Kept.refl w2) t3 (fun b hb => by cases hb)) t4 (fun b hb => by
          rcases l3 b hb with c | c
          · cases c
          · exact c)
        have K4 := Lib.hid (K2.out.trans kk4)
        have hnl : n.length ≤ 80 := by rw [HNM.out, List.nil_append, List.length_append]; have := hlm.out; omega
        have n63 : ((n.length : Nat) : Int) ≤ 9223372036854775807 := by omega
        clear kk4 o4 o4' t4 l4 o3 t3 l3 hu3 hv2 hu2 K2 hnl
        have HMEM := Shut.mk (show (∀ x ∈ l, x ∈ n) ∧ (∀ x ∈ m, x ∈ n) by rw [HNM.out, List.nil_append]; exact ⟨fun x hx => List.mem_append_left _ hx, fun x hx => List.mem_append_right _ hx⟩)
        clear HNM
        go_wp2
        go_loopw [39] (fun i wr => ∃ j : Nat, j ≤ n.length ∧ i = .int .i64 j ∧ (∀ q, q < j → Near 10 (n.getD q msg0).l) ∧ Kept w4 wr) (fun i _ => n.length - (intOf i).toNat)
        case atStart => exact ⟨0, Nat.zero_le _, rfl, (fun q hq => absurd hq (Nat.not_lt_zero _)), Kept.refl _⟩
        case round =>
          obtain ⟨j, hj, rfl, hnr, hkw⟩ := hrel
          have HNR := Shut.mk hnr
          have HKW := Lib.hid hkw
          clear hnr hkw
          by_cases hlt : j < n.length
          · obtain ⟨gb, go, gc, hve, hrow⟩ := (R4.out.kept HKW.out).at hlt
            simp only [Value.slice.injEq] at hve
            obtain ⟨rfl, _, rfl⟩ := hve
            obtain ⟨x, hmm⟩ : ∃ x, x = n.getD j msg0 := ⟨_, rfl⟩
            rw [← hmm] at hrow
            have HM := Shut.mk hmm
            clear hmm
            obtain ⟨x0, x1, x2⟩ := RdMs.cells hrow
            obtain ⟨mc, mg, mk⟩ := x
            simp only at x0 x1 x2
            have bm := Blk.new wr [.int .i64 mc, .int .i64 mg, .int .i64 mk] 50
            have km : Kept wr (wr.alloc (.cells #[.int .i64 mc, .int .i64 mg, .int .i64 mk] 50)) := (Kept.refl wr).alloc _
            have HB := Lib.hid (beyond_any (rdi_arr bm) 10)
            clear hrow
            go_wp2_with fail
            (with_reducible refine HB.out.mono ?_); rintro e w5 ⟨b4, rfl, hb4, k4⟩
            have K5 := Lib.hid ((HKW.out.trans km).trans k4)
            clear HB km k4 bm x0 x1 x2
            cases b4 with
            | true =>
              clear hb4
              have KE := Shut.mk (K4.out.trans K5.out)
              go_wp2
              go_ret
              exact ⟨rfl, KE.out⟩
            | false =>
              have N4 := Shut.mk (hb4 rfl)
              clear hb4
              go_wp2
              go_roundw
              case rel => exact ⟨j + 1, hlt, by go_num, fun q hq => by
                by_cases c : q < j
                · exact HNR.out q c
                · obtain rfl : q = j := by omega
                  rw [← HM.out]; exact N4.out, K5.out⟩
              case measure => simp [intOf]; omega
          · have NR := Shut.mk (show ∀ x ∈ n, Near 10 x.l from fun x hm => by
              obtain ⟨q, hq, rfl⟩ := List.getElem_of_mem hm
              have := HNR.out q (by omega)
              rwa [List.getD_eq_getElem?_getD, List.getElem?_eq_getElem hq] at this)
            have KW := Lib.hid (K4.out.trans HKW.out)
            clear HNR R4 HKW K4
            go_wp2_with fail
            have HTr := Lib.hid (HT.out.kept KW.out)
            (with_reducible refine (two12_any HTr.out).mono ?_); rintro e w5 ⟨p, q, pa, rfl, rfl, F, G, hA, hR, hFG, hF, hG, k5⟩
            have a5' := At.mkA hA hF k5 HTr.out
            have A5 : At wr (fun b => b < wr.heap.size) w5 (.pointer (some pa)) (atomsL 10 ++ []) := by rw [List.append_nil]; exact a5'
            have HVK := Lib.hid (fun W (kk : Keep (fun b => b < wr.heap.size) w5 W) => HV.out.kept (Keep.of (KW.out.trans k5) kk (fun b hb => Nat.lt_of_lt_of_le hb KW.out.size)))
            have HC1 := Lib.hid (PChain_any A5 HVK.out (fun x hx => NR.out x (HMEM.out.1 x hx)) IM.out NS.out IS.out H40.out (by simp))
            have HSS := Shut.mk (show ∀ b, b < w.heap.size → (fun b => b < wr.heap.size) b from fun b hb => Nat.lt_of_lt_of_le hb KW.out.size)
            have HKK := Lib.hid (KW.out.trans k5)
            clear hA hR hFG hF hG k5 a5' A5 KW HTr HVK
            generalize (fun b => b < wr.heap.size : Nat → Prop) = S at *
            go_wp2_with fail
            (with_reducible refine HC1.out.mono ?_); rintro e w6 ⟨s, v6, xs, rfl, a6, hs6, o6, bl6, k6, ht6, hf6⟩
            have KF := Lib.hid (Keep.of HKK.out k6 (fun b hb => HSS.out b hb))
            have HUK := Lib.hid (fun W (kk : Keep (SB S v6) w6 W) => HU.out.kept (Keep.of KF.out kk (fun b hb => .inl (HSS.out b hb))))
            have A6 : At wr (SB S v6) w6 (.pointer (some pa)) (atomsL 10 ++ ([] ++ s)) := a6
            have HC2 := Lib.hid (PChain_any A6 HUK.out (fun x hx => NR.out x (HMEM.out.2 x hx)) JM.out NS.out IS.out G40.out (by rw [List.nil_append]; have := H40.out; omega))
            have O6 := Lib.hid o6
            have T6 := Shut.mk ht6
            have F6 := Shut.mk hf6
            have E6 := Lib.hid (A6.good)
            obtain ⟨xa, xc, rfl, x1, x2, x3⟩ := (OwnI.rd o6).len
            clear HC1 HKK k6 A6 a6 HUK o6 bl6 hs6 ht6 hf6
            go_wp2_with fail
            (with_reducible refine HC2.out.mono ?_); rintro e w7 ⟨s2, v7, ys, rfl, a7, hs7, o7, bl7, k7, ht7, hf7⟩
            have KF7 := Lib.hid (Keep.of KF.out k7 (fun b hb => .inl (HSS.out b hb)))
            have O6' := Lib.hid (OwnI.rd (k7.owni O6.out (fun b hb => .inr hb)))
            have O7 := Lib.hid (OwnI.rd o7)
            have G7 := Lib.hid a7.good
            have T7 := Shut.mk ht7
            have F7 := Shut.mk hf7
            obtain ⟨ya, yc, rfl, y1, y2, y3⟩ := (OwnI.rd o7).len
            clear HC2 k7 a7 o7 bl7 hs7 ht7 hf7 O6 KF
            cases hcb : chB start l with
            | false =>
              obtain rfl := F6.out hcb
              cases hcc : chB start m with
              | false =>
                obtain rfl := F7.out hcc
                clear F6 F7 T6 T7
                unfold eB
                go_wp2
                go_ret
                exact ⟨rfl, KF7.out⟩
              | true =>
                clear F6 F7 T6 T7
                unfold eB
                go_wp2
                go_ret
                exact ⟨rfl, KF7.out⟩
            | true =>
              cases hcc : chB start m with
              | false =>
                obtain rfl := F7.out hcc
                clear F6 F7 T6 T7
                unfold eB
                go_wp2
                go_ret
                exact ⟨rfl, KF7.out⟩
              | true =>
                have hxl := (T6.out hcb).1
                have hyl := (T7.out hcc).1
                have HD := Shut.mk (fun i (hi : i < l.length) (hj : i < m.length) {H : Bool} (hH : H = true ↔ cfT atomT (atomT start) l i = cfT atomT (atomT start) m i) => cf_same G7.out (by have := ((T6.out hcb).2 i hi).more s2; rw [List.append_assoc] at this; exact this) ((T7.out hcc).2 i hj) hH)
                have hne1 : ((xs.length : Int) != (l.length : Int)) = false := by rw [hxl]; simp
                have hne2 : ((ys.length : Int) != (m.length : Int)) = false := by rw [hyl]; simp
                have HXY := Shut.mk (And.intro hxl hyl)
                clear F6 F7 T6 T7 hcb hcc hxl hyl
                unfold eB
                go_wp2_with fail
                go_loopw [16, 107] (fun av iv wr' => ∃ (j : Nat) (A : Bool), (j ≤ l.length ∧ j ≤ m.length) ∧ iv = .int .i64 j ∧ av = .bool A ∧ (A = true ↔ stT atomT (atomT start) l j = stT atomT (atomT start) m j) ∧ Kept w7 wr') (fun _ iv _ => l.length - (intOf iv).toNat)
                case atStart => exact ⟨0, true, ⟨Nat.zero_le _, Nat.zero_le _⟩, rfl, rfl, by simp [stT], Kept.refl _⟩
                case round =>
                  obtain ⟨j, A, ⟨hj1, hj2⟩, rfl, rfl, hA, hkw⟩ := hrel
                  by_cases hlt : j < l.length ∧ j < m.length
                  · obtain ⟨hl1, hl2⟩ := hlt
                    have dm : decide ((j : Int) < min (l.length : Int) (m.length : Int)) = true := decide_eq_true (by omega)
                    obtain ⟨lb, lo, lcp, hve, hrow⟩ := (HV.out.kept (KF7.out.trans hkw)).at hl1
                    simp only [Value.slice.injEq] at hve
                    obtain ⟨rfl, _, rfl⟩ := hve
                    obtain ⟨mb, mo, mcp, hve, hrow2⟩ := (HU.out.kept (KF7.out.trans hkw)).at hl2
                    simp only [Value.slice.injEq] at hve
                    obtain ⟨rfl, _, rfl⟩ := hve
                    obtain ⟨xb, xo, xcp, hve, _, _, _, hcx⟩ := (O6'.out.kept hkw).addr (by have := HXY.out; omega)
                    simp only [Value.slice.injEq] at hve
                    obtain ⟨rfl, _, rfl⟩ := hve
                    obtain ⟨yb, yo, ycp, hve, _, _, _, hcy⟩ := (O7.out.kept hkw).addr (by have := HXY.out; omega)
                    simp only [Value.slice.injEq] at hve
                    obtain ⟨rfl, _, rfl⟩ := hve
                    have qx := hcx j (by have := HXY.out; omega)
                    have qy := hcy j (by have := HXY.out; omega)
                    obtain ⟨l0, l1, l2⟩ := RdMs.cells hrow
                    obtain ⟨m0, m1, m2⟩ := RdMs.cells hrow2
                    clear hcx hcy hrow hrow2
                    have hC := cf_step hA
                    have hS := st_step hC
                    have hxy := HD.out j hl1 hl2 hC
                    obtain ⟨c0, e0⟩ : ∃ c, ((l.getD j msg0).content == (m.getD j msg0).content) = c := ⟨_, rfl⟩
                    obtain ⟨c1, e1⟩ : ∃ c, ((l.getD j msg0).sig == (m.getD j msg0).sig) = c := ⟨_, rfl⟩
                    obtain ⟨c2, e2⟩ : ∃ c, ((l.getD j msg0).secret == (m.getD j msg0).secret) = c := ⟨_, rfl⟩
                    rw [e0, e1] at hxy hS
                    rw [e2] at hS
                    clear hC hA
                    generalize xs.getD j 0 = xv at *
                    generalize ys.getD j 0 = yv at *
                    generalize l.getD j msg0 = lm at *
                    generalize m.getD j msg0 = mm at *
                    obtain ⟨p0, p1, p2⟩ := lm
                    obtain ⟨r0, r1, r2⟩ := mm
                    simp only at l0 l1 l2 m0 m1 m2 e0 e1 e2
                    have j0 : (0 : Int) ≤ (j : Int) := by omega
                    have j1 : (j : Int) < (l.length : Int) := by omega
                    have j2 : (j : Int) < (m.length : Int) := by omega
                    have j3 : (j : Int) < (xs.length : Int) := by have := HXY.out; omega
                    have j4 : (j : Int) < (ys.length : Int) := by have := HXY.out; omega
                    have HS := Shut.mk hS
                    have HLT := Shut.mk (And.intro hl1 hl2)
                    have HKW := Lib.hid hkw
                    clear hS hl1 hl2 hkw
                    cases A with
                    | false =>
                      simp only [Bool.and_true, Bool.and_false, Bool.true_and, Bool.false_and] at hxy
                      have HS2 := Shut.mk (show (false = true ↔ stT atomT (atomT start) l (j + 1) = stT atomT (atomT start) m (j + 1)) by have := HS.out; simpa using this)
                      clear HS
                      go_upto_region 21 with fail
                      go_quiet (fail)
                      go_wp2
                      go_quiet (fail)
                      go_wp2
                      go_quiet (fail)
                      go_wp2
                      go_roundw
                      case rel => exact ⟨j + 1, false, ⟨HLT.out.1, HLT.out.2⟩, by go_num, rfl, (by have := HS2.out; simpa using this), HKW.out.drewN _⟩
                      case measure => have := HLT.out; simp [intOf]; omega
                    | true =>
                      cases c0 with
                      | false =>
                        simp only [Bool.and_true, Bool.and_false, Bool.true_and, Bool.false_and] at hxy
                        have HS2 := Shut.mk (show (false = true ↔ stT atomT (atomT start) l (j + 1) = stT atomT (atomT start) m (j + 1)) by have := HS.out; simpa using this)
                        clear HS
                        go_upto_region 21 with fail
                        go_quiet (fail)
                        go_wp2
                        go_quiet (fail)
                        go_wp2
                        go_quiet (fail)
                        go_wp2
                        go_roundw
                        case rel => exact ⟨j + 1, false, ⟨HLT.out.1, HLT.out.2⟩, by go_num, rfl, (by have := HS2.out; simpa using this), HKW.out.drewN _⟩
                        case measure => have := HLT.out; simp [intOf]; omega
                      | true =>
                        cases c1 with
                        | false =>
                          simp only [Bool.and_true, Bool.and_false, Bool.true_and, Bool.false_and] at hxy
                          have HS2 := Shut.mk (show (false = true ↔ stT atomT (atomT start) l (j + 1) = stT atomT (atomT start) m (j + 1)) by have := HS.out; simpa using this)
                          clear HS
                          go_upto_region 21 with fail
                          go_quiet (fail)
                          go_wp2
                          go_quiet (fail)
                          go_wp2
                          go_quiet (fail)
                          go_wp2
                          go_roundw
                          case rel => exact ⟨j + 1, false, ⟨HLT.out.1, HLT.out.2⟩, by go_num, rfl, (by have := HS2.out; simpa using this), HKW.out.drewN _⟩
                          case measure => have := HLT.out; simp [intOf]; omega
                        | true =>
                          cases c2 with
                          | false =>
                            simp only [Bool.and_true, Bool.and_false, Bool.true_and, Bool.false_and] at hxy
                            have HS2 := Shut.mk (show (false = true ↔ stT atomT (atomT start) l (j + 1) = stT atomT (atomT start) m (j + 1)) by have := HS.out; simpa using this)
                            clear HS
                            go_upto_region 21 with fail
                            go_quiet (fail)
                            go_wp2
                            go_quiet (fail)
                            go_wp2
                            go_quiet (fail)
                            go_wp2
                            go_roundw
                            case rel => exact ⟨j + 1, false, ⟨HLT.out.1, HLT.out.2⟩, by go_num, rfl, (by have := HS2.out; simpa using this), HKW.out.drewN _⟩
                            case measure => have := HLT.out; simp [intOf]; omega
                          | true =>
                            simp only [Bool.and_true, Bool.and_false, Bool.true_and, Bool.false_and] at hxy
                            have HS2 := Shut.mk (show (true = true ↔ stT atomT (atomT start) l (j + 1) = stT atomT (atomT start) m (j + 1)) by have := HS.out; simpa using this)
                            clear HS
                            go_upto_region 21 with fail
                            go_quiet (fail)
                            go_wp2
                            go_quiet (fail)
                            go_wp2
                            go_quiet (fail)
                            go_wp2
                            go_roundw
                            case rel => exact ⟨j + 1, true, ⟨HLT.out.1, HLT.out.2⟩, by go_num, rfl, (by have := HS2.out; simpa using this), HKW.out.drewN _⟩
                            case measure => have := HLT.out; simp [intOf]; omega
                  · have dm : decide ((j : Int) < min (l.length : Int) (m.length : Int)) = false := decide_eq_false (by omega)
                    have KE := Shut.mk (KF7.out.trans hkw)
                    go_wp2
                    go_ret
                    exact ⟨rfl, KE.out⟩
    · have e40 : (40 : Int) < (m.length : Int) := by omega
      have e40' : decide ((40 : Int) < (m.length : Int)) = true := decide_eq_true (by omega)
      clear g40
      go_enter Tryd.func5, Tryd.ntmps5
      go_wp2_with fail
      (with_reducible refine (live12_any HT.out HTE.out).mono ?_); rintro e w1 ⟨rfl, k1⟩
      go_wp2
      go_ret
      exact ⟨rfl, k1⟩
  · have d40 : (40 : Int) < (l.length : Int) := by omega
    have d40' : decide ((40 : Int) < (l.length : Int)) = true := decide_eq_true (by omega)
    clear h40
    go_enter Tryd.func5, Tryd.ntmps5
    go_wp2_with fail
    (with_reducible refine (live12_any HT.out HTE.out).mono ?_); rintro e w1 ⟨rfl, k1⟩
    go_wp2
    go_ret
    exact ⟨rfl, k1⟩
end Go.Proofs.YtdjfdobcjakmhaaDoor
end
